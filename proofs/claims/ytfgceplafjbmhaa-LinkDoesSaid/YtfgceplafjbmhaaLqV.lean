/- An end's code is that end's: pure. No condition. -/
import Derived.Test.YtfgceplafjbmhaaLqU
namespace Go.Proofs.Ytfgceplafjbmhaa
open Go.RowKit
set_option linter.unusedVariables false
set_option linter.unusedSimpArgs false

theorem takeE_row {b : Bd} (h : okB b) (r : List UInt8) : takeE b.seq (some (rowE b ++ r)) = (b, some r) := by
  have h1 := h.text
  have h2 := h.t0
  have h3 := h.t1
  have h4 := h.d0
  have h5 := h.d1
  have e : rowE b ++ r = numCell (b.text.length : Int) ++ b.text ++ (numCell b.tries ++ (numCell b.due ++ r)) := by unfold rowE; simp only [List.append_assoc]
  have t1 : ttext (some (rowE b ++ r)) 2048 = (b.text, some (numCell b.tries ++ (numCell b.due ++ r))) := by
    rw [e]
    exact take_text b.text _ 2048 (by omega) (by omega)
  have t2 : tnum (some (numCell b.tries ++ (numCell b.due ++ r))) 1 topE = (b.tries, some (numCell b.due ++ r)) := take_num b.tries _ (by omega) h3 1 topE h2 h3
  have t3 : tnum (some (numCell b.due ++ r)) leastI topE = (b.due, some r) := take_num b.due r h4 h5 leastI topE h4 h5
  unfold takeE
  rw [t1]
  dsimp only
  rw [t2]
  dsimp only
  rw [t3]
theorem takesE_rows : ∀ (l : List Bd) (seq : Int) (r : List UInt8), (∀ b ∈ l, okB b) → (∀ (k : Nat) (b : Bd), l[k]? = some b → b.seq = seq + 1 + (k : Int)) → takesE l.length seq (some (rowsE l ++ r)) = (l, some r)
  | [], seq, r, _, _ => rfl
  | x :: l, seq, r, hok, hs => by
    have e : rowsE (x :: l) ++ r = rowE x ++ (rowsE l ++ r) := by simp [rowsE]
    have h0 : x.seq = seq + 1 := by have := hs 0 x rfl; omega
    have h1 := takeE_row (hok x (by simp)) (rowsE l ++ r)
    rw [h0] at h1
    have h2 := takesE_rows l (seq + 1) r (fun b hb => hok b (by simp [hb])) (fun k b hk => by have := hs (k + 1) b (by simpa using hk); omega)
    rw [List.length_cons, e]
    show (_ :: _, _) = _
    rw [h1]
    dsimp only
    rw [h2]
/-- The numbers of the open bodies: the last ones that were sent. -/
def SeqE (l : List Bd) (sent : Int) : Prop := (l.length : Int) ≤ sent ∧ ∀ (k : Nat) (b : Bd), l[k]? = some b → b.seq = sent - (l.length : Int) + 1 + (k : Int)
theorem decE_enc {l : List Bd} {sent mark : Int} (h : InvE l sent mark) (hs : SeqE l sent) : decE (encE l sent mark) = some (l, sent, mark) := by
  have hl := h.len
  have h0 := h.s0
  have h1 := h.m0
  have h2 := hs.1
  have a : tnum (some (encE l sent mark)) 0 topE = (sent, some (numCell mark ++ (numCell (l.length : Int) ++ rowsE l))) := take_num sent _ (by omega) h0.2 0 topE h0.1 h0.2
  have b : tnum (some (numCell mark ++ (numCell (l.length : Int) ++ rowsE l))) 0 topE = (mark, some (numCell (l.length : Int) ++ rowsE l)) := take_num mark _ (by omega) h1.2 0 topE h1.1 h1.2
  have c : tnum (some (numCell (l.length : Int) ++ rowsE l)) 0 (if sent < 64 then sent else 64) = ((l.length : Int), some (rowsE l)) := take_num (l.length : Int) _ (by omega) (by omega) 0 _ (by omega) (by split <;> omega)
  have d := takesE_rows l (sent - (l.length : Int)) [] h.ok (fun k b hk => by have := hs.2 k b hk; omega)
  rw [List.append_nil] at d
  unfold decE
  dsimp only
  rw [a]
  dsimp only
  rw [b]
  dsimp only
  rw [c]
  dsimp only
  unfold restE
  rw [Int.toNat_natCast, d]
  simp
end Go.Proofs.Ytfgceplafjbmhaa
