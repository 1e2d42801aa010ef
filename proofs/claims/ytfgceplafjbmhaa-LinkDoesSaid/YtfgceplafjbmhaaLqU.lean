/- What any bytes are as an end; the program's takeBody. No condition but that the bytes lie in memory. -/
import Derived.Test.YtfgceplafjbmhaaLqP
namespace Go.Proofs.Ytfgceplafjbmhaa
open Go.RowKit
set_option linter.unusedVariables false
set_option linter.unusedSimpArgs false

abbrev leastI : Int := -9223372036854775808
abbrev topE : Int := 9223372036854775807
/-- One body, taken. -/
def takeE (seq : Int) (st : Option (List UInt8)) : Bd × Option (List UInt8) :=
  (⟨seq, (ttext st 2048).1, (tnum (ttext st 2048).2 1 topE).1, (tnum (tnum (ttext st 2048).2 1 topE).2 leastI topE).1⟩, (tnum (tnum (ttext st 2048).2 1 topE).2 leastI topE).2)
/-- n bodies behind number seq. -/
def takesE : Nat → Int → Option (List UInt8) → List Bd × Option (List UInt8)
  | 0, _, st => ([], st)
  | n + 1, seq, st => ((takeE (seq + 1) st).1 :: (takesE n (seq + 1) (takeE (seq + 1) st).2).1, (takesE n (seq + 1) (takeE (seq + 1) st).2).2)
theorem takesE_len : ∀ (n : Nat) (seq : Int) (st : Option (List UInt8)), (takesE n seq st).1.length = n
  | 0, _, _ => rfl
  | n + 1, seq, st => by
    show (_ :: _).length = n + 1
    rw [List.length_cons, takesE_len n]
/-- The rest of an end: behind the bodies l, n more of them. -/
def restE (sent mark : Int) (n : Nat) (seq : Int) (l : List Bd) (st : Option (List UInt8)) : Option (List Bd × Int × Int) :=
  if (takesE n seq st).2 = some [] then some (l ++ (takesE n seq st).1, sent, mark) else none
theorem restE_step (sent mark : Int) (n : Nat) (seq : Int) (l : List Bd) (st : Option (List UInt8)) :
    restE sent mark (n + 1) seq l st = restE sent mark n (seq + 1) (l ++ [(takeE (seq + 1) st).1]) (takeE (seq + 1) st).2 := by
  unfold restE
  have e1 : (takesE (n + 1) seq st).2 = (takesE n (seq + 1) (takeE (seq + 1) st).2).2 := rfl
  have e2 : (takesE (n + 1) seq st).1 = (takeE (seq + 1) st).1 :: (takesE n (seq + 1) (takeE (seq + 1) st).2).1 := rfl
  by_cases h : (takesE n (seq + 1) (takeE (seq + 1) st).2).2 = some []
  · rw [if_pos (e1.trans h), if_pos h, e2, List.append_assoc, List.singleton_append]
  · rw [if_neg (by rw [e1]; exact h), if_neg h]
theorem restE_end (sent mark : Int) (seq : Int) (l : List Bd) (st : Option (List UInt8)) : restE sent mark 0 seq l st = if st = some [] then some (l, sent, mark) else none := by
  unfold restE
  simp only [takesE, List.append_nil]
/-- What any bytes are as an end. -/
def decE (c : List UInt8) : Option (List Bd × Int × Int) :=
  let a := tnum (some c) 0 topE
  let b := tnum a.2 0 topE
  let n := tnum b.2 0 (if a.1 < 64 then a.1 else 64)
  restE a.1 b.1 n.1.toNat (a.1 - n.1) [] n.2
theorem fill4 {w : World} {g : Nat} {t : TypeId} {z0 z1 z2 z3 : Value} (h : Blk w g t #[z0, z1, z2, z3]) (x0 x1 x2 x3 : Value) : Blk ((((w.setCell ⟨g, 0, none⟩ x0).setCell ⟨g, 1, none⟩ x1).setCell ⟨g, 2, none⟩ x2).setCell ⟨g, 3, none⟩ x3) g t #[x0, x1, x2, x3] := by
  have := (((h.set_ 0 x0).set_ 1 x1).set_ 2 x2).set_ 3 x3
  simpa using this
theorem keep4 (w : World) (g : Nat) (x0 x1 x2 x3 : Value) : Keep (fun k => k = g) w ((((w.setCell ⟨g, 0, none⟩ x0).setCell ⟨g, 1, none⟩ x1).setCell ⟨g, 2, none⟩ x2).setCell ⟨g, 3, none⟩ x3) :=
  ((((Keep.refl (fun k => k = g) w).setCell (p := ⟨g, 0, none⟩) (fun _ => rfl) x0).setCell (p := ⟨g, 1, none⟩) (fun _ => rfl) x1).setCell (p := ⟨g, 2, none⟩) (fun _ => rfl) x2).setCell (p := ⟨g, 3, none⟩) (fun _ => rfl) x3
theorem tnum_left {st : Option (List UInt8)} {a b : Int} (h : (tnum st a b).2.getD [] ≠ []) : st.getD [] ≠ [] := by
  intro he
  apply h
  cases st with
  | none => rfl
  | some l =>
    rw [Option.getD_some] at he
    subst he
    rfl
/-- What takeBody answers. -/
def TBPost (w : World) (g : Nat) (A : Option Addr) (seq : Int) (st : Option (List UInt8)) (e : Ending) (w' : World) : Prop :=
  ∃ A' c', e = .returned (.agg #[.int .i64 seq, .string ⟨(takeE seq st).1.text.toArray⟩, .int .i64 (takeE seq st).1.tries, .int .i64 (takeE seq st).1.due]) ∧ PT w' g A' c' (takeE seq st).2 ∧ Keep (fun k => k = g) w w' ∧ SameBlock A A'
set_option maxRecDepth 100000 in
set_option maxHeartbeats 1600000 in
theorem takeBody_any (w : World) (g : Nat) (A : Option Addr) (c : Nat) (st : Option (List UInt8)) (seq : Int) (h : PT w g A c st) (hA : st.getD [] ≠ [] → ∀ ad, A = some ad → ad.block < w.heap.size) :
    Calls Try.prog 62 #[.pointer (some ⟨g, 0, none⟩), .int .i64 seq] w (TBPost w g A seq st) := by
  have hgl := h.blk.lt
  have hz := Blk.new w 81 #[.int .i64 0, .string ⟨#[]⟩, .int .i64 0, .int .i64 0]
  have hal := (Below.refl w.heap.size w).alloc (Nat.le_refl _) (.cells #[.int .i64 0, .string ⟨#[]⟩, .int .i64 0, .int .i64 0] 81)
  have h1 : PT (w.alloc (.cells #[.int .i64 0, .string ⟨#[]⟩, .int .i64 0, .int .i64 0] 81)) g A c st := TKbelow h hal
  obtain ⟨nb, hnb⟩ : ∃ b, w.heap.size = b := ⟨_, rfl⟩
  rw [hnb] at hz hgl
  have ht := ttext_any _ g A c st 2048 h1
  unfold TBPost takeE
  obtain ⟨tx, htx⟩ : ∃ x, (ttext st 2048).1 = x := ⟨_, rfl⟩
  obtain ⟨s1, hs1⟩ : ∃ x, (ttext st 2048).2 = x := ⟨_, rfl⟩
  rw [htx, hs1] at ht ⊢
  obtain ⟨tr, htr⟩ : ∃ x, (tnum s1 1 topE).1 = x := ⟨_, rfl⟩
  obtain ⟨s2, hs2⟩ : ∃ x, (tnum s1 1 topE).2 = x := ⟨_, rfl⟩
  rw [htr, hs2]
  obtain ⟨du, hdu⟩ : ∃ x, (tnum s2 leastI topE).1 = x := ⟨_, rfl⟩
  obtain ⟨s3, hs3⟩ : ∃ x, (tnum s2 leastI topE).2 = x := ⟨_, rfl⟩
  rw [hdu, hs3]
  have hleft1 : s1.getD [] ≠ [] → st.getD [] ≠ [] := fun hne he => by
    apply hne
    rw [← hs1]
    cases st with
    | none => rfl
    | some l =>
      rw [Option.getD_some] at he
      subst he
      rfl
  go_enter Try.func62, Try.ntmps62
  go_wp2_with fail
  refine ht.mono ?_
  rintro e w1 ⟨A1, c1, rfl, h2, hk1, hsb1⟩
  unfold strV
  have ht := tnum_any _ g A1 c1 s1 1 topE h2
  rw [htr, hs2] at ht
  unfold topE at ht
  have hz1 := hz.kept hk1 (show ¬ nb = g by omega)
  go_wp2_with fail
  refine ht.mono ?_
  rintro e w2 ⟨A2, c2, rfl, h3, hk2, hsb2⟩
  have ht := tnum_any _ g A2 c2 s2 leastI topE h3
  rw [hdu, hs3] at ht
  unfold topE leastI at ht
  have hz2 := hz1.kept hk2 (show ¬ nb = g by omega)
  go_wp2_with fail
  refine ht.mono ?_
  rintro e w3 ⟨A3, c3, rfl, h4, hk3, hsb3⟩
  have hz3 := hz2.kept hk3 (show ¬ nb = g by omega)
  have z0 := hz3.cell 0
  have z1 := hz3.cell 1
  have z2 := hz3.cell 2
  have z3 := hz3.cell 3
  have zf := fun i => hz3.frozen i
  have zl := hz3.lt
  simp at z0 z1 z2 z3
  go_wp2_with fail
  have zE := fill4 hz3 (.int .i64 seq) (.string ⟨tx.toArray⟩) (.int .i64 tr) (.int .i64 du)
  have kE := keep4 w3 nb (.int .i64 seq) (.string ⟨tx.toArray⟩) (.int .i64 tr) (.int .i64 du)
  generalize (((w3.setCell ⟨nb, 0, none⟩ (.int .i64 seq)).setCell ⟨nb, 1, none⟩ (.string ⟨tx.toArray⟩)).setCell ⟨nb, 2, none⟩ (.int .i64 tr)).setCell ⟨nb, 3, none⟩ (.int .i64 du) = WE at zE kE ⊢
  have hleft : s3.getD [] ≠ [] → st.getD [] ≠ [] := fun hne => hleft1 (tnum_left (a := 1) (b := topE) (by rw [hs2]; exact tnum_left (a := leastI) (b := topE) (by rw [hs3]; exact hne)))
  have hE : PT WE g A3 c3 s3 := TK.kept' h4 kE (show ¬ g = nb by omega) (fun hl ad e e2 => by
    obtain ⟨a2, h2, e3⟩ := hsb3 ad e
    obtain ⟨a1, h1, e4⟩ := hsb2 a2 h2
    obtain ⟨a0, h0, e5⟩ := hsb1 a1 h1
    have h6 := hA (hleft (fun h9 => by rw [h9] at hl; exact absurd hl (by decide))) a0 h0
    have h7 : ad.block = nb := e2
    omega)
  have hkE : Keep (fun k => k = g) w WE := ((((Keep.of_below' hal).trans hk1 (fun i hi e => e)).trans hk2 (fun i hi e => e)).trans hk3 (fun i hi e => e)).trans (kE.mono (T := fun k => k = nb) (fun _ _ e => e)) (fun i hi e => by omega)
  have hsE : SameBlock A A3 := fun ad e => by
    obtain ⟨a2, h2, e3⟩ := hsb3 ad e
    obtain ⟨a1, h1, e4⟩ := hsb2 a2 h2
    obtain ⟨a0, h0, e5⟩ := hsb1 a1 h1
    exact ⟨a0, h0, by rw [e3, e4, e5]⟩
  have y0 := zE.cell 0
  have y1 := zE.cell 1
  have y2 := zE.cell 2
  have y3 := zE.cell 3
  simp at y0 y1 y2 y3
  refine bodyPost_ret (v := .agg #[.int .i64 seq, .string ⟨tx.toArray⟩, .int .i64 tr, .int .i64 du]) (by simp [results, Try.results62, go_sem, y0, y1, y2, y3]) rfl ?_
  exact ⟨A3, c3, rfl, hE, hkE, hsE⟩
end Go.Proofs.Ytfgceplafjbmhaa
