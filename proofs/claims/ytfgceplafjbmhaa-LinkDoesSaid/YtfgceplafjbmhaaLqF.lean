/- Whether a body was tried very often (the statement's own check). No condition but that the end lies in memory. -/
import Derived.Test.YtfgceplafjbmhaaLqG
namespace Go.Proofs.Ytfgceplafjbmhaa
open Go.RowKit
set_option linter.unusedVariables false
set_option linter.unusedSimpArgs false

def farB (l : List Bd) : Bool := l.any fun b => decide (5000 < b.tries)
theorem farB_no {l : List Bd} (h : farB l = false) : ∀ b ∈ l, b.tries ≤ 5000 := fun b hb => by
  have := List.any_eq_false.1 h b hb
  simp at this
  omega
theorem farB_take {l : List Bd} {k : Nat} {b : Bd} (hb : l[k]? = some b) : farB (l.take (k + 1)) = (farB (l.take k) || decide (5000 < b.tries)) := by
  unfold farB
  rw [List.take_add_one, hb, List.any_append]
  simp
theorem farB_at {l : List Bd} {k : Nat} {b : Bd} (hb : l[k]? = some b) (h : 5000 < b.tries) : farB l = true := List.any_eq_true.2 ⟨b, List.mem_of_getElem? hb, decide_eq_true h⟩
set_option maxRecDepth 100000 in
theorem far_any {F : Nat → Prop} {w : World} {q : Nat} {l : List Bd} {s m : Int} (h : QN F w q l s m) (hl : l.length ≤ 1048576) :
    Calls Try.prog 39 #[.pointer (some ⟨q, 0, none⟩)] w fun e w' => e = .returned (.bool (farB l)) ∧ w' = w := by
  obtain ⟨v, xs, hE, hxl⟩ := h
  have hxn : xs.length = l.length := by rw [← hxl, List.length_map]
  obtain ⟨e0, e1, e2⟩ := hE.fields
  obtain ⟨A, c, rfl, hfm⟩ := hE.own.form
  clear hfm
  rw [hxn] at hE e0
  obtain ⟨B, hB⟩ : ∃ B, farB l = B := ⟨_, rfl⟩
  rw [hB]
  have HB := Lib.hid hB
  have HX := Lib.hid hxn
  clear hB hxn
  go_enter Try.func39, Try.ntmps39
  go_wp2
  go_loop [3] (fun i => ∃ k : Nat, i = .int .i64 (k : Int) ∧ k ≤ l.length ∧ Hid (farB (l.take k) = false)) (fun i => l.length - (intOf i).toNat)
  case atStart => exact ⟨0, by go_num, by omega, Lib.hid rfl⟩
  case round =>
    obtain ⟨k, rfl, hk, hf⟩ := hrel
    by_cases hlt : k < l.length
    · have hlz : (k : Int) < (l.length : Int) := by omega
      have hk0 : (0 : Int) ≤ (k : Int) := by omega
      obtain ⟨g, x, rfl, hx, c0, c1, c2, c3⟩ := hE.own.place hlt
      have hxb : l[k]? = some x.b := by rw [← hxl, List.getElem?_map, hx]; rfl
      by_cases hd : 5000 < x.tries
      · have hdd : decide (5000 < x.tries) = true := decide_eq_true hd
        have HT := Lib.hid (HB.out.symm.trans (farB_at hxb hd))
        clear hd
        go_wp2
        go_ret
        exact ⟨by rw [HT.out]; rfl, rfl⟩
      · have hdd : decide (5000 < x.tries) = false := decide_eq_false hd
        have hf2 : Hid (farB (l.take (k + 1)) = false) := Lib.hid (by rw [farB_take hxb, hf.out]; exact hdd)
        clear hd
        go_wp2
        go_round
        case rel => exact ⟨k + 1, by go_num, by omega, hf2⟩
        case measure => simp [intOf]; omega
    · have hlz : ¬ (k : Int) < (l.length : Int) := by omega
      have HT : Hid (B = false) := Lib.hid (by rw [← HB.out, ← hf.out, List.take_of_length_le (by omega)])
      go_wp2
      go_ret
      exact ⟨by rw [HT.out]; rfl, rfl⟩
end Go.Proofs.Ytfgceplafjbmhaa
