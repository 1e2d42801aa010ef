/- What both have, and the rest, as the document has it, at lists that may be. No condition. -/
import Derived.Test.YtkofaobdpmbcaaaRBoth
import Derived.Test.YtkofaobdpmbcaaaOrd
import Derived.Test.YtkofaobdpmbcaaaKept6
namespace Go.Proofs.Ytkofaobdpmbcaaa
open Go.RowKit Go.Maps Go.Shelf
set_option linter.unusedVariables false
set_option linter.unusedSimpArgs false
theorem pos_left {f h : It → Int} {l : List It} (hh : ∀ x ∈ l, (if 0 < f x then some (x.1, f x) else none) = (if h x = 0 then none else some (x.1, h x))) : posL f l = leftL h l := fm_congr hh
theorem refmeet_any (A A' : Option Addr) (n c n' c' : Nat) (la lb : List It) (w : World) (hla : IL w A n la) (hlb : IL w A' n' lb) (hn : n * 24 ≤ 140737488355328) (hn' : n' ≤ 9223372036854775807) (ha : MY la) (hb : MY lb) :
    Calls Try.prog 26 #[.slice A n c, .slice A' n' c'] w fun e w' => ∃ v, e = .returned v ∧ OI w.heap.size w' v (meetL la lb) ∧ Below w.heap.size w w' := by
  have hm : meetL la lb = posL (fun x : It => min x.2 (ofL lb x.1)) la := by
    unfold meetL
    rw [MY.both ha hb]
    refine (pos_left fun x hx => ?_).symm
    have h1 := ha.num x hx
    have h2 := hb.nonneg x.1
    by_cases h0 : min x.2 (ofL lb x.1) = 0
    · rw [if_neg (by omega), if_pos h0]
    · rw [if_pos (by omega), if_neg h0]
  go_enter Try.func26, Try.ntmps26
  go_wp2_with fail
  refine (both_meet A A' n c n' c' la lb _ hla hlb hn hn').mono ?_
  rintro e w1 ⟨v, rfl, ho, hb1⟩
  go_wp2_with fail
  go_ret
  exact ⟨v, rfl, by rw [hm]; exact ho, hb1⟩
theorem refrest_any (A A' : Option Addr) (n c n' c' : Nat) (la lb : List It) (w : World) (hla : IL w A n la) (hlb : IL w A' n' lb) (hn : n * 24 ≤ 140737488355328) (hn' : n' ≤ 9223372036854775807) (ha : MY la) (hb : MY lb) :
    Calls Try.prog 16 #[.slice A n c, .slice A' n' c'] w fun e w' => ∃ v, e = .returned v ∧ OI w.heap.size w' v (restL la lb) ∧ Below w.heap.size w w' := by
  have hm : restL la lb = posL (fun x : It => wrap64 (x.2 - ofL lb x.1)) la := by
    unfold restL
    rw [MY.both ha hb]
    refine (pos_left fun x hx => ?_).symm
    by_cases h0 : 0 < wrap64 (x.2 - ofL lb x.1)
    · rw [if_pos h0, if_neg (by omega)]
      congr 2
      omega
    · rw [if_neg h0, if_pos (by omega)]
  go_enter Try.func16, Try.ntmps16
  go_wp2_with fail
  refine (both_rest A A' n c n' c' la lb _ hla hlb hn hn').mono ?_
  rintro e w1 ⟨v, rfl, ho, hb1⟩
  go_wp2_with fail
  go_ret
  exact ⟨v, rfl, by rw [hm]; exact ho, hb1⟩
theorem same_self (A A' : Option Addr) (n c n' c' : Nat) (l : List It) (w : World) (hl : IL w A n l) (hl' : IL w A' n' l) (hn : n ≤ 9223372036854775807) :
    Calls Try.prog 15 #[.slice A n c, .slice A' n' c'] w fun e w' => e = .returned (.bool true) ∧ Below w.heap.size w w' :=
  (same_b A A' n c n' c' l l w hl hl' hn).mono fun e w' ⟨h, q⟩ => ⟨by rw [h, decide_eq_true rfl], q⟩
theorem MY.wl {l : List It} (h : MY l) : WL l := fun x hx => by
  have h1 := h.good x hx
  have h2 := h.num x hx
  refine ⟨?_, wf_mk (by omega) (by omega)⟩
  unfold gOK at h1
  simp only [Bool.and_eq_true, decide_eq_true_eq] at h1
  unfold maxLen
  omega
end Go.Proofs.Ytkofaobdpmbcaaa
