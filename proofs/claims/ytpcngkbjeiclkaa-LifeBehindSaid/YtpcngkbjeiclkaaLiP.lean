/- life's and its reference's switches: names, what may come behind, over, quiet, codes; slices.Index, slices.Contains of ints. No condition but that lists lie in memory. -/
import Derived.Test.YtpcngkbjeiclkaaApp5
import Derived.Lib.Hide
namespace Go.Proofs.Ytpcngkbjeiclkaa
open Go.RowKit
set_option linter.unusedVariables false
set_option linter.unusedSimpArgs false

/-- A state's name. -/
def nmK (k : Int) : List UInt8 :=
  if k = 1 then [97, 115, 107, 105, 110, 103] else if k = 2 then [104, 101, 108, 100] else if k = 3 then [119, 97, 105, 116, 105, 110, 103] else if k = 4 then [117, 110, 100, 111, 105, 110, 103] else if k = 5 then [114, 101, 102, 117, 115, 101, 100] else if k = 6 then [103, 111, 110, 101] else if k = 7 then [112, 105, 99, 107, 105, 110, 103] else if k = 8 then [112, 105, 99, 107, 101, 100] else if k = 9 then [115, 104, 105, 112, 112, 105, 110, 103] else if k = 10 then [115, 104, 105, 112, 112, 101, 100] else []
/-- What may come behind a state. -/
def bhK (k : Int) : List Int :=
  if k = 1 then [1, 2, 3, 4, 5, 6] else if k = 2 then [4, 7] else if k = 3 then [1, 6] else if k = 4 then [3, 4, 5, 6] else if k = 7 then [7, 8] else if k = 8 then [9] else if k = 9 then [9, 10] else []
def overK (k : Int) : Bool := decide (k = 5 ∨ k = 6 ∨ k = 10)
def quietK (k : Int) : Bool := decide (k = 2 ∨ k = 3 ∨ k = 5 ∨ k = 6 ∨ k = 8 ∨ k = 10)
theorem kinds10 {k : Int} (h : 1 ≤ k ∧ k ≤ 10) : k = 1 ∨ k = 2 ∨ k = 3 ∨ k = 4 ∨ k = 5 ∨ k = 6 ∨ k = 7 ∨ k = 8 ∨ k = 9 ∨ k = 10 := by omega
theorem nmK_none {k : Int} (h : ¬ (1 ≤ k ∧ k ≤ 10)) : nmK k = [] := by
  unfold nmK
  repeat rw [if_neg (by omega)]
theorem bhK_none {k : Int} (h : ¬ (1 ≤ k ∧ k ≤ 10)) : bhK k = [] := by
  unfold bhK
  repeat rw [if_neg (by omega)]
theorem bhK_len (k : Int) : (bhK k).length ≤ 6 := by
  unfold bhK
  repeat' split
  all_goals decide
theorem bhK_in (k : Int) : ∀ x ∈ bhK k, 1 ≤ x ∧ x ≤ 10 := by
  unfold bhK
  repeat' split
  all_goals decide
theorem overK_none {k : Int} (h : ¬ (1 ≤ k ∧ k ≤ 10)) : overK k = false := decide_eq_false (by omega)
theorem quietK_none {k : Int} (h : ¬ (1 ≤ k ∧ k ≤ 10)) : quietK k = false := decide_eq_false (by omega)

set_option maxHeartbeats 1600000 in
theorem name_any (k : Int) (w : World) : Calls Try.prog 10 #[.int .i64 k] w fun e w' => e = .returned (.string ⟨(nmK k).toArray⟩) ∧ w' = w := by
  by_cases h : 1 ≤ k ∧ k ≤ 10
  · rcases kinds10 h with rfl | rfl | rfl | rfl | rfl | rfl | rfl | rfl | rfl | rfl
    all_goals (go_enter Try.func10, Try.ntmps10; go_wp2; go_ret; exact ⟨rfl, rfl⟩)
  · skip
    have h1 : (k == 1) = false := beq_eq_false_iff_ne.2 (by omega)
    have h2 : (k == 2) = false := beq_eq_false_iff_ne.2 (by omega)
    have h3 : (k == 3) = false := beq_eq_false_iff_ne.2 (by omega)
    have h4 : (k == 4) = false := beq_eq_false_iff_ne.2 (by omega)
    have h5 : (k == 5) = false := beq_eq_false_iff_ne.2 (by omega)
    have h6 : (k == 6) = false := beq_eq_false_iff_ne.2 (by omega)
    have h7 : (k == 7) = false := beq_eq_false_iff_ne.2 (by omega)
    have h8 : (k == 8) = false := beq_eq_false_iff_ne.2 (by omega)
    have h9 : (k == 9) = false := beq_eq_false_iff_ne.2 (by omega)
    have h10 : (k == 10) = false := beq_eq_false_iff_ne.2 (by omega)
    rw [nmK_none h]
    go_enter Try.func10, Try.ntmps10
    go_wp2
    go_ret
    exact ⟨rfl, rfl⟩

set_option maxHeartbeats 1600000 in
theorem over_any (k : Int) (w : World) : Calls Try.prog 18 #[.int .i64 k] w fun e w' => e = .returned (.bool (overK k)) ∧ w' = w := by
  by_cases h : 1 ≤ k ∧ k ≤ 10
  · rcases kinds10 h with rfl | rfl | rfl | rfl | rfl | rfl | rfl | rfl | rfl | rfl
    all_goals (go_enter Try.func18, Try.ntmps18; go_wp2; go_ret; exact ⟨rfl, rfl⟩)
  · skip
    have h1 : (k == 1) = false := beq_eq_false_iff_ne.2 (by omega)
    have h2 : (k == 2) = false := beq_eq_false_iff_ne.2 (by omega)
    have h3 : (k == 3) = false := beq_eq_false_iff_ne.2 (by omega)
    have h4 : (k == 4) = false := beq_eq_false_iff_ne.2 (by omega)
    have h5 : (k == 5) = false := beq_eq_false_iff_ne.2 (by omega)
    have h6 : (k == 6) = false := beq_eq_false_iff_ne.2 (by omega)
    have h7 : (k == 7) = false := beq_eq_false_iff_ne.2 (by omega)
    have h8 : (k == 8) = false := beq_eq_false_iff_ne.2 (by omega)
    have h9 : (k == 9) = false := beq_eq_false_iff_ne.2 (by omega)
    have h10 : (k == 10) = false := beq_eq_false_iff_ne.2 (by omega)
    rw [overK_none h]
    go_enter Try.func18, Try.ntmps18
    go_wp2
    go_ret
    exact ⟨rfl, rfl⟩

set_option maxHeartbeats 1600000 in
theorem behind_any (k : Int) (w : World) : Calls Try.prog 11 #[.int .i64 k] w fun e w' => ∃ v, e = .returned v ∧ OI w.heap.size w' v (bhK k) ∧ Below w.heap.size w w' := by
  by_cases h : 1 ≤ k ∧ k ≤ 10
  · rcases kinds10 h with rfl | rfl | rfl | rfl | rfl | rfl | rfl | rfl | rfl | rfl
    all_goals (go_enter Try.func11, Try.ntmps11; go_wp2; go_ret; (first | exact ⟨_, rfl, OI.nil _ _, Below.refl _ _⟩ | exact ⟨_, rfl, OI.built w.heap.size w (bhK _) (Nat.le_refl _) (by decide), (Below.refl _ w).alloc (Nat.le_refl _) _⟩))
  · skip
    have h1 : (k == 1) = false := beq_eq_false_iff_ne.2 (by omega)
    have h2 : (k == 2) = false := beq_eq_false_iff_ne.2 (by omega)
    have h3 : (k == 3) = false := beq_eq_false_iff_ne.2 (by omega)
    have h4 : (k == 4) = false := beq_eq_false_iff_ne.2 (by omega)
    have h5 : (k == 5) = false := beq_eq_false_iff_ne.2 (by omega)
    have h6 : (k == 6) = false := beq_eq_false_iff_ne.2 (by omega)
    have h7 : (k == 7) = false := beq_eq_false_iff_ne.2 (by omega)
    have h8 : (k == 8) = false := beq_eq_false_iff_ne.2 (by omega)
    have h9 : (k == 9) = false := beq_eq_false_iff_ne.2 (by omega)
    have h10 : (k == 10) = false := beq_eq_false_iff_ne.2 (by omega)
    rw [bhK_none h]
    go_enter Try.func11, Try.ntmps11
    go_wp2
    go_ret
    exact ⟨_, rfl, OI.nil _ _, Below.refl _ _⟩

set_option maxHeartbeats 1600000 in
theorem rbehind_any (k : Int) (w : World) : Calls Try.prog 12 #[.int .i64 k] w fun e w' => ∃ v, e = .returned v ∧ OI w.heap.size w' v (bhK k) ∧ Below w.heap.size w w' := by
  by_cases h : 1 ≤ k ∧ k ≤ 10
  · rcases kinds10 h with rfl | rfl | rfl | rfl | rfl | rfl | rfl | rfl | rfl | rfl
    all_goals (go_enter Try.func12, Try.ntmps12; go_wp2; go_ret; (first | exact ⟨_, rfl, OI.nil _ _, Below.refl _ _⟩ | exact ⟨_, rfl, OI.built w.heap.size w (bhK _) (Nat.le_refl _) (by decide), (Below.refl _ w).alloc (Nat.le_refl _) _⟩))
  · skip
    have h1 : (k == 1) = false := beq_eq_false_iff_ne.2 (by omega)
    have h2 : (k == 2) = false := beq_eq_false_iff_ne.2 (by omega)
    have h3 : (k == 3) = false := beq_eq_false_iff_ne.2 (by omega)
    have h4 : (k == 4) = false := beq_eq_false_iff_ne.2 (by omega)
    have h5 : (k == 5) = false := beq_eq_false_iff_ne.2 (by omega)
    have h6 : (k == 6) = false := beq_eq_false_iff_ne.2 (by omega)
    have h7 : (k == 7) = false := beq_eq_false_iff_ne.2 (by omega)
    have h8 : (k == 8) = false := beq_eq_false_iff_ne.2 (by omega)
    have h9 : (k == 9) = false := beq_eq_false_iff_ne.2 (by omega)
    have h10 : (k == 10) = false := beq_eq_false_iff_ne.2 (by omega)
    rw [bhK_none h]
    go_enter Try.func12, Try.ntmps12
    go_wp2
    go_ret
    exact ⟨_, rfl, OI.nil _ _, Below.refl _ _⟩

set_option maxHeartbeats 1600000 in
theorem quiet_any (k : Int) (w : World) : Calls Try.prog 17 #[.int .i64 k] w fun e w' => e = .returned (.bool (quietK k)) ∧ w' = w := by
  by_cases h : 1 ≤ k ∧ k ≤ 10
  · rcases kinds10 h with rfl | rfl | rfl | rfl | rfl | rfl | rfl | rfl | rfl | rfl
    all_goals (go_enter Try.func17, Try.ntmps17; go_wp2_with (go_at_call 18; refine (over_any _ _).mono ?_; rintro e w' ⟨rfl, rfl⟩); go_ret; exact ⟨rfl, rfl⟩)
  · skip
    have h1 : (k == 1) = false := beq_eq_false_iff_ne.2 (by omega)
    have h2 : (k == 2) = false := beq_eq_false_iff_ne.2 (by omega)
    have h3 : (k == 3) = false := beq_eq_false_iff_ne.2 (by omega)
    have h4 : (k == 4) = false := beq_eq_false_iff_ne.2 (by omega)
    have h5 : (k == 5) = false := beq_eq_false_iff_ne.2 (by omega)
    have h6 : (k == 6) = false := beq_eq_false_iff_ne.2 (by omega)
    have h7 : (k == 7) = false := beq_eq_false_iff_ne.2 (by omega)
    have h8 : (k == 8) = false := beq_eq_false_iff_ne.2 (by omega)
    have h9 : (k == 9) = false := beq_eq_false_iff_ne.2 (by omega)
    have h10 : (k == 10) = false := beq_eq_false_iff_ne.2 (by omega)
    have ho := overK_none h
    rw [quietK_none h]
    go_enter Try.func17, Try.ntmps17
    go_wp2_with (go_at_call 18; refine (over_any _ _).mono ?_; rintro e w' ⟨rfl, rfl⟩)
    go_ret
    exact ⟨rfl, rfl⟩

/-- What is told: the code, and whether. -/
def ordK (s : Int) : Int × Bool := if s = 2 then (0, true) else if s = 3 then (200, true) else if s = 5 then (51, true) else if s = 6 then (4, true) else (0, false)
theorem ordK_none {k : Int} (h : ¬ (1 ≤ k ∧ k ≤ 10)) : ordK k = (0, false) := by
  unfold ordK
  repeat rw [if_neg (by omega)]

set_option maxHeartbeats 1600000 in
theorem ordered_any (k : Int) (w : World) : Calls Try.prog 21 #[.int .i64 k] w fun e w' => e = .returned (.tuple #[.int .i64 (ordK k).1, .bool (ordK k).2]) ∧ w' = w := by
  by_cases h : 1 ≤ k ∧ k ≤ 10
  · rcases kinds10 h with rfl | rfl | rfl | rfl | rfl | rfl | rfl | rfl | rfl | rfl
    all_goals (go_enter Try.func21, Try.ntmps21; go_wp2; go_ret2; exact ⟨rfl, rfl⟩)
  · skip
    have h1 : (k == 1) = false := beq_eq_false_iff_ne.2 (by omega)
    have h2 : (k == 2) = false := beq_eq_false_iff_ne.2 (by omega)
    have h3 : (k == 3) = false := beq_eq_false_iff_ne.2 (by omega)
    have h4 : (k == 4) = false := beq_eq_false_iff_ne.2 (by omega)
    have h5 : (k == 5) = false := beq_eq_false_iff_ne.2 (by omega)
    have h6 : (k == 6) = false := beq_eq_false_iff_ne.2 (by omega)
    have h7 : (k == 7) = false := beq_eq_false_iff_ne.2 (by omega)
    have h8 : (k == 8) = false := beq_eq_false_iff_ne.2 (by omega)
    have h9 : (k == 9) = false := beq_eq_false_iff_ne.2 (by omega)
    have h10 : (k == 10) = false := beq_eq_false_iff_ne.2 (by omega)
    rw [ordK_none h]
    go_enter Try.func21, Try.ntmps21
    go_wp2
    go_ret2
    exact ⟨rfl, rfl⟩
end Go.Proofs.Ytpcngkbjeiclkaa
