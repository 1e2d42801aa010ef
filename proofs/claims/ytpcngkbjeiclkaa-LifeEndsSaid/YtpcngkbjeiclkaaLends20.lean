/- 'LifeEnds' returns true for every input: the row of this law, proved. No condition. -/
import Derived.Test.YtpcngkbjeiclkaaLiO
import Derived.ProofKit
import Derived.OpenShut
import Derived.ShutString
import Derived.ChangeOld
import Derived.SizedLaws
namespace Go.Proofs.Ytpcngkbjeiclkaa
open Go.RowKit
set_option linter.unusedVariables false
set_option linter.unusedSimpArgs false
theorem notin_nil (x : Int) : decide (x ∈ ([] : List Int)) = false := rfl
theorem reachK_none {k : Int} (h : ¬ (1 ≤ k ∧ k ≤ 10)) : reachK k = [] := by
  unfold reachK
  exact rAt_none h 10
set_option maxRecDepth 100000 in
set_option maxHeartbeats 6400000 in
theorem lifeEnds_walk {w : World} (a0 : Int) (w0 : (Lit.int .i64 a0).wf = true) :
    Calls Try.prog 5 #[.int .i64 a0] w fun e w' => e = .returned (.bool true) ∧ Below w.heap.size w w' := by
  by_cases h : 1 ≤ a0 ∧ a0 ≤ 10
  · rcases kinds10 h with rfl | rfl | rfl | rfl | rfl | rfl | rfl | rfl | rfl | rfl
    all_goals clear h
    · skip
      have cO := fun w => over_any 1 w
      have cN := fun w => name_any 1 w
      have cR := fun x w => reach_any 1 x w
      have cQ := fun w => quiet_any 1 w
      rw [show overK 1 = false from by decide +kernel] at cO
      rw [show nmK 1 = [97, 115, 107, 105, 110, 103] from by decide +kernel] at cN
      rw [show quietK 1 = false from by decide +kernel] at cQ
      have cR6 := cR 6
      rw [show decide ((6 : Int) ∈ reachK 1) = true from by decide +kernel] at cR6
      have cR5 := cR 5
      rw [show decide ((5 : Int) ∈ reachK 1) = true from by decide +kernel] at cR5
      have cR10 := cR 10
      rw [show decide ((10 : Int) ∈ reachK 1) = true from by decide +kernel] at cR10
      clear cR
      go_enter Try.func5, Try.ntmps5
      go_wp2_with fail
      refine (cO _).mono ?_
      rintro e w' ⟨rfl, hww⟩
      subst w'
      go_wp2_with fail
      refine (cR6 _).mono ?_
      rintro e w1 ⟨rfl, h1⟩
      go_wp2_with fail
      refine (lives_any _).mono ?_
      rintro e wl ⟨rfl, hl⟩
      replace h1 := h1.trans (hl.mono h1.size)
      go_wp2_with fail
      refine (cN _).mono ?_
      rintro e w' ⟨rfl, hww⟩
      subst w'
      go_wp2
      go_loopw [5] (fun i wr => ∃ k : Nat, i = .int .i64 (k : Int) ∧ k ≤ 12 ∧ Below w.heap.size w wr) (fun i _ => 12 - (intOf i).toNat)
      case atStart => exact ⟨0, by go_num, by omega, h1⟩
      case round =>
        clear h1
        obtain ⟨k, rfl, hk, hbw⟩ := hrel
        by_cases hlt : k < 12
        · have hlz : (k : Int) ≤ 11 := by omega
          go_wp2_with fail
          refine (cN _).mono ?_
          rintro e w' ⟨rfl, hww⟩
          subst w'
          go_wp2
          go_roundw
          case measure => simp [intOf]; omega
          case rel => exact ⟨k + 1, by go_num, by omega, hbw⟩
        · have hlz : ¬ (k : Int) ≤ 11 := by omega
          go_wp2
          go_ret
          exact ⟨rfl, hbw⟩
    · skip
      have cO := fun w => over_any 2 w
      have cN := fun w => name_any 2 w
      have cR := fun x w => reach_any 2 x w
      have cQ := fun w => quiet_any 2 w
      rw [show overK 2 = false from by decide +kernel] at cO
      rw [show nmK 2 = [104, 101, 108, 100] from by decide +kernel] at cN
      rw [show quietK 2 = true from by decide +kernel] at cQ
      have cR6 := cR 6
      rw [show decide ((6 : Int) ∈ reachK 2) = true from by decide +kernel] at cR6
      have cR5 := cR 5
      rw [show decide ((5 : Int) ∈ reachK 2) = true from by decide +kernel] at cR5
      have cR10 := cR 10
      rw [show decide ((10 : Int) ∈ reachK 2) = true from by decide +kernel] at cR10
      clear cR
      go_enter Try.func5, Try.ntmps5
      go_wp2_with fail
      refine (cO _).mono ?_
      rintro e w' ⟨rfl, hww⟩
      subst w'
      go_wp2_with fail
      refine (cR6 _).mono ?_
      rintro e w1 ⟨rfl, h1⟩
      go_wp2_with fail
      refine (lives_any _).mono ?_
      rintro e wl ⟨rfl, hl⟩
      replace h1 := h1.trans (hl.mono h1.size)
      go_wp2_with fail
      refine (cN _).mono ?_
      rintro e w' ⟨rfl, hww⟩
      subst w'
      go_wp2
      go_loopw [5] (fun i wr => ∃ k : Nat, i = .int .i64 (k : Int) ∧ k ≤ 12 ∧ Below w.heap.size w wr) (fun i _ => 12 - (intOf i).toNat)
      case atStart => exact ⟨0, by go_num, by omega, h1⟩
      case round =>
        clear h1
        obtain ⟨k, rfl, hk, hbw⟩ := hrel
        by_cases hlt : k < 12
        · have hlz : (k : Int) ≤ 11 := by omega
          go_wp2_with fail
          refine (cN _).mono ?_
          rintro e w' ⟨rfl, hww⟩
          subst w'
          go_wp2
          go_roundw
          case measure => simp [intOf]; omega
          case rel => exact ⟨k + 1, by go_num, by omega, hbw⟩
        · have hlz : ¬ (k : Int) ≤ 11 := by omega
          go_wp2
          go_ret
          exact ⟨rfl, hbw⟩
    · skip
      have cO := fun w => over_any 3 w
      have cN := fun w => name_any 3 w
      have cR := fun x w => reach_any 3 x w
      have cQ := fun w => quiet_any 3 w
      rw [show overK 3 = false from by decide +kernel] at cO
      rw [show nmK 3 = [119, 97, 105, 116, 105, 110, 103] from by decide +kernel] at cN
      rw [show quietK 3 = true from by decide +kernel] at cQ
      have cR6 := cR 6
      rw [show decide ((6 : Int) ∈ reachK 3) = true from by decide +kernel] at cR6
      have cR5 := cR 5
      rw [show decide ((5 : Int) ∈ reachK 3) = true from by decide +kernel] at cR5
      have cR10 := cR 10
      rw [show decide ((10 : Int) ∈ reachK 3) = true from by decide +kernel] at cR10
      clear cR
      go_enter Try.func5, Try.ntmps5
      go_wp2_with fail
      refine (cO _).mono ?_
      rintro e w' ⟨rfl, hww⟩
      subst w'
      go_wp2_with fail
      refine (cR6 _).mono ?_
      rintro e w1 ⟨rfl, h1⟩
      go_wp2_with fail
      refine (lives_any _).mono ?_
      rintro e wl ⟨rfl, hl⟩
      replace h1 := h1.trans (hl.mono h1.size)
      go_wp2_with fail
      refine (cN _).mono ?_
      rintro e w' ⟨rfl, hww⟩
      subst w'
      go_wp2
      go_loopw [5] (fun i wr => ∃ k : Nat, i = .int .i64 (k : Int) ∧ k ≤ 12 ∧ Below w.heap.size w wr) (fun i _ => 12 - (intOf i).toNat)
      case atStart => exact ⟨0, by go_num, by omega, h1⟩
      case round =>
        clear h1
        obtain ⟨k, rfl, hk, hbw⟩ := hrel
        by_cases hlt : k < 12
        · have hlz : (k : Int) ≤ 11 := by omega
          go_wp2_with fail
          refine (cN _).mono ?_
          rintro e w' ⟨rfl, hww⟩
          subst w'
          go_wp2
          go_roundw
          case measure => simp [intOf]; omega
          case rel => exact ⟨k + 1, by go_num, by omega, hbw⟩
        · have hlz : ¬ (k : Int) ≤ 11 := by omega
          go_wp2
          go_ret
          exact ⟨rfl, hbw⟩
    · skip
      have cO := fun w => over_any 4 w
      have cN := fun w => name_any 4 w
      have cR := fun x w => reach_any 4 x w
      have cQ := fun w => quiet_any 4 w
      rw [show overK 4 = false from by decide +kernel] at cO
      rw [show nmK 4 = [117, 110, 100, 111, 105, 110, 103] from by decide +kernel] at cN
      rw [show quietK 4 = false from by decide +kernel] at cQ
      have cR6 := cR 6
      rw [show decide ((6 : Int) ∈ reachK 4) = true from by decide +kernel] at cR6
      have cR5 := cR 5
      rw [show decide ((5 : Int) ∈ reachK 4) = true from by decide +kernel] at cR5
      have cR10 := cR 10
      rw [show decide ((10 : Int) ∈ reachK 4) = true from by decide +kernel] at cR10
      clear cR
      go_enter Try.func5, Try.ntmps5
      go_wp2_with fail
      refine (cO _).mono ?_
      rintro e w' ⟨rfl, hww⟩
      subst w'
      go_wp2_with fail
      refine (cR6 _).mono ?_
      rintro e w1 ⟨rfl, h1⟩
      go_wp2_with fail
      refine (lives_any _).mono ?_
      rintro e wl ⟨rfl, hl⟩
      replace h1 := h1.trans (hl.mono h1.size)
      go_wp2_with fail
      refine (cN _).mono ?_
      rintro e w' ⟨rfl, hww⟩
      subst w'
      go_wp2
      go_loopw [5] (fun i wr => ∃ k : Nat, i = .int .i64 (k : Int) ∧ k ≤ 12 ∧ Below w.heap.size w wr) (fun i _ => 12 - (intOf i).toNat)
      case atStart => exact ⟨0, by go_num, by omega, h1⟩
      case round =>
        clear h1
        obtain ⟨k, rfl, hk, hbw⟩ := hrel
        by_cases hlt : k < 12
        · have hlz : (k : Int) ≤ 11 := by omega
          go_wp2_with fail
          refine (cN _).mono ?_
          rintro e w' ⟨rfl, hww⟩
          subst w'
          go_wp2
          go_roundw
          case measure => simp [intOf]; omega
          case rel => exact ⟨k + 1, by go_num, by omega, hbw⟩
        · have hlz : ¬ (k : Int) ≤ 11 := by omega
          go_wp2
          go_ret
          exact ⟨rfl, hbw⟩
    · skip
      have cO := fun w => over_any 5 w
      have cN := fun w => name_any 5 w
      have cR := fun x w => reach_any 5 x w
      have cQ := fun w => quiet_any 5 w
      rw [show overK 5 = true from by decide +kernel] at cO
      rw [show nmK 5 = [114, 101, 102, 117, 115, 101, 100] from by decide +kernel] at cN
      rw [show quietK 5 = true from by decide +kernel] at cQ
      simp only [show reachK 5 = [] from by decide +kernel, notin_nil] at cR
      go_enter Try.func5, Try.ntmps5
      go_wp2_with fail
      refine (cO _).mono ?_
      rintro e w' ⟨rfl, hww⟩
      subst w'
      go_wp2_with fail
      refine (cR 6 _).mono ?_
      rintro e w1 ⟨rfl, h1⟩
      go_wp2_with fail
      refine (cR 5 _).mono ?_
      rintro e w2 ⟨rfl, h2⟩
      replace h1 := h1.trans (h2.mono h1.size)
      go_wp2_with fail
      refine (cR 10 _).mono ?_
      rintro e w3 ⟨rfl, h3⟩
      replace h1 := h1.trans (h3.mono h1.size)
      go_wp2_with fail
      refine (lives_any _).mono ?_
      rintro e wl ⟨rfl, hl⟩
      replace h1 := h1.trans (hl.mono h1.size)
      go_wp2_with fail
      refine (cN _).mono ?_
      rintro e w' ⟨rfl, hww⟩
      subst w'
      go_wp2
      go_loopw [5] (fun i wr => ∃ k : Nat, i = .int .i64 (k : Int) ∧ k ≤ 12 ∧ Below w.heap.size w wr) (fun i _ => 12 - (intOf i).toNat)
      case atStart => exact ⟨0, by go_num, by omega, h1⟩
      case round =>
        clear h1
        obtain ⟨k, rfl, hk, hbw⟩ := hrel
        by_cases hlt : k < 12
        · have hlz : (k : Int) ≤ 11 := by omega
          go_wp2_with fail
          refine (cR _ _).mono ?_
          rintro e w5 ⟨rfl, h2⟩
          replace hbw := hbw.trans (h2.mono hbw.size)
          go_wp2
          go_roundw
          case measure => simp [intOf]; omega
          case rel => exact ⟨k + 1, by go_num, by omega, hbw⟩
        · have hlz : ¬ (k : Int) ≤ 11 := by omega
          go_wp2_with fail
          refine (cQ _).mono ?_
          rintro e w' ⟨rfl, hww⟩
          subst w'
          go_wp2
          go_ret
          exact ⟨rfl, hbw⟩
    · skip
      have cO := fun w => over_any 6 w
      have cN := fun w => name_any 6 w
      have cR := fun x w => reach_any 6 x w
      have cQ := fun w => quiet_any 6 w
      rw [show overK 6 = true from by decide +kernel] at cO
      rw [show nmK 6 = [103, 111, 110, 101] from by decide +kernel] at cN
      rw [show quietK 6 = true from by decide +kernel] at cQ
      simp only [show reachK 6 = [] from by decide +kernel, notin_nil] at cR
      go_enter Try.func5, Try.ntmps5
      go_wp2_with fail
      refine (cO _).mono ?_
      rintro e w' ⟨rfl, hww⟩
      subst w'
      go_wp2_with fail
      refine (cR 6 _).mono ?_
      rintro e w1 ⟨rfl, h1⟩
      go_wp2_with fail
      refine (cR 5 _).mono ?_
      rintro e w2 ⟨rfl, h2⟩
      replace h1 := h1.trans (h2.mono h1.size)
      go_wp2_with fail
      refine (cR 10 _).mono ?_
      rintro e w3 ⟨rfl, h3⟩
      replace h1 := h1.trans (h3.mono h1.size)
      go_wp2_with fail
      refine (lives_any _).mono ?_
      rintro e wl ⟨rfl, hl⟩
      replace h1 := h1.trans (hl.mono h1.size)
      go_wp2_with fail
      refine (cN _).mono ?_
      rintro e w' ⟨rfl, hww⟩
      subst w'
      go_wp2
      go_loopw [5] (fun i wr => ∃ k : Nat, i = .int .i64 (k : Int) ∧ k ≤ 12 ∧ Below w.heap.size w wr) (fun i _ => 12 - (intOf i).toNat)
      case atStart => exact ⟨0, by go_num, by omega, h1⟩
      case round =>
        clear h1
        obtain ⟨k, rfl, hk, hbw⟩ := hrel
        by_cases hlt : k < 12
        · have hlz : (k : Int) ≤ 11 := by omega
          go_wp2_with fail
          refine (cR _ _).mono ?_
          rintro e w5 ⟨rfl, h2⟩
          replace hbw := hbw.trans (h2.mono hbw.size)
          go_wp2
          go_roundw
          case measure => simp [intOf]; omega
          case rel => exact ⟨k + 1, by go_num, by omega, hbw⟩
        · have hlz : ¬ (k : Int) ≤ 11 := by omega
          go_wp2_with fail
          refine (cQ _).mono ?_
          rintro e w' ⟨rfl, hww⟩
          subst w'
          go_wp2
          go_ret
          exact ⟨rfl, hbw⟩
    · skip
      have cO := fun w => over_any 7 w
      have cN := fun w => name_any 7 w
      have cR := fun x w => reach_any 7 x w
      have cQ := fun w => quiet_any 7 w
      rw [show overK 7 = false from by decide +kernel] at cO
      rw [show nmK 7 = [112, 105, 99, 107, 105, 110, 103] from by decide +kernel] at cN
      rw [show quietK 7 = false from by decide +kernel] at cQ
      have cR6 := cR 6
      rw [show decide ((6 : Int) ∈ reachK 7) = false from by decide +kernel] at cR6
      have cR5 := cR 5
      rw [show decide ((5 : Int) ∈ reachK 7) = false from by decide +kernel] at cR5
      have cR10 := cR 10
      rw [show decide ((10 : Int) ∈ reachK 7) = true from by decide +kernel] at cR10
      clear cR
      go_enter Try.func5, Try.ntmps5
      go_wp2_with fail
      refine (cO _).mono ?_
      rintro e w' ⟨rfl, hww⟩
      subst w'
      go_wp2_with fail
      refine (cR6 _).mono ?_
      rintro e w1 ⟨rfl, h1⟩
      go_wp2_with fail
      refine (cR5 _).mono ?_
      rintro e w2 ⟨rfl, h2⟩
      replace h1 := h1.trans (h2.mono h1.size)
      go_wp2_with fail
      refine (cR10 _).mono ?_
      rintro e w3 ⟨rfl, h3⟩
      replace h1 := h1.trans (h3.mono h1.size)
      go_wp2_with fail
      refine (lives_any _).mono ?_
      rintro e wl ⟨rfl, hl⟩
      replace h1 := h1.trans (hl.mono h1.size)
      go_wp2_with fail
      refine (cN _).mono ?_
      rintro e w' ⟨rfl, hww⟩
      subst w'
      go_wp2
      go_loopw [5] (fun i wr => ∃ k : Nat, i = .int .i64 (k : Int) ∧ k ≤ 12 ∧ Below w.heap.size w wr) (fun i _ => 12 - (intOf i).toNat)
      case atStart => exact ⟨0, by go_num, by omega, h1⟩
      case round =>
        clear h1
        obtain ⟨k, rfl, hk, hbw⟩ := hrel
        by_cases hlt : k < 12
        · have hlz : (k : Int) ≤ 11 := by omega
          go_wp2_with fail
          refine (cN _).mono ?_
          rintro e w' ⟨rfl, hww⟩
          subst w'
          go_wp2
          go_roundw
          case measure => simp [intOf]; omega
          case rel => exact ⟨k + 1, by go_num, by omega, hbw⟩
        · have hlz : ¬ (k : Int) ≤ 11 := by omega
          go_wp2
          go_ret
          exact ⟨rfl, hbw⟩
    · skip
      have cO := fun w => over_any 8 w
      have cN := fun w => name_any 8 w
      have cR := fun x w => reach_any 8 x w
      have cQ := fun w => quiet_any 8 w
      rw [show overK 8 = false from by decide +kernel] at cO
      rw [show nmK 8 = [112, 105, 99, 107, 101, 100] from by decide +kernel] at cN
      rw [show quietK 8 = true from by decide +kernel] at cQ
      have cR6 := cR 6
      rw [show decide ((6 : Int) ∈ reachK 8) = false from by decide +kernel] at cR6
      have cR5 := cR 5
      rw [show decide ((5 : Int) ∈ reachK 8) = false from by decide +kernel] at cR5
      have cR10 := cR 10
      rw [show decide ((10 : Int) ∈ reachK 8) = true from by decide +kernel] at cR10
      clear cR
      go_enter Try.func5, Try.ntmps5
      go_wp2_with fail
      refine (cO _).mono ?_
      rintro e w' ⟨rfl, hww⟩
      subst w'
      go_wp2_with fail
      refine (cR6 _).mono ?_
      rintro e w1 ⟨rfl, h1⟩
      go_wp2_with fail
      refine (cR5 _).mono ?_
      rintro e w2 ⟨rfl, h2⟩
      replace h1 := h1.trans (h2.mono h1.size)
      go_wp2_with fail
      refine (cR10 _).mono ?_
      rintro e w3 ⟨rfl, h3⟩
      replace h1 := h1.trans (h3.mono h1.size)
      go_wp2_with fail
      refine (lives_any _).mono ?_
      rintro e wl ⟨rfl, hl⟩
      replace h1 := h1.trans (hl.mono h1.size)
      go_wp2_with fail
      refine (cN _).mono ?_
      rintro e w' ⟨rfl, hww⟩
      subst w'
      go_wp2
      go_loopw [5] (fun i wr => ∃ k : Nat, i = .int .i64 (k : Int) ∧ k ≤ 12 ∧ Below w.heap.size w wr) (fun i _ => 12 - (intOf i).toNat)
      case atStart => exact ⟨0, by go_num, by omega, h1⟩
      case round =>
        clear h1
        obtain ⟨k, rfl, hk, hbw⟩ := hrel
        by_cases hlt : k < 12
        · have hlz : (k : Int) ≤ 11 := by omega
          go_wp2_with fail
          refine (cN _).mono ?_
          rintro e w' ⟨rfl, hww⟩
          subst w'
          go_wp2
          go_roundw
          case measure => simp [intOf]; omega
          case rel => exact ⟨k + 1, by go_num, by omega, hbw⟩
        · have hlz : ¬ (k : Int) ≤ 11 := by omega
          go_wp2
          go_ret
          exact ⟨rfl, hbw⟩
    · skip
      have cO := fun w => over_any 9 w
      have cN := fun w => name_any 9 w
      have cR := fun x w => reach_any 9 x w
      have cQ := fun w => quiet_any 9 w
      rw [show overK 9 = false from by decide +kernel] at cO
      rw [show nmK 9 = [115, 104, 105, 112, 112, 105, 110, 103] from by decide +kernel] at cN
      rw [show quietK 9 = false from by decide +kernel] at cQ
      have cR6 := cR 6
      rw [show decide ((6 : Int) ∈ reachK 9) = false from by decide +kernel] at cR6
      have cR5 := cR 5
      rw [show decide ((5 : Int) ∈ reachK 9) = false from by decide +kernel] at cR5
      have cR10 := cR 10
      rw [show decide ((10 : Int) ∈ reachK 9) = true from by decide +kernel] at cR10
      clear cR
      go_enter Try.func5, Try.ntmps5
      go_wp2_with fail
      refine (cO _).mono ?_
      rintro e w' ⟨rfl, hww⟩
      subst w'
      go_wp2_with fail
      refine (cR6 _).mono ?_
      rintro e w1 ⟨rfl, h1⟩
      go_wp2_with fail
      refine (cR5 _).mono ?_
      rintro e w2 ⟨rfl, h2⟩
      replace h1 := h1.trans (h2.mono h1.size)
      go_wp2_with fail
      refine (cR10 _).mono ?_
      rintro e w3 ⟨rfl, h3⟩
      replace h1 := h1.trans (h3.mono h1.size)
      go_wp2_with fail
      refine (lives_any _).mono ?_
      rintro e wl ⟨rfl, hl⟩
      replace h1 := h1.trans (hl.mono h1.size)
      go_wp2_with fail
      refine (cN _).mono ?_
      rintro e w' ⟨rfl, hww⟩
      subst w'
      go_wp2
      go_loopw [5] (fun i wr => ∃ k : Nat, i = .int .i64 (k : Int) ∧ k ≤ 12 ∧ Below w.heap.size w wr) (fun i _ => 12 - (intOf i).toNat)
      case atStart => exact ⟨0, by go_num, by omega, h1⟩
      case round =>
        clear h1
        obtain ⟨k, rfl, hk, hbw⟩ := hrel
        by_cases hlt : k < 12
        · have hlz : (k : Int) ≤ 11 := by omega
          go_wp2_with fail
          refine (cN _).mono ?_
          rintro e w' ⟨rfl, hww⟩
          subst w'
          go_wp2
          go_roundw
          case measure => simp [intOf]; omega
          case rel => exact ⟨k + 1, by go_num, by omega, hbw⟩
        · have hlz : ¬ (k : Int) ≤ 11 := by omega
          go_wp2
          go_ret
          exact ⟨rfl, hbw⟩
    · skip
      have cO := fun w => over_any 10 w
      have cN := fun w => name_any 10 w
      have cR := fun x w => reach_any 10 x w
      have cQ := fun w => quiet_any 10 w
      rw [show overK 10 = true from by decide +kernel] at cO
      rw [show nmK 10 = [115, 104, 105, 112, 112, 101, 100] from by decide +kernel] at cN
      rw [show quietK 10 = true from by decide +kernel] at cQ
      simp only [show reachK 10 = [] from by decide +kernel, notin_nil] at cR
      go_enter Try.func5, Try.ntmps5
      go_wp2_with fail
      refine (cO _).mono ?_
      rintro e w' ⟨rfl, hww⟩
      subst w'
      go_wp2_with fail
      refine (cR 6 _).mono ?_
      rintro e w1 ⟨rfl, h1⟩
      go_wp2_with fail
      refine (cR 5 _).mono ?_
      rintro e w2 ⟨rfl, h2⟩
      replace h1 := h1.trans (h2.mono h1.size)
      go_wp2_with fail
      refine (cR 10 _).mono ?_
      rintro e w3 ⟨rfl, h3⟩
      replace h1 := h1.trans (h3.mono h1.size)
      go_wp2_with fail
      refine (lives_any _).mono ?_
      rintro e wl ⟨rfl, hl⟩
      replace h1 := h1.trans (hl.mono h1.size)
      go_wp2_with fail
      refine (cN _).mono ?_
      rintro e w' ⟨rfl, hww⟩
      subst w'
      go_wp2
      go_loopw [5] (fun i wr => ∃ k : Nat, i = .int .i64 (k : Int) ∧ k ≤ 12 ∧ Below w.heap.size w wr) (fun i _ => 12 - (intOf i).toNat)
      case atStart => exact ⟨0, by go_num, by omega, h1⟩
      case round =>
        clear h1
        obtain ⟨k, rfl, hk, hbw⟩ := hrel
        by_cases hlt : k < 12
        · have hlz : (k : Int) ≤ 11 := by omega
          go_wp2_with fail
          refine (cR _ _).mono ?_
          rintro e w5 ⟨rfl, h2⟩
          replace hbw := hbw.trans (h2.mono hbw.size)
          go_wp2
          go_roundw
          case measure => simp [intOf]; omega
          case rel => exact ⟨k + 1, by go_num, by omega, hbw⟩
        · have hlz : ¬ (k : Int) ≤ 11 := by omega
          go_wp2_with fail
          refine (cQ _).mono ?_
          rintro e w' ⟨rfl, hww⟩
          subst w'
          go_wp2
          go_ret
          exact ⟨rfl, hbw⟩
  · skip
    have cO := fun w => over_any a0 w
    have cN := fun w => name_any a0 w
    have cR := fun x w => reach_any a0 x w
    have cQ := fun w => quiet_any a0 w
    rw [overK_none h] at cO
    rw [nmK_none h] at cN
    simp only [reachK_none h, notin_nil] at cR
    rw [quietK_none h] at cQ
    go_enter Try.func5, Try.ntmps5
    go_wp2_with fail
    refine (cO _).mono ?_
    rintro e w' ⟨rfl, hww⟩
    subst w'
    go_wp2_with fail
    refine (cR 6 _).mono ?_
    rintro e w1 ⟨rfl, h1⟩
    go_wp2_with fail
    refine (cR 5 _).mono ?_
    rintro e w2 ⟨rfl, h2⟩
    replace h1 := h1.trans (h2.mono h1.size)
    go_wp2_with fail
    refine (cR 10 _).mono ?_
    rintro e w3 ⟨rfl, h3⟩
    replace h1 := h1.trans (h3.mono h1.size)
    go_wp2_with fail
    refine (lives_any _).mono ?_
    rintro e wl ⟨rfl, hl⟩
    replace h1 := h1.trans (hl.mono h1.size)
    go_wp2_with fail
    refine (cN _).mono ?_
    rintro e w' ⟨rfl, hww⟩
    subst w'
    go_wp2
    go_loopw [5] (fun i wr => ∃ k : Nat, i = .int .i64 (k : Int) ∧ k ≤ 12 ∧ Below w.heap.size w wr) (fun i _ => 12 - (intOf i).toNat)
    case atStart => exact ⟨0, by go_num, by omega, h1⟩
    case round =>
      clear h1
      obtain ⟨k, rfl, hk, hbw⟩ := hrel
      by_cases hlt : k < 12
      · have hlz : (k : Int) ≤ 11 := by omega
        go_wp2_with fail
        refine (cN _).mono ?_
        rintro e w' ⟨rfl, hww⟩
        subst w'
        go_wp2_with fail
        refine (cR _ _).mono ?_
        rintro e w5 ⟨rfl, h2⟩
        replace hbw := hbw.trans (h2.mono hbw.size)
        go_wp2
        go_roundw
        case measure => simp [intOf]; omega
        case rel => exact ⟨k + 1, by go_num, by omega, hbw⟩
      · have hlz : ¬ (k : Int) ≤ 11 := by omega
        go_wp2
        go_ret
        exact ⟨rfl, hbw⟩

namespace lifeEndsDone
open Go.ChangeShapes Go.WideShapes Go.ChangeAt
set_option maxRecDepth 100000 in
theorem lifted (os : Os) (started : os.Started) (H : Type) (enc : TypeId × Value → H) :
    ReturnsInHanded {} Try.checked os 5 .any (Rows.lifeEndsSpec.pre6 enc Try.prog Try.f5 Rows.lifeEndsRow.domain false) (Rows.lifeEndsSpec.post enc Try.prog Try.f5 false true false false) := by
  refine returnsInHanded_of_change_sized (C := Try.checked) own started (by kernel_rfl) Try.func5
    (ChangeSpec.witness6 (enc := enc) (C := Try.checked) false ⟨#[], #[Value.int .i64 0], []⟩ 8 (by kernel_rfl) (by kernel_rfl) (by kernel_rfl) (by kernel_rfl)) ?_
  intro W base args ds gs before hval0 hW hcnd hsz0 _
  have hsz : (DataW.weightsEach Try.prog (Try.f5.params.toList ++ Rows.lifeEndsSpec.plain.varTypes Try.prog) (ds ++ gs)).all (· ≤ reachBytes) = true := hsz0
  clear hsz0
  have hval : ∀ (j : Nat) t v, Try.f5.params[j]? = some t → args[j]? = some v → Value.okWide Try.prog W .any base t v := hval0
  have hW' := hW
  obtain ⟨p, q, hA0, hV, rfl, hfz, hnd⟩ := hW
  have hA : DataW.TrodAll enc Try.prog W 0 (fun _ => true) true Try.f5.params.toList args.toList ds p := hA0
  rw [Try.params5] at hA hval hsz
  obtain ⟨v0, vs0, d0, ds0, p0, q0, hargs, rfl, rfl, h0, r0⟩ := trodAll_cons hA
  obtain ⟨rfl, rfl, rfl⟩ := trodAll_nil r0
  obtain rfl : args = #[v0] := by cases args; simp_all
  obtain ⟨rfl, rfl⟩ := trodVars_none hV
  obtain ⟨a0, rfl, rfl, rfl, w0⟩ := open_int Try.underlying3 (hval 0 3 v0 rfl rfl) h0
  clear hA0 hval0
  refine (lifeEnds_walk (w := W) a0 w0).mono fun e W' ⟨he, bel⟩ => ?_
  subst he
  exact ⟨_, rfl, _, _, _, [], _, [], hW', trodAll_mk1 (shut_bool Try.underlying4 _), (trodAll_cons_mk (shut_int Try.underlying3 w0) trodAll_mk0), rfl, bel.frame _, fun h => by cases h⟩

theorem over : Rows.lifeEndsRow.holds Try.pinned (OpenSpec.ofChange Rows.lifeEndsSpec) :=
  OpenClaim.holds_of_wide 5 Try.f5 rfl rfl rfl rfl rfl rfl rfl ⟨rfl, rfl, rfl, rfl, rfl⟩ rfl rfl rfl rfl rfl (by kernel_rfl) Try.func5 (by kernel_rfl)
    (of_decide_eq_true (by kernel_rfl)) (by unfold Func.isWrapper; first | (rw [if_pos (by decide +kernel)]; kernel_rfl) | (rw [if_neg (by decide +kernel)]; exact ⟨rfl, rfl⟩))
    (fun os started H enc _ => lifted os started H enc)

/-- The statement. -/
theorem proved : Rows.LifeEndsSaid := over
end lifeEndsDone
end Go.Proofs.Ytpcngkbjeiclkaa
