/- 'LifeBehind' returns true for every input: the row of this law, proved. No condition. -/
import Derived.Test.YtpcngkbjeiclkaaLiS
import Derived.ProofKit
import Derived.OpenShut
import Derived.ShutString
import Derived.ChangeOld
import Derived.SizedLaws
namespace Go.Proofs.Ytpcngkbjeiclkaa
open Go.RowKit
set_option linter.unusedVariables false
set_option linter.unusedSimpArgs false
set_option maxRecDepth 100000 in
set_option maxHeartbeats 6400000 in
theorem lifeBehind_walk {w : World} (a0 : Int) (w0 : (Lit.int .i64 a0).wf = true) (a1 : Int) (w1 : (Lit.int .i64 a1).wf = true) :
    Calls Try.prog 4 #[.int .i64 a0, .int .i64 a1] w fun e w' => e = .returned (.bool true) ∧ Below w.heap.size w w' := by
  by_cases h : 1 ≤ a0 ∧ a0 ≤ 10
  · rcases kinds10 h with rfl | rfl | rfl | rfl | rfl | rfl | rfl | rfl | rfl | rfl
    all_goals clear h
    · skip
      have cQ := fun w => quiet_any 1 w
      rw [show quietK 1 = false from by decide +kernel] at cQ
      have cB := fun w => behind_any 1 w
      have cRB := fun w => rbehind_any 1 w
      have cM := fun w => may_any 1 a1 w
      have cR := fun w => reach_any 1 a1 w
      have cRR := fun w => rreach_any 1 a1 w
      have hl6 := bhK_len 1
      obtain ⟨L, hL⟩ : ∃ L, bhK 1 = L := ⟨_, rfl⟩
      rw [hL] at cB cRB cM hl6
      clear hL
      obtain ⟨D, hD⟩ : ∃ D, decide (a1 ∈ L) = D := ⟨_, rfl⟩
      rw [hD] at cM
      obtain ⟨E, hE⟩ : ∃ E, decide (a1 ∈ reachK 1) = E := ⟨_, rfl⟩
      rw [hE] at cR cRR
      clear hE
      replace hD := Lib.hid hD
      go_enter Try.func4, Try.ntmps4
      go_wp2_with fail
      refine (cB _).mono ?_
      rintro e wa ⟨va, rfl, hA, hb⟩
      go_wp2_with fail
      refine (cRB _).mono ?_
      rintro e wb ⟨vb, rfl, hB, hb2⟩
      replace hA := hA.kept (Keep.of_below hb2) (fun g hg e => by have := (hA.lt g hg).2; omega)
      replace hb := hb.trans (hb2.mono hb.size)
      obtain ⟨A, ca, rfl, -, -, hAr, -⟩ := hA.form
      obtain ⟨B, cb, rfl, -, -, hBr, -⟩ := hB.form
      obtain ⟨n, hn⟩ : ∃ n, L.length = n := ⟨_, rfl⟩
      rw [hn] at hAr hBr hl6 ⊢
      clear hn hA hB hb2 cB cRB
      go_wp2_with fail
      refine (lives_any _).mono ?_
      rintro e wl ⟨rfl, hl⟩
      replace hAr := hAr.below hl
      replace hBr := hBr.below hl
      replace hb := hb.trans (hl.mono hb.size)
      clear hl
      go_wp2
      go_loopw [7] (fun i wr => ∃ k d : Nat, i = .int .i64 (k : Int) ∧ k ≤ n ∧ wr = wl.drewN d) (fun i _ => n - (intOf i).toNat)
      case atStart => exact ⟨0, 0, by go_num, by omega, rfl⟩
      case round =>
        obtain ⟨k, d, rfl, hk, rfl⟩ := hrel
        by_cases hlt : k < n
        · have hlz : (k : Int) < (n : Int) := by omega
          obtain ⟨b1, o1, x, rfl, hx, hc1⟩ := hAr.place hlt
          obtain ⟨b2, o2, y, rfl, hy, hc2⟩ := hBr.place hlt
          have hxy : y = x := by
            rw [hx] at hy
            exact (Option.some.inj hy).symm
          subst hxy
          have hq1 : ∀ d, (wl.drewN d).cell? ⟨b1, o1 + k, none⟩ = some (.int .i64 y) := fun _ => hc1
          have hq2 : ∀ d, (wl.drewN d).cell? ⟨b2, o2 + k, none⟩ = some (.int .i64 y) := fun _ => hc2
          clear hx hy hc1 hc2
          go_wp2_with fail
          go_quiet (fail)
          go_wp2_with fail
          go_roundw
          case rel => exact ⟨k + 1, _, by go_num, by omega, rfl⟩
          case measure => simp [intOf]; omega
        · have hlz : ¬ (k : Int) < (n : Int) := by omega
          have hBq : Below w.heap.size w (wl.drewN d) := ⟨hb.os, hb.tape, hb.output, hb.size, hb.block⟩
          have hBr' : IR (wl.drewN d) B n L := hBr.drewN d
          obtain ⟨wq, hwq⟩ : ∃ wq, wl.drewN d = wq := ⟨_, rfl⟩
          rw [hwq] at hBq hBr' ⊢
          clear hwq hBr hAr hb
          go_wp2_with fail
          refine (cM _).mono ?_
          rintro e w3 ⟨rfl, h3⟩
          replace hBr' := hBr'.below h3
          replace hBq := hBq.trans (h3.mono hBq.size)
          go_wp2_with fail
          refine (in_any B n cb L a1 _ hBr' (by omega)).mono ?_
          rw [hD.out]
          rintro e w' ⟨rfl, hww⟩
          subst w'
          clear h3 hBr'
          go_wp2_with fail
          refine (cR _).mono ?_
          rintro e w4 ⟨rfl, h4⟩
          replace hBq := hBq.trans (h4.mono hBq.size)
          go_wp2_with fail
          refine (cRR _).mono ?_
          rintro e w5 ⟨rfl, h5⟩
          replace hBq := hBq.trans (h5.mono hBq.size)
          go_wp2_with fail
          refine (cQ _).mono ?_
          rintro e w' ⟨rfl, hww⟩
          subst w'
          go_wp2
          go_ret
          exact ⟨rfl, hBq⟩
    · skip
      have cQ := fun w => quiet_any 2 w
      rw [show quietK 2 = true from by decide +kernel] at cQ
      have cB := fun w => behind_any 2 w
      have cRB := fun w => rbehind_any 2 w
      have cM := fun w => may_any 2 a1 w
      have cR := fun w => reach_any 2 a1 w
      have cRR := fun w => rreach_any 2 a1 w
      have hl6 := bhK_len 2
      obtain ⟨L, hL⟩ : ∃ L, bhK 2 = L := ⟨_, rfl⟩
      rw [hL] at cB cRB cM hl6
      clear hL
      obtain ⟨D, hD⟩ : ∃ D, decide (a1 ∈ L) = D := ⟨_, rfl⟩
      rw [hD] at cM
      obtain ⟨E, hE⟩ : ∃ E, decide (a1 ∈ reachK 2) = E := ⟨_, rfl⟩
      rw [hE] at cR cRR
      clear hE
      replace hD := Lib.hid hD
      go_enter Try.func4, Try.ntmps4
      go_wp2_with fail
      refine (cB _).mono ?_
      rintro e wa ⟨va, rfl, hA, hb⟩
      go_wp2_with fail
      refine (cRB _).mono ?_
      rintro e wb ⟨vb, rfl, hB, hb2⟩
      replace hA := hA.kept (Keep.of_below hb2) (fun g hg e => by have := (hA.lt g hg).2; omega)
      replace hb := hb.trans (hb2.mono hb.size)
      obtain ⟨A, ca, rfl, -, -, hAr, -⟩ := hA.form
      obtain ⟨B, cb, rfl, -, -, hBr, -⟩ := hB.form
      obtain ⟨n, hn⟩ : ∃ n, L.length = n := ⟨_, rfl⟩
      rw [hn] at hAr hBr hl6 ⊢
      clear hn hA hB hb2 cB cRB
      go_wp2_with fail
      refine (lives_any _).mono ?_
      rintro e wl ⟨rfl, hl⟩
      replace hAr := hAr.below hl
      replace hBr := hBr.below hl
      replace hb := hb.trans (hl.mono hb.size)
      clear hl
      go_wp2
      go_loopw [7] (fun i wr => ∃ k d : Nat, i = .int .i64 (k : Int) ∧ k ≤ n ∧ wr = wl.drewN d) (fun i _ => n - (intOf i).toNat)
      case atStart => exact ⟨0, 0, by go_num, by omega, rfl⟩
      case round =>
        obtain ⟨k, d, rfl, hk, rfl⟩ := hrel
        by_cases hlt : k < n
        · have hlz : (k : Int) < (n : Int) := by omega
          obtain ⟨b1, o1, x, rfl, hx, hc1⟩ := hAr.place hlt
          obtain ⟨b2, o2, y, rfl, hy, hc2⟩ := hBr.place hlt
          have hxy : y = x := by
            rw [hx] at hy
            exact (Option.some.inj hy).symm
          subst hxy
          have hq1 : ∀ d, (wl.drewN d).cell? ⟨b1, o1 + k, none⟩ = some (.int .i64 y) := fun _ => hc1
          have hq2 : ∀ d, (wl.drewN d).cell? ⟨b2, o2 + k, none⟩ = some (.int .i64 y) := fun _ => hc2
          clear hx hy hc1 hc2
          go_wp2_with fail
          go_quiet (fail)
          go_wp2_with fail
          go_roundw
          case rel => exact ⟨k + 1, _, by go_num, by omega, rfl⟩
          case measure => simp [intOf]; omega
        · have hlz : ¬ (k : Int) < (n : Int) := by omega
          have hBq : Below w.heap.size w (wl.drewN d) := ⟨hb.os, hb.tape, hb.output, hb.size, hb.block⟩
          have hBr' : IR (wl.drewN d) B n L := hBr.drewN d
          obtain ⟨wq, hwq⟩ : ∃ wq, wl.drewN d = wq := ⟨_, rfl⟩
          rw [hwq] at hBq hBr' ⊢
          clear hwq hBr hAr hb
          go_wp2_with fail
          refine (cM _).mono ?_
          rintro e w3 ⟨rfl, h3⟩
          replace hBr' := hBr'.below h3
          replace hBq := hBq.trans (h3.mono hBq.size)
          go_wp2_with fail
          refine (in_any B n cb L a1 _ hBr' (by omega)).mono ?_
          rw [hD.out]
          rintro e w' ⟨rfl, hww⟩
          subst w'
          clear h3 hBr'
          go_wp2_with fail
          refine (cR _).mono ?_
          rintro e w4 ⟨rfl, h4⟩
          replace hBq := hBq.trans (h4.mono hBq.size)
          go_wp2_with fail
          refine (cRR _).mono ?_
          rintro e w5 ⟨rfl, h5⟩
          replace hBq := hBq.trans (h5.mono hBq.size)
          go_wp2_with fail
          refine (cQ _).mono ?_
          rintro e w' ⟨rfl, hww⟩
          subst w'
          go_wp2
          go_ret
          exact ⟨rfl, hBq⟩
    · skip
      have cQ := fun w => quiet_any 3 w
      rw [show quietK 3 = true from by decide +kernel] at cQ
      have cB := fun w => behind_any 3 w
      have cRB := fun w => rbehind_any 3 w
      have cM := fun w => may_any 3 a1 w
      have cR := fun w => reach_any 3 a1 w
      have cRR := fun w => rreach_any 3 a1 w
      have hl6 := bhK_len 3
      obtain ⟨L, hL⟩ : ∃ L, bhK 3 = L := ⟨_, rfl⟩
      rw [hL] at cB cRB cM hl6
      clear hL
      obtain ⟨D, hD⟩ : ∃ D, decide (a1 ∈ L) = D := ⟨_, rfl⟩
      rw [hD] at cM
      obtain ⟨E, hE⟩ : ∃ E, decide (a1 ∈ reachK 3) = E := ⟨_, rfl⟩
      rw [hE] at cR cRR
      clear hE
      replace hD := Lib.hid hD
      go_enter Try.func4, Try.ntmps4
      go_wp2_with fail
      refine (cB _).mono ?_
      rintro e wa ⟨va, rfl, hA, hb⟩
      go_wp2_with fail
      refine (cRB _).mono ?_
      rintro e wb ⟨vb, rfl, hB, hb2⟩
      replace hA := hA.kept (Keep.of_below hb2) (fun g hg e => by have := (hA.lt g hg).2; omega)
      replace hb := hb.trans (hb2.mono hb.size)
      obtain ⟨A, ca, rfl, -, -, hAr, -⟩ := hA.form
      obtain ⟨B, cb, rfl, -, -, hBr, -⟩ := hB.form
      obtain ⟨n, hn⟩ : ∃ n, L.length = n := ⟨_, rfl⟩
      rw [hn] at hAr hBr hl6 ⊢
      clear hn hA hB hb2 cB cRB
      go_wp2_with fail
      refine (lives_any _).mono ?_
      rintro e wl ⟨rfl, hl⟩
      replace hAr := hAr.below hl
      replace hBr := hBr.below hl
      replace hb := hb.trans (hl.mono hb.size)
      clear hl
      go_wp2
      go_loopw [7] (fun i wr => ∃ k d : Nat, i = .int .i64 (k : Int) ∧ k ≤ n ∧ wr = wl.drewN d) (fun i _ => n - (intOf i).toNat)
      case atStart => exact ⟨0, 0, by go_num, by omega, rfl⟩
      case round =>
        obtain ⟨k, d, rfl, hk, rfl⟩ := hrel
        by_cases hlt : k < n
        · have hlz : (k : Int) < (n : Int) := by omega
          obtain ⟨b1, o1, x, rfl, hx, hc1⟩ := hAr.place hlt
          obtain ⟨b2, o2, y, rfl, hy, hc2⟩ := hBr.place hlt
          have hxy : y = x := by
            rw [hx] at hy
            exact (Option.some.inj hy).symm
          subst hxy
          have hq1 : ∀ d, (wl.drewN d).cell? ⟨b1, o1 + k, none⟩ = some (.int .i64 y) := fun _ => hc1
          have hq2 : ∀ d, (wl.drewN d).cell? ⟨b2, o2 + k, none⟩ = some (.int .i64 y) := fun _ => hc2
          clear hx hy hc1 hc2
          go_wp2_with fail
          go_quiet (fail)
          go_wp2_with fail
          go_roundw
          case rel => exact ⟨k + 1, _, by go_num, by omega, rfl⟩
          case measure => simp [intOf]; omega
        · have hlz : ¬ (k : Int) < (n : Int) := by omega
          have hBq : Below w.heap.size w (wl.drewN d) := ⟨hb.os, hb.tape, hb.output, hb.size, hb.block⟩
          have hBr' : IR (wl.drewN d) B n L := hBr.drewN d
          obtain ⟨wq, hwq⟩ : ∃ wq, wl.drewN d = wq := ⟨_, rfl⟩
          rw [hwq] at hBq hBr' ⊢
          clear hwq hBr hAr hb
          go_wp2_with fail
          refine (cM _).mono ?_
          rintro e w3 ⟨rfl, h3⟩
          replace hBr' := hBr'.below h3
          replace hBq := hBq.trans (h3.mono hBq.size)
          go_wp2_with fail
          refine (in_any B n cb L a1 _ hBr' (by omega)).mono ?_
          rw [hD.out]
          rintro e w' ⟨rfl, hww⟩
          subst w'
          clear h3 hBr'
          go_wp2_with fail
          refine (cR _).mono ?_
          rintro e w4 ⟨rfl, h4⟩
          replace hBq := hBq.trans (h4.mono hBq.size)
          go_wp2_with fail
          refine (cRR _).mono ?_
          rintro e w5 ⟨rfl, h5⟩
          replace hBq := hBq.trans (h5.mono hBq.size)
          go_wp2_with fail
          refine (cQ _).mono ?_
          rintro e w' ⟨rfl, hww⟩
          subst w'
          go_wp2
          go_ret
          exact ⟨rfl, hBq⟩
    · skip
      have cQ := fun w => quiet_any 4 w
      rw [show quietK 4 = false from by decide +kernel] at cQ
      have cB := fun w => behind_any 4 w
      have cRB := fun w => rbehind_any 4 w
      have cM := fun w => may_any 4 a1 w
      have cR := fun w => reach_any 4 a1 w
      have cRR := fun w => rreach_any 4 a1 w
      have hl6 := bhK_len 4
      obtain ⟨L, hL⟩ : ∃ L, bhK 4 = L := ⟨_, rfl⟩
      rw [hL] at cB cRB cM hl6
      clear hL
      obtain ⟨D, hD⟩ : ∃ D, decide (a1 ∈ L) = D := ⟨_, rfl⟩
      rw [hD] at cM
      obtain ⟨E, hE⟩ : ∃ E, decide (a1 ∈ reachK 4) = E := ⟨_, rfl⟩
      rw [hE] at cR cRR
      clear hE
      replace hD := Lib.hid hD
      go_enter Try.func4, Try.ntmps4
      go_wp2_with fail
      refine (cB _).mono ?_
      rintro e wa ⟨va, rfl, hA, hb⟩
      go_wp2_with fail
      refine (cRB _).mono ?_
      rintro e wb ⟨vb, rfl, hB, hb2⟩
      replace hA := hA.kept (Keep.of_below hb2) (fun g hg e => by have := (hA.lt g hg).2; omega)
      replace hb := hb.trans (hb2.mono hb.size)
      obtain ⟨A, ca, rfl, -, -, hAr, -⟩ := hA.form
      obtain ⟨B, cb, rfl, -, -, hBr, -⟩ := hB.form
      obtain ⟨n, hn⟩ : ∃ n, L.length = n := ⟨_, rfl⟩
      rw [hn] at hAr hBr hl6 ⊢
      clear hn hA hB hb2 cB cRB
      go_wp2_with fail
      refine (lives_any _).mono ?_
      rintro e wl ⟨rfl, hl⟩
      replace hAr := hAr.below hl
      replace hBr := hBr.below hl
      replace hb := hb.trans (hl.mono hb.size)
      clear hl
      go_wp2
      go_loopw [7] (fun i wr => ∃ k d : Nat, i = .int .i64 (k : Int) ∧ k ≤ n ∧ wr = wl.drewN d) (fun i _ => n - (intOf i).toNat)
      case atStart => exact ⟨0, 0, by go_num, by omega, rfl⟩
      case round =>
        obtain ⟨k, d, rfl, hk, rfl⟩ := hrel
        by_cases hlt : k < n
        · have hlz : (k : Int) < (n : Int) := by omega
          obtain ⟨b1, o1, x, rfl, hx, hc1⟩ := hAr.place hlt
          obtain ⟨b2, o2, y, rfl, hy, hc2⟩ := hBr.place hlt
          have hxy : y = x := by
            rw [hx] at hy
            exact (Option.some.inj hy).symm
          subst hxy
          have hq1 : ∀ d, (wl.drewN d).cell? ⟨b1, o1 + k, none⟩ = some (.int .i64 y) := fun _ => hc1
          have hq2 : ∀ d, (wl.drewN d).cell? ⟨b2, o2 + k, none⟩ = some (.int .i64 y) := fun _ => hc2
          clear hx hy hc1 hc2
          go_wp2_with fail
          go_quiet (fail)
          go_wp2_with fail
          go_roundw
          case rel => exact ⟨k + 1, _, by go_num, by omega, rfl⟩
          case measure => simp [intOf]; omega
        · have hlz : ¬ (k : Int) < (n : Int) := by omega
          have hBq : Below w.heap.size w (wl.drewN d) := ⟨hb.os, hb.tape, hb.output, hb.size, hb.block⟩
          have hBr' : IR (wl.drewN d) B n L := hBr.drewN d
          obtain ⟨wq, hwq⟩ : ∃ wq, wl.drewN d = wq := ⟨_, rfl⟩
          rw [hwq] at hBq hBr' ⊢
          clear hwq hBr hAr hb
          go_wp2_with fail
          refine (cM _).mono ?_
          rintro e w3 ⟨rfl, h3⟩
          replace hBr' := hBr'.below h3
          replace hBq := hBq.trans (h3.mono hBq.size)
          go_wp2_with fail
          refine (in_any B n cb L a1 _ hBr' (by omega)).mono ?_
          rw [hD.out]
          rintro e w' ⟨rfl, hww⟩
          subst w'
          clear h3 hBr'
          go_wp2_with fail
          refine (cR _).mono ?_
          rintro e w4 ⟨rfl, h4⟩
          replace hBq := hBq.trans (h4.mono hBq.size)
          go_wp2_with fail
          refine (cRR _).mono ?_
          rintro e w5 ⟨rfl, h5⟩
          replace hBq := hBq.trans (h5.mono hBq.size)
          go_wp2_with fail
          refine (cQ _).mono ?_
          rintro e w' ⟨rfl, hww⟩
          subst w'
          go_wp2
          go_ret
          exact ⟨rfl, hBq⟩
    · skip
      have cQ := fun w => quiet_any 5 w
      rw [show quietK 5 = true from by decide +kernel] at cQ
      have cB := fun w => behind_any 5 w
      have cRB := fun w => rbehind_any 5 w
      have cM := fun w => may_any 5 a1 w
      have cR := fun w => reach_any 5 a1 w
      have cRR := fun w => rreach_any 5 a1 w
      have hl6 := bhK_len 5
      obtain ⟨L, hL⟩ : ∃ L, bhK 5 = L := ⟨_, rfl⟩
      rw [hL] at cB cRB cM hl6
      clear hL
      obtain ⟨D, hD⟩ : ∃ D, decide (a1 ∈ L) = D := ⟨_, rfl⟩
      rw [hD] at cM
      obtain ⟨E, hE⟩ : ∃ E, decide (a1 ∈ reachK 5) = E := ⟨_, rfl⟩
      rw [hE] at cR cRR
      clear hE
      replace hD := Lib.hid hD
      go_enter Try.func4, Try.ntmps4
      go_wp2_with fail
      refine (cB _).mono ?_
      rintro e wa ⟨va, rfl, hA, hb⟩
      go_wp2_with fail
      refine (cRB _).mono ?_
      rintro e wb ⟨vb, rfl, hB, hb2⟩
      replace hA := hA.kept (Keep.of_below hb2) (fun g hg e => by have := (hA.lt g hg).2; omega)
      replace hb := hb.trans (hb2.mono hb.size)
      obtain ⟨A, ca, rfl, -, -, hAr, -⟩ := hA.form
      obtain ⟨B, cb, rfl, -, -, hBr, -⟩ := hB.form
      obtain ⟨n, hn⟩ : ∃ n, L.length = n := ⟨_, rfl⟩
      rw [hn] at hAr hBr hl6 ⊢
      clear hn hA hB hb2 cB cRB
      go_wp2_with fail
      refine (lives_any _).mono ?_
      rintro e wl ⟨rfl, hl⟩
      replace hAr := hAr.below hl
      replace hBr := hBr.below hl
      replace hb := hb.trans (hl.mono hb.size)
      clear hl
      go_wp2
      go_loopw [7] (fun i wr => ∃ k d : Nat, i = .int .i64 (k : Int) ∧ k ≤ n ∧ wr = wl.drewN d) (fun i _ => n - (intOf i).toNat)
      case atStart => exact ⟨0, 0, by go_num, by omega, rfl⟩
      case round =>
        obtain ⟨k, d, rfl, hk, rfl⟩ := hrel
        by_cases hlt : k < n
        · have hlz : (k : Int) < (n : Int) := by omega
          obtain ⟨b1, o1, x, rfl, hx, hc1⟩ := hAr.place hlt
          obtain ⟨b2, o2, y, rfl, hy, hc2⟩ := hBr.place hlt
          have hxy : y = x := by
            rw [hx] at hy
            exact (Option.some.inj hy).symm
          subst hxy
          have hq1 : ∀ d, (wl.drewN d).cell? ⟨b1, o1 + k, none⟩ = some (.int .i64 y) := fun _ => hc1
          have hq2 : ∀ d, (wl.drewN d).cell? ⟨b2, o2 + k, none⟩ = some (.int .i64 y) := fun _ => hc2
          clear hx hy hc1 hc2
          go_wp2_with fail
          go_quiet (fail)
          go_wp2_with fail
          go_roundw
          case rel => exact ⟨k + 1, _, by go_num, by omega, rfl⟩
          case measure => simp [intOf]; omega
        · have hlz : ¬ (k : Int) < (n : Int) := by omega
          have hBq : Below w.heap.size w (wl.drewN d) := ⟨hb.os, hb.tape, hb.output, hb.size, hb.block⟩
          have hBr' : IR (wl.drewN d) B n L := hBr.drewN d
          obtain ⟨wq, hwq⟩ : ∃ wq, wl.drewN d = wq := ⟨_, rfl⟩
          rw [hwq] at hBq hBr' ⊢
          clear hwq hBr hAr hb
          go_wp2_with fail
          refine (cM _).mono ?_
          rintro e w3 ⟨rfl, h3⟩
          replace hBr' := hBr'.below h3
          replace hBq := hBq.trans (h3.mono hBq.size)
          go_wp2_with fail
          refine (in_any B n cb L a1 _ hBr' (by omega)).mono ?_
          rw [hD.out]
          rintro e w' ⟨rfl, hww⟩
          subst w'
          clear h3 hBr'
          go_wp2_with fail
          refine (cR _).mono ?_
          rintro e w4 ⟨rfl, h4⟩
          replace hBq := hBq.trans (h4.mono hBq.size)
          go_wp2_with fail
          refine (cRR _).mono ?_
          rintro e w5 ⟨rfl, h5⟩
          replace hBq := hBq.trans (h5.mono hBq.size)
          go_wp2_with fail
          refine (cQ _).mono ?_
          rintro e w' ⟨rfl, hww⟩
          subst w'
          go_wp2
          go_ret
          exact ⟨rfl, hBq⟩
    · skip
      have cQ := fun w => quiet_any 6 w
      rw [show quietK 6 = true from by decide +kernel] at cQ
      have cB := fun w => behind_any 6 w
      have cRB := fun w => rbehind_any 6 w
      have cM := fun w => may_any 6 a1 w
      have cR := fun w => reach_any 6 a1 w
      have cRR := fun w => rreach_any 6 a1 w
      have hl6 := bhK_len 6
      obtain ⟨L, hL⟩ : ∃ L, bhK 6 = L := ⟨_, rfl⟩
      rw [hL] at cB cRB cM hl6
      clear hL
      obtain ⟨D, hD⟩ : ∃ D, decide (a1 ∈ L) = D := ⟨_, rfl⟩
      rw [hD] at cM
      obtain ⟨E, hE⟩ : ∃ E, decide (a1 ∈ reachK 6) = E := ⟨_, rfl⟩
      rw [hE] at cR cRR
      clear hE
      replace hD := Lib.hid hD
      go_enter Try.func4, Try.ntmps4
      go_wp2_with fail
      refine (cB _).mono ?_
      rintro e wa ⟨va, rfl, hA, hb⟩
      go_wp2_with fail
      refine (cRB _).mono ?_
      rintro e wb ⟨vb, rfl, hB, hb2⟩
      replace hA := hA.kept (Keep.of_below hb2) (fun g hg e => by have := (hA.lt g hg).2; omega)
      replace hb := hb.trans (hb2.mono hb.size)
      obtain ⟨A, ca, rfl, -, -, hAr, -⟩ := hA.form
      obtain ⟨B, cb, rfl, -, -, hBr, -⟩ := hB.form
      obtain ⟨n, hn⟩ : ∃ n, L.length = n := ⟨_, rfl⟩
      rw [hn] at hAr hBr hl6 ⊢
      clear hn hA hB hb2 cB cRB
      go_wp2_with fail
      refine (lives_any _).mono ?_
      rintro e wl ⟨rfl, hl⟩
      replace hAr := hAr.below hl
      replace hBr := hBr.below hl
      replace hb := hb.trans (hl.mono hb.size)
      clear hl
      go_wp2
      go_loopw [7] (fun i wr => ∃ k d : Nat, i = .int .i64 (k : Int) ∧ k ≤ n ∧ wr = wl.drewN d) (fun i _ => n - (intOf i).toNat)
      case atStart => exact ⟨0, 0, by go_num, by omega, rfl⟩
      case round =>
        obtain ⟨k, d, rfl, hk, rfl⟩ := hrel
        by_cases hlt : k < n
        · have hlz : (k : Int) < (n : Int) := by omega
          obtain ⟨b1, o1, x, rfl, hx, hc1⟩ := hAr.place hlt
          obtain ⟨b2, o2, y, rfl, hy, hc2⟩ := hBr.place hlt
          have hxy : y = x := by
            rw [hx] at hy
            exact (Option.some.inj hy).symm
          subst hxy
          have hq1 : ∀ d, (wl.drewN d).cell? ⟨b1, o1 + k, none⟩ = some (.int .i64 y) := fun _ => hc1
          have hq2 : ∀ d, (wl.drewN d).cell? ⟨b2, o2 + k, none⟩ = some (.int .i64 y) := fun _ => hc2
          clear hx hy hc1 hc2
          go_wp2_with fail
          go_quiet (fail)
          go_wp2_with fail
          go_roundw
          case rel => exact ⟨k + 1, _, by go_num, by omega, rfl⟩
          case measure => simp [intOf]; omega
        · have hlz : ¬ (k : Int) < (n : Int) := by omega
          have hBq : Below w.heap.size w (wl.drewN d) := ⟨hb.os, hb.tape, hb.output, hb.size, hb.block⟩
          have hBr' : IR (wl.drewN d) B n L := hBr.drewN d
          obtain ⟨wq, hwq⟩ : ∃ wq, wl.drewN d = wq := ⟨_, rfl⟩
          rw [hwq] at hBq hBr' ⊢
          clear hwq hBr hAr hb
          go_wp2_with fail
          refine (cM _).mono ?_
          rintro e w3 ⟨rfl, h3⟩
          replace hBr' := hBr'.below h3
          replace hBq := hBq.trans (h3.mono hBq.size)
          go_wp2_with fail
          refine (in_any B n cb L a1 _ hBr' (by omega)).mono ?_
          rw [hD.out]
          rintro e w' ⟨rfl, hww⟩
          subst w'
          clear h3 hBr'
          go_wp2_with fail
          refine (cR _).mono ?_
          rintro e w4 ⟨rfl, h4⟩
          replace hBq := hBq.trans (h4.mono hBq.size)
          go_wp2_with fail
          refine (cRR _).mono ?_
          rintro e w5 ⟨rfl, h5⟩
          replace hBq := hBq.trans (h5.mono hBq.size)
          go_wp2_with fail
          refine (cQ _).mono ?_
          rintro e w' ⟨rfl, hww⟩
          subst w'
          go_wp2
          go_ret
          exact ⟨rfl, hBq⟩
    · skip
      have cQ := fun w => quiet_any 7 w
      rw [show quietK 7 = false from by decide +kernel] at cQ
      have cB := fun w => behind_any 7 w
      have cRB := fun w => rbehind_any 7 w
      have cM := fun w => may_any 7 a1 w
      have cR := fun w => reach_any 7 a1 w
      have cRR := fun w => rreach_any 7 a1 w
      have hl6 := bhK_len 7
      obtain ⟨L, hL⟩ : ∃ L, bhK 7 = L := ⟨_, rfl⟩
      rw [hL] at cB cRB cM hl6
      clear hL
      obtain ⟨D, hD⟩ : ∃ D, decide (a1 ∈ L) = D := ⟨_, rfl⟩
      rw [hD] at cM
      obtain ⟨E, hE⟩ : ∃ E, decide (a1 ∈ reachK 7) = E := ⟨_, rfl⟩
      rw [hE] at cR cRR
      clear hE
      replace hD := Lib.hid hD
      go_enter Try.func4, Try.ntmps4
      go_wp2_with fail
      refine (cB _).mono ?_
      rintro e wa ⟨va, rfl, hA, hb⟩
      go_wp2_with fail
      refine (cRB _).mono ?_
      rintro e wb ⟨vb, rfl, hB, hb2⟩
      replace hA := hA.kept (Keep.of_below hb2) (fun g hg e => by have := (hA.lt g hg).2; omega)
      replace hb := hb.trans (hb2.mono hb.size)
      obtain ⟨A, ca, rfl, -, -, hAr, -⟩ := hA.form
      obtain ⟨B, cb, rfl, -, -, hBr, -⟩ := hB.form
      obtain ⟨n, hn⟩ : ∃ n, L.length = n := ⟨_, rfl⟩
      rw [hn] at hAr hBr hl6 ⊢
      clear hn hA hB hb2 cB cRB
      go_wp2_with fail
      refine (lives_any _).mono ?_
      rintro e wl ⟨rfl, hl⟩
      replace hAr := hAr.below hl
      replace hBr := hBr.below hl
      replace hb := hb.trans (hl.mono hb.size)
      clear hl
      go_wp2
      go_loopw [7] (fun i wr => ∃ k d : Nat, i = .int .i64 (k : Int) ∧ k ≤ n ∧ wr = wl.drewN d) (fun i _ => n - (intOf i).toNat)
      case atStart => exact ⟨0, 0, by go_num, by omega, rfl⟩
      case round =>
        obtain ⟨k, d, rfl, hk, rfl⟩ := hrel
        by_cases hlt : k < n
        · have hlz : (k : Int) < (n : Int) := by omega
          obtain ⟨b1, o1, x, rfl, hx, hc1⟩ := hAr.place hlt
          obtain ⟨b2, o2, y, rfl, hy, hc2⟩ := hBr.place hlt
          have hxy : y = x := by
            rw [hx] at hy
            exact (Option.some.inj hy).symm
          subst hxy
          have hq1 : ∀ d, (wl.drewN d).cell? ⟨b1, o1 + k, none⟩ = some (.int .i64 y) := fun _ => hc1
          have hq2 : ∀ d, (wl.drewN d).cell? ⟨b2, o2 + k, none⟩ = some (.int .i64 y) := fun _ => hc2
          clear hx hy hc1 hc2
          go_wp2_with fail
          go_quiet (fail)
          go_wp2_with fail
          go_roundw
          case rel => exact ⟨k + 1, _, by go_num, by omega, rfl⟩
          case measure => simp [intOf]; omega
        · have hlz : ¬ (k : Int) < (n : Int) := by omega
          have hBq : Below w.heap.size w (wl.drewN d) := ⟨hb.os, hb.tape, hb.output, hb.size, hb.block⟩
          have hBr' : IR (wl.drewN d) B n L := hBr.drewN d
          obtain ⟨wq, hwq⟩ : ∃ wq, wl.drewN d = wq := ⟨_, rfl⟩
          rw [hwq] at hBq hBr' ⊢
          clear hwq hBr hAr hb
          go_wp2_with fail
          refine (cM _).mono ?_
          rintro e w3 ⟨rfl, h3⟩
          replace hBr' := hBr'.below h3
          replace hBq := hBq.trans (h3.mono hBq.size)
          go_wp2_with fail
          refine (in_any B n cb L a1 _ hBr' (by omega)).mono ?_
          rw [hD.out]
          rintro e w' ⟨rfl, hww⟩
          subst w'
          clear h3 hBr'
          go_wp2_with fail
          refine (cR _).mono ?_
          rintro e w4 ⟨rfl, h4⟩
          replace hBq := hBq.trans (h4.mono hBq.size)
          go_wp2_with fail
          refine (cRR _).mono ?_
          rintro e w5 ⟨rfl, h5⟩
          replace hBq := hBq.trans (h5.mono hBq.size)
          go_wp2_with fail
          refine (cQ _).mono ?_
          rintro e w' ⟨rfl, hww⟩
          subst w'
          go_wp2
          go_ret
          exact ⟨rfl, hBq⟩
    · skip
      have cQ := fun w => quiet_any 8 w
      rw [show quietK 8 = true from by decide +kernel] at cQ
      have cB := fun w => behind_any 8 w
      have cRB := fun w => rbehind_any 8 w
      have cM := fun w => may_any 8 a1 w
      have cR := fun w => reach_any 8 a1 w
      have cRR := fun w => rreach_any 8 a1 w
      have hl6 := bhK_len 8
      obtain ⟨L, hL⟩ : ∃ L, bhK 8 = L := ⟨_, rfl⟩
      rw [hL] at cB cRB cM hl6
      clear hL
      obtain ⟨D, hD⟩ : ∃ D, decide (a1 ∈ L) = D := ⟨_, rfl⟩
      rw [hD] at cM
      obtain ⟨E, hE⟩ : ∃ E, decide (a1 ∈ reachK 8) = E := ⟨_, rfl⟩
      rw [hE] at cR cRR
      clear hE
      replace hD := Lib.hid hD
      go_enter Try.func4, Try.ntmps4
      go_wp2_with fail
      refine (cB _).mono ?_
      rintro e wa ⟨va, rfl, hA, hb⟩
      go_wp2_with fail
      refine (cRB _).mono ?_
      rintro e wb ⟨vb, rfl, hB, hb2⟩
      replace hA := hA.kept (Keep.of_below hb2) (fun g hg e => by have := (hA.lt g hg).2; omega)
      replace hb := hb.trans (hb2.mono hb.size)
      obtain ⟨A, ca, rfl, -, -, hAr, -⟩ := hA.form
      obtain ⟨B, cb, rfl, -, -, hBr, -⟩ := hB.form
      obtain ⟨n, hn⟩ : ∃ n, L.length = n := ⟨_, rfl⟩
      rw [hn] at hAr hBr hl6 ⊢
      clear hn hA hB hb2 cB cRB
      go_wp2_with fail
      refine (lives_any _).mono ?_
      rintro e wl ⟨rfl, hl⟩
      replace hAr := hAr.below hl
      replace hBr := hBr.below hl
      replace hb := hb.trans (hl.mono hb.size)
      clear hl
      go_wp2
      go_loopw [7] (fun i wr => ∃ k d : Nat, i = .int .i64 (k : Int) ∧ k ≤ n ∧ wr = wl.drewN d) (fun i _ => n - (intOf i).toNat)
      case atStart => exact ⟨0, 0, by go_num, by omega, rfl⟩
      case round =>
        obtain ⟨k, d, rfl, hk, rfl⟩ := hrel
        by_cases hlt : k < n
        · have hlz : (k : Int) < (n : Int) := by omega
          obtain ⟨b1, o1, x, rfl, hx, hc1⟩ := hAr.place hlt
          obtain ⟨b2, o2, y, rfl, hy, hc2⟩ := hBr.place hlt
          have hxy : y = x := by
            rw [hx] at hy
            exact (Option.some.inj hy).symm
          subst hxy
          have hq1 : ∀ d, (wl.drewN d).cell? ⟨b1, o1 + k, none⟩ = some (.int .i64 y) := fun _ => hc1
          have hq2 : ∀ d, (wl.drewN d).cell? ⟨b2, o2 + k, none⟩ = some (.int .i64 y) := fun _ => hc2
          clear hx hy hc1 hc2
          go_wp2_with fail
          go_quiet (fail)
          go_wp2_with fail
          go_roundw
          case rel => exact ⟨k + 1, _, by go_num, by omega, rfl⟩
          case measure => simp [intOf]; omega
        · have hlz : ¬ (k : Int) < (n : Int) := by omega
          have hBq : Below w.heap.size w (wl.drewN d) := ⟨hb.os, hb.tape, hb.output, hb.size, hb.block⟩
          have hBr' : IR (wl.drewN d) B n L := hBr.drewN d
          obtain ⟨wq, hwq⟩ : ∃ wq, wl.drewN d = wq := ⟨_, rfl⟩
          rw [hwq] at hBq hBr' ⊢
          clear hwq hBr hAr hb
          go_wp2_with fail
          refine (cM _).mono ?_
          rintro e w3 ⟨rfl, h3⟩
          replace hBr' := hBr'.below h3
          replace hBq := hBq.trans (h3.mono hBq.size)
          go_wp2_with fail
          refine (in_any B n cb L a1 _ hBr' (by omega)).mono ?_
          rw [hD.out]
          rintro e w' ⟨rfl, hww⟩
          subst w'
          clear h3 hBr'
          go_wp2_with fail
          refine (cR _).mono ?_
          rintro e w4 ⟨rfl, h4⟩
          replace hBq := hBq.trans (h4.mono hBq.size)
          go_wp2_with fail
          refine (cRR _).mono ?_
          rintro e w5 ⟨rfl, h5⟩
          replace hBq := hBq.trans (h5.mono hBq.size)
          go_wp2_with fail
          refine (cQ _).mono ?_
          rintro e w' ⟨rfl, hww⟩
          subst w'
          go_wp2
          go_ret
          exact ⟨rfl, hBq⟩
    · skip
      have cQ := fun w => quiet_any 9 w
      rw [show quietK 9 = false from by decide +kernel] at cQ
      have cB := fun w => behind_any 9 w
      have cRB := fun w => rbehind_any 9 w
      have cM := fun w => may_any 9 a1 w
      have cR := fun w => reach_any 9 a1 w
      have cRR := fun w => rreach_any 9 a1 w
      have hl6 := bhK_len 9
      obtain ⟨L, hL⟩ : ∃ L, bhK 9 = L := ⟨_, rfl⟩
      rw [hL] at cB cRB cM hl6
      clear hL
      obtain ⟨D, hD⟩ : ∃ D, decide (a1 ∈ L) = D := ⟨_, rfl⟩
      rw [hD] at cM
      obtain ⟨E, hE⟩ : ∃ E, decide (a1 ∈ reachK 9) = E := ⟨_, rfl⟩
      rw [hE] at cR cRR
      clear hE
      replace hD := Lib.hid hD
      go_enter Try.func4, Try.ntmps4
      go_wp2_with fail
      refine (cB _).mono ?_
      rintro e wa ⟨va, rfl, hA, hb⟩
      go_wp2_with fail
      refine (cRB _).mono ?_
      rintro e wb ⟨vb, rfl, hB, hb2⟩
      replace hA := hA.kept (Keep.of_below hb2) (fun g hg e => by have := (hA.lt g hg).2; omega)
      replace hb := hb.trans (hb2.mono hb.size)
      obtain ⟨A, ca, rfl, -, -, hAr, -⟩ := hA.form
      obtain ⟨B, cb, rfl, -, -, hBr, -⟩ := hB.form
      obtain ⟨n, hn⟩ : ∃ n, L.length = n := ⟨_, rfl⟩
      rw [hn] at hAr hBr hl6 ⊢
      clear hn hA hB hb2 cB cRB
      go_wp2_with fail
      refine (lives_any _).mono ?_
      rintro e wl ⟨rfl, hl⟩
      replace hAr := hAr.below hl
      replace hBr := hBr.below hl
      replace hb := hb.trans (hl.mono hb.size)
      clear hl
      go_wp2
      go_loopw [7] (fun i wr => ∃ k d : Nat, i = .int .i64 (k : Int) ∧ k ≤ n ∧ wr = wl.drewN d) (fun i _ => n - (intOf i).toNat)
      case atStart => exact ⟨0, 0, by go_num, by omega, rfl⟩
      case round =>
        obtain ⟨k, d, rfl, hk, rfl⟩ := hrel
        by_cases hlt : k < n
        · have hlz : (k : Int) < (n : Int) := by omega
          obtain ⟨b1, o1, x, rfl, hx, hc1⟩ := hAr.place hlt
          obtain ⟨b2, o2, y, rfl, hy, hc2⟩ := hBr.place hlt
          have hxy : y = x := by
            rw [hx] at hy
            exact (Option.some.inj hy).symm
          subst hxy
          have hq1 : ∀ d, (wl.drewN d).cell? ⟨b1, o1 + k, none⟩ = some (.int .i64 y) := fun _ => hc1
          have hq2 : ∀ d, (wl.drewN d).cell? ⟨b2, o2 + k, none⟩ = some (.int .i64 y) := fun _ => hc2
          clear hx hy hc1 hc2
          go_wp2_with fail
          go_quiet (fail)
          go_wp2_with fail
          go_roundw
          case rel => exact ⟨k + 1, _, by go_num, by omega, rfl⟩
          case measure => simp [intOf]; omega
        · have hlz : ¬ (k : Int) < (n : Int) := by omega
          have hBq : Below w.heap.size w (wl.drewN d) := ⟨hb.os, hb.tape, hb.output, hb.size, hb.block⟩
          have hBr' : IR (wl.drewN d) B n L := hBr.drewN d
          obtain ⟨wq, hwq⟩ : ∃ wq, wl.drewN d = wq := ⟨_, rfl⟩
          rw [hwq] at hBq hBr' ⊢
          clear hwq hBr hAr hb
          go_wp2_with fail
          refine (cM _).mono ?_
          rintro e w3 ⟨rfl, h3⟩
          replace hBr' := hBr'.below h3
          replace hBq := hBq.trans (h3.mono hBq.size)
          go_wp2_with fail
          refine (in_any B n cb L a1 _ hBr' (by omega)).mono ?_
          rw [hD.out]
          rintro e w' ⟨rfl, hww⟩
          subst w'
          clear h3 hBr'
          go_wp2_with fail
          refine (cR _).mono ?_
          rintro e w4 ⟨rfl, h4⟩
          replace hBq := hBq.trans (h4.mono hBq.size)
          go_wp2_with fail
          refine (cRR _).mono ?_
          rintro e w5 ⟨rfl, h5⟩
          replace hBq := hBq.trans (h5.mono hBq.size)
          go_wp2_with fail
          refine (cQ _).mono ?_
          rintro e w' ⟨rfl, hww⟩
          subst w'
          go_wp2
          go_ret
          exact ⟨rfl, hBq⟩
    · skip
      have cQ := fun w => quiet_any 10 w
      rw [show quietK 10 = true from by decide +kernel] at cQ
      have cB := fun w => behind_any 10 w
      have cRB := fun w => rbehind_any 10 w
      have cM := fun w => may_any 10 a1 w
      have cR := fun w => reach_any 10 a1 w
      have cRR := fun w => rreach_any 10 a1 w
      have hl6 := bhK_len 10
      obtain ⟨L, hL⟩ : ∃ L, bhK 10 = L := ⟨_, rfl⟩
      rw [hL] at cB cRB cM hl6
      clear hL
      obtain ⟨D, hD⟩ : ∃ D, decide (a1 ∈ L) = D := ⟨_, rfl⟩
      rw [hD] at cM
      obtain ⟨E, hE⟩ : ∃ E, decide (a1 ∈ reachK 10) = E := ⟨_, rfl⟩
      rw [hE] at cR cRR
      clear hE
      replace hD := Lib.hid hD
      go_enter Try.func4, Try.ntmps4
      go_wp2_with fail
      refine (cB _).mono ?_
      rintro e wa ⟨va, rfl, hA, hb⟩
      go_wp2_with fail
      refine (cRB _).mono ?_
      rintro e wb ⟨vb, rfl, hB, hb2⟩
      replace hA := hA.kept (Keep.of_below hb2) (fun g hg e => by have := (hA.lt g hg).2; omega)
      replace hb := hb.trans (hb2.mono hb.size)
      obtain ⟨A, ca, rfl, -, -, hAr, -⟩ := hA.form
      obtain ⟨B, cb, rfl, -, -, hBr, -⟩ := hB.form
      obtain ⟨n, hn⟩ : ∃ n, L.length = n := ⟨_, rfl⟩
      rw [hn] at hAr hBr hl6 ⊢
      clear hn hA hB hb2 cB cRB
      go_wp2_with fail
      refine (lives_any _).mono ?_
      rintro e wl ⟨rfl, hl⟩
      replace hAr := hAr.below hl
      replace hBr := hBr.below hl
      replace hb := hb.trans (hl.mono hb.size)
      clear hl
      go_wp2
      go_loopw [7] (fun i wr => ∃ k d : Nat, i = .int .i64 (k : Int) ∧ k ≤ n ∧ wr = wl.drewN d) (fun i _ => n - (intOf i).toNat)
      case atStart => exact ⟨0, 0, by go_num, by omega, rfl⟩
      case round =>
        obtain ⟨k, d, rfl, hk, rfl⟩ := hrel
        by_cases hlt : k < n
        · have hlz : (k : Int) < (n : Int) := by omega
          obtain ⟨b1, o1, x, rfl, hx, hc1⟩ := hAr.place hlt
          obtain ⟨b2, o2, y, rfl, hy, hc2⟩ := hBr.place hlt
          have hxy : y = x := by
            rw [hx] at hy
            exact (Option.some.inj hy).symm
          subst hxy
          have hq1 : ∀ d, (wl.drewN d).cell? ⟨b1, o1 + k, none⟩ = some (.int .i64 y) := fun _ => hc1
          have hq2 : ∀ d, (wl.drewN d).cell? ⟨b2, o2 + k, none⟩ = some (.int .i64 y) := fun _ => hc2
          clear hx hy hc1 hc2
          go_wp2_with fail
          go_quiet (fail)
          go_wp2_with fail
          go_roundw
          case rel => exact ⟨k + 1, _, by go_num, by omega, rfl⟩
          case measure => simp [intOf]; omega
        · have hlz : ¬ (k : Int) < (n : Int) := by omega
          have hBq : Below w.heap.size w (wl.drewN d) := ⟨hb.os, hb.tape, hb.output, hb.size, hb.block⟩
          have hBr' : IR (wl.drewN d) B n L := hBr.drewN d
          obtain ⟨wq, hwq⟩ : ∃ wq, wl.drewN d = wq := ⟨_, rfl⟩
          rw [hwq] at hBq hBr' ⊢
          clear hwq hBr hAr hb
          go_wp2_with fail
          refine (cM _).mono ?_
          rintro e w3 ⟨rfl, h3⟩
          replace hBr' := hBr'.below h3
          replace hBq := hBq.trans (h3.mono hBq.size)
          go_wp2_with fail
          refine (in_any B n cb L a1 _ hBr' (by omega)).mono ?_
          rw [hD.out]
          rintro e w' ⟨rfl, hww⟩
          subst w'
          clear h3 hBr'
          go_wp2_with fail
          refine (cR _).mono ?_
          rintro e w4 ⟨rfl, h4⟩
          replace hBq := hBq.trans (h4.mono hBq.size)
          go_wp2_with fail
          refine (cRR _).mono ?_
          rintro e w5 ⟨rfl, h5⟩
          replace hBq := hBq.trans (h5.mono hBq.size)
          go_wp2_with fail
          refine (cQ _).mono ?_
          rintro e w' ⟨rfl, hww⟩
          subst w'
          go_wp2
          go_ret
          exact ⟨rfl, hBq⟩
  · skip
    have cQ := fun w => quiet_any a0 w
    rw [quietK_none h] at cQ
    have na02 : (a0 == 2) = false := beq_eq_false_iff_ne.2 (by omega)
    have na03 : (a0 == 3) = false := beq_eq_false_iff_ne.2 (by omega)
    have na05 : (a0 == 5) = false := beq_eq_false_iff_ne.2 (by omega)
    have na06 : (a0 == 6) = false := beq_eq_false_iff_ne.2 (by omega)
    have na08 : (a0 == 8) = false := beq_eq_false_iff_ne.2 (by omega)
    have na010 : (a0 == 10) = false := beq_eq_false_iff_ne.2 (by omega)
    have cB := fun w => behind_any a0 w
    have cRB := fun w => rbehind_any a0 w
    have cM := fun w => may_any a0 a1 w
    have cR := fun w => reach_any a0 a1 w
    have cRR := fun w => rreach_any a0 a1 w
    have hl6 := bhK_len a0
    obtain ⟨L, hL⟩ : ∃ L, bhK a0 = L := ⟨_, rfl⟩
    rw [hL] at cB cRB cM hl6
    clear hL
    obtain ⟨D, hD⟩ : ∃ D, decide (a1 ∈ L) = D := ⟨_, rfl⟩
    rw [hD] at cM
    obtain ⟨E, hE⟩ : ∃ E, decide (a1 ∈ reachK a0) = E := ⟨_, rfl⟩
    rw [hE] at cR cRR
    clear hE
    replace hD := Lib.hid hD
    go_enter Try.func4, Try.ntmps4
    go_wp2_with fail
    refine (cB _).mono ?_
    rintro e wa ⟨va, rfl, hA, hb⟩
    go_wp2_with fail
    refine (cRB _).mono ?_
    rintro e wb ⟨vb, rfl, hB, hb2⟩
    replace hA := hA.kept (Keep.of_below hb2) (fun g hg e => by have := (hA.lt g hg).2; omega)
    replace hb := hb.trans (hb2.mono hb.size)
    obtain ⟨A, ca, rfl, -, -, hAr, -⟩ := hA.form
    obtain ⟨B, cb, rfl, -, -, hBr, -⟩ := hB.form
    obtain ⟨n, hn⟩ : ∃ n, L.length = n := ⟨_, rfl⟩
    rw [hn] at hAr hBr hl6 ⊢
    clear hn hA hB hb2 cB cRB
    go_wp2_with fail
    refine (lives_any _).mono ?_
    rintro e wl ⟨rfl, hl⟩
    replace hAr := hAr.below hl
    replace hBr := hBr.below hl
    replace hb := hb.trans (hl.mono hb.size)
    clear hl
    go_wp2
    go_loopw [7] (fun i wr => ∃ k d : Nat, i = .int .i64 (k : Int) ∧ k ≤ n ∧ wr = wl.drewN d) (fun i _ => n - (intOf i).toNat)
    case atStart => exact ⟨0, 0, by go_num, by omega, rfl⟩
    case round =>
      obtain ⟨k, d, rfl, hk, rfl⟩ := hrel
      by_cases hlt : k < n
      · have hlz : (k : Int) < (n : Int) := by omega
        obtain ⟨b1, o1, x, rfl, hx, hc1⟩ := hAr.place hlt
        obtain ⟨b2, o2, y, rfl, hy, hc2⟩ := hBr.place hlt
        have hxy : y = x := by
          rw [hx] at hy
          exact (Option.some.inj hy).symm
        subst hxy
        have hq1 : ∀ d, (wl.drewN d).cell? ⟨b1, o1 + k, none⟩ = some (.int .i64 y) := fun _ => hc1
        have hq2 : ∀ d, (wl.drewN d).cell? ⟨b2, o2 + k, none⟩ = some (.int .i64 y) := fun _ => hc2
        clear hx hy hc1 hc2
        go_wp2_with fail
        go_quiet (fail)
        go_wp2_with fail
        go_roundw
        case rel => exact ⟨k + 1, _, by go_num, by omega, rfl⟩
        case measure => simp [intOf]; omega
      · have hlz : ¬ (k : Int) < (n : Int) := by omega
        have hBq : Below w.heap.size w (wl.drewN d) := ⟨hb.os, hb.tape, hb.output, hb.size, hb.block⟩
        have hBr' : IR (wl.drewN d) B n L := hBr.drewN d
        obtain ⟨wq, hwq⟩ : ∃ wq, wl.drewN d = wq := ⟨_, rfl⟩
        rw [hwq] at hBq hBr' ⊢
        clear hwq hBr hAr hb
        go_wp2_with fail
        refine (cM _).mono ?_
        rintro e w3 ⟨rfl, h3⟩
        replace hBr' := hBr'.below h3
        replace hBq := hBq.trans (h3.mono hBq.size)
        go_wp2_with fail
        refine (in_any B n cb L a1 _ hBr' (by omega)).mono ?_
        rw [hD.out]
        rintro e w' ⟨rfl, hww⟩
        subst w'
        clear h3 hBr'
        go_wp2_with fail
        refine (cR _).mono ?_
        rintro e w4 ⟨rfl, h4⟩
        replace hBq := hBq.trans (h4.mono hBq.size)
        go_wp2_with fail
        refine (cRR _).mono ?_
        rintro e w5 ⟨rfl, h5⟩
        replace hBq := hBq.trans (h5.mono hBq.size)
        go_wp2_with fail
        refine (cQ _).mono ?_
        rintro e w' ⟨rfl, hww⟩
        subst w'
        go_wp2
        go_ret
        exact ⟨rfl, hBq⟩

namespace lifeBehindDone
open Go.ChangeShapes Go.WideShapes Go.ChangeAt
set_option maxRecDepth 100000 in
theorem lifted (os : Os) (started : os.Started) (H : Type) (enc : TypeId × Value → H) :
    ReturnsInHanded {} Try.checked os 4 .any (Rows.lifeBehindSpec.pre6 enc Try.prog Try.f4 Rows.lifeBehindRow.domain false) (Rows.lifeBehindSpec.post enc Try.prog Try.f4 false true false false) := by
  refine returnsInHanded_of_change_sized (C := Try.checked) own started (by kernel_rfl) Try.func4
    (ChangeSpec.witness6 (enc := enc) (C := Try.checked) false ⟨#[], #[Value.int .i64 0, Value.int .i64 0], []⟩ 8 (by kernel_rfl) (by kernel_rfl) (by kernel_rfl) (by kernel_rfl)) ?_
  intro W base args ds gs before hval0 hW hcnd hsz0 _
  have hsz : (DataW.weightsEach Try.prog (Try.f4.params.toList ++ Rows.lifeBehindSpec.plain.varTypes Try.prog) (ds ++ gs)).all (· ≤ reachBytes) = true := hsz0
  clear hsz0
  have hval : ∀ (j : Nat) t v, Try.f4.params[j]? = some t → args[j]? = some v → Value.okWide Try.prog W .any base t v := hval0
  have hW' := hW
  obtain ⟨p, q, hA0, hV, rfl, hfz, hnd⟩ := hW
  have hA : DataW.TrodAll enc Try.prog W 0 (fun _ => true) true Try.f4.params.toList args.toList ds p := hA0
  rw [Try.params4] at hA hval hsz
  obtain ⟨v0, vs0, d0, ds0, p0, q0, hargs, rfl, rfl, h0, r0⟩ := trodAll_cons hA
  obtain ⟨v1, vs1, d1, ds1, p1, q1, rfl, rfl, rfl, h1, r1⟩ := trodAll_cons r0
  obtain ⟨rfl, rfl, rfl⟩ := trodAll_nil r1
  obtain rfl : args = #[v0, v1] := by cases args; simp_all
  obtain ⟨rfl, rfl⟩ := trodVars_none hV
  obtain ⟨a0, rfl, rfl, rfl, w0⟩ := open_int Try.underlying3 (hval 0 3 v0 rfl rfl) h0
  obtain ⟨a1, rfl, rfl, rfl, w1⟩ := open_int Try.underlying3 (hval 1 3 v1 rfl rfl) h1
  clear hA0 hval0
  refine (lifeBehind_walk (w := W) a0 w0 a1 w1).mono fun e W' ⟨he, bel⟩ => ?_
  subst he
  exact ⟨_, rfl, _, _, _, [], _, [], hW', trodAll_mk1 (shut_bool Try.underlying4 _), (trodAll_cons_mk (shut_int Try.underlying3 w0) (trodAll_cons_mk (shut_int Try.underlying3 w1) trodAll_mk0)), rfl, bel.frame _, fun h => by cases h⟩

theorem over : Rows.lifeBehindRow.holds Try.pinned (OpenSpec.ofChange Rows.lifeBehindSpec) :=
  OpenClaim.holds_of_wide 4 Try.f4 rfl rfl rfl rfl rfl rfl rfl ⟨rfl, rfl, rfl, rfl, rfl⟩ rfl rfl rfl rfl rfl (by kernel_rfl) Try.func4 (by kernel_rfl)
    (of_decide_eq_true (by kernel_rfl)) (by unfold Func.isWrapper; first | (rw [if_pos (by decide +kernel)]; kernel_rfl) | (rw [if_neg (by decide +kernel)]; exact ⟨rfl, rfl⟩))
    (fun os started H enc _ => lifted os started H enc)

/-- The statement. -/
theorem proved : Rows.LifeBehindSaid := over
end lifeBehindDone
end Go.Proofs.Ytpcngkbjeiclkaa
