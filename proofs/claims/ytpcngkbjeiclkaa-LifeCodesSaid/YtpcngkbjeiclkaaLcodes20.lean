/- 'LifeCodes' returns true for every input: the row of this law, proved. No condition. -/
import Derived.Test.YtpcngkbjeiclkaaLiO
import Derived.ProofKit
import Derived.OpenShut
import Derived.ShutString
import Derived.ChangeOld
import Derived.SizedLaws
namespace Go.Proofs.Ytpcngkbjeiclkaa
open Go.RowKit
set_option linter.unusedVariables false
set_option linter.unusedSimpArgs false
set_option maxRecDepth 100000 in
set_option maxHeartbeats 6400000 in
theorem lifeCodes_walk {w : World} (a0 : Int) (w0 : (Lit.int .i64 a0).wf = true) (a1 : Int) (w1 : (Lit.int .i64 a1).wf = true) :
    Calls Try.prog 6 #[.int .i64 a0, .int .i64 a1] w fun e w' => e = .returned (.bool true) ∧ Below w.heap.size w w' := by
  by_cases h1 : a0 = 1
  · subst h1
    by_cases g2 : a1 = 2
    · subst g2
      have cC := fun w => code_any 1 2 w
      rw [show codeK 1 2 = (0, true) from by decide +kernel] at cC
      go_enter Try.func6, Try.ntmps6
      go_wp2_with fail
      refine (cC _).mono ?_
      rintro e w' ⟨rfl, hww⟩
      subst w'
      go_wp2_with fail
      refine (lives_any _).mono ?_
      rintro e w1 ⟨rfl, hx⟩
      go_wp2
      go_ret
      exact ⟨rfl, hx⟩
    by_cases g3 : a1 = 3
    · subst g3
      have cC := fun w => code_any 1 3 w
      rw [show codeK 1 3 = (200, true) from by decide +kernel] at cC
      go_enter Try.func6, Try.ntmps6
      go_wp2_with fail
      refine (cC _).mono ?_
      rintro e w' ⟨rfl, hww⟩
      subst w'
      go_wp2_with fail
      refine (lives_any _).mono ?_
      rintro e w1 ⟨rfl, hx⟩
      go_wp2
      go_ret
      exact ⟨rfl, hx⟩
    by_cases g5 : a1 = 5
    · subst g5
      have cC := fun w => code_any 1 5 w
      rw [show codeK 1 5 = (51, true) from by decide +kernel] at cC
      go_enter Try.func6, Try.ntmps6
      go_wp2_with fail
      refine (cC _).mono ?_
      rintro e w' ⟨rfl, hww⟩
      subst w'
      go_wp2_with fail
      refine (lives_any _).mono ?_
      rintro e w1 ⟨rfl, hx⟩
      go_wp2
      go_ret
      exact ⟨rfl, hx⟩
    by_cases g6 : a1 = 6
    · subst g6
      have cC := fun w => code_any 1 6 w
      rw [show codeK 1 6 = (4, true) from by decide +kernel] at cC
      go_enter Try.func6, Try.ntmps6
      go_wp2_with fail
      refine (cC _).mono ?_
      rintro e w' ⟨rfl, hww⟩
      subst w'
      go_wp2_with fail
      refine (lives_any _).mono ?_
      rintro e w1 ⟨rfl, hx⟩
      go_wp2
      go_ret
      exact ⟨rfl, hx⟩
    have na12 : (a1 == 2) = false := beq_eq_false_iff_ne.2 (by omega)
    have na13 : (a1 == 3) = false := beq_eq_false_iff_ne.2 (by omega)
    have na15 : (a1 == 5) = false := beq_eq_false_iff_ne.2 (by omega)
    have na16 : (a1 == 6) = false := beq_eq_false_iff_ne.2 (by omega)
    have cC := fun w => code_any 1 a1 w
    rw [show codeK 1 a1 = (0, false) from by unfold codeK ordK; rw [if_pos rfl]; repeat rw [if_neg (by omega)]] at cC
    go_enter Try.func6, Try.ntmps6
    go_wp2_with fail
    refine (cC _).mono ?_
    rintro e w' ⟨rfl, hww⟩
    subst w'
    go_wp2_with fail
    refine (lives_any _).mono ?_
    rintro e w1 ⟨rfl, hx⟩
    go_wp2
    go_ret
    exact ⟨rfl, hx⟩
  by_cases h2 : a0 = 2
  · subst h2
    by_cases g6 : a1 = 6
    · subst g6
      have cC := fun w => code_any 2 6 w
      rw [show codeK 2 6 = (0, true) from by decide +kernel] at cC
      go_enter Try.func6, Try.ntmps6
      go_wp2_with fail
      refine (cC _).mono ?_
      rintro e w' ⟨rfl, hww⟩
      subst w'
      go_wp2_with fail
      refine (lives_any _).mono ?_
      rintro e w1 ⟨rfl, hx⟩
      go_wp2
      go_ret
      exact ⟨rfl, hx⟩
    have na16 : (a1 == 6) = false := beq_eq_false_iff_ne.2 (by omega)
    have cC := fun w => code_any 2 a1 w
    rw [show codeK 2 a1 = (0, false) from by unfold codeK; rw [na16]; rfl] at cC
    go_enter Try.func6, Try.ntmps6
    go_wp2_with fail
    refine (cC _).mono ?_
    rintro e w' ⟨rfl, hww⟩
    subst w'
    go_wp2_with fail
    refine (lives_any _).mono ?_
    rintro e w1 ⟨rfl, hx⟩
    go_wp2
    go_ret
    exact ⟨rfl, hx⟩
  by_cases h3 : a0 = 3
  · subst h3
    by_cases g8 : a1 = 8
    · subst g8
      have cC := fun w => code_any 3 8 w
      rw [show codeK 3 8 = (0, true) from by decide +kernel] at cC
      go_enter Try.func6, Try.ntmps6
      go_wp2_with fail
      refine (cC _).mono ?_
      rintro e w' ⟨rfl, hww⟩
      subst w'
      go_wp2_with fail
      refine (lives_any _).mono ?_
      rintro e w1 ⟨rfl, hx⟩
      go_wp2
      go_ret
      exact ⟨rfl, hx⟩
    have na18 : (a1 == 8) = false := beq_eq_false_iff_ne.2 (by omega)
    have cC := fun w => code_any 3 a1 w
    rw [show codeK 3 a1 = (0, false) from by unfold codeK; rw [na18]; rfl] at cC
    go_enter Try.func6, Try.ntmps6
    go_wp2_with fail
    refine (cC _).mono ?_
    rintro e w' ⟨rfl, hww⟩
    subst w'
    go_wp2_with fail
    refine (lives_any _).mono ?_
    rintro e w1 ⟨rfl, hx⟩
    go_wp2
    go_ret
    exact ⟨rfl, hx⟩
  by_cases h4 : a0 = 4
  · subst h4
    by_cases g10 : a1 = 10
    · subst g10
      have cC := fun w => code_any 4 10 w
      rw [show codeK 4 10 = (0, true) from by decide +kernel] at cC
      go_enter Try.func6, Try.ntmps6
      go_wp2_with fail
      refine (cC _).mono ?_
      rintro e w' ⟨rfl, hww⟩
      subst w'
      go_wp2_with fail
      refine (lives_any _).mono ?_
      rintro e w1 ⟨rfl, hx⟩
      go_wp2
      go_ret
      exact ⟨rfl, hx⟩
    have na110 : (a1 == 10) = false := beq_eq_false_iff_ne.2 (by omega)
    have cC := fun w => code_any 4 a1 w
    rw [show codeK 4 a1 = (0, false) from by unfold codeK; rw [na110]; rfl] at cC
    go_enter Try.func6, Try.ntmps6
    go_wp2_with fail
    refine (cC _).mono ?_
    rintro e w' ⟨rfl, hww⟩
    subst w'
    go_wp2_with fail
    refine (lives_any _).mono ?_
    rintro e w1 ⟨rfl, hx⟩
    go_wp2
    go_ret
    exact ⟨rfl, hx⟩
  have na01 : (a0 == 1) = false := beq_eq_false_iff_ne.2 (by omega)
  have na02 : (a0 == 2) = false := beq_eq_false_iff_ne.2 (by omega)
  have na03 : (a0 == 3) = false := beq_eq_false_iff_ne.2 (by omega)
  have na04 : (a0 == 4) = false := beq_eq_false_iff_ne.2 (by omega)
  have cC := fun w => code_any a0 a1 w
  rw [show codeK a0 a1 = (0, false) from by unfold codeK; repeat rw [if_neg (by omega)]] at cC
  go_enter Try.func6, Try.ntmps6
  go_wp2_with fail
  refine (cC _).mono ?_
  rintro e w' ⟨rfl, hww⟩
  subst w'
  go_wp2_with fail
  refine (lives_any _).mono ?_
  rintro e w1 ⟨rfl, hx⟩
  go_wp2
  go_ret
  exact ⟨rfl, hx⟩

namespace lifeCodesDone
open Go.ChangeShapes Go.WideShapes Go.ChangeAt
set_option maxRecDepth 100000 in
theorem lifted (os : Os) (started : os.Started) (H : Type) (enc : TypeId × Value → H) :
    ReturnsInHanded {} Try.checked os 6 .any (Rows.lifeCodesSpec.pre6 enc Try.prog Try.f6 Rows.lifeCodesRow.domain false) (Rows.lifeCodesSpec.post enc Try.prog Try.f6 false true false false) := by
  refine returnsInHanded_of_change_sized (C := Try.checked) own started (by kernel_rfl) Try.func6
    (ChangeSpec.witness6 (enc := enc) (C := Try.checked) false ⟨#[], #[Value.int .i64 0, Value.int .i64 0], []⟩ 8 (by kernel_rfl) (by kernel_rfl) (by kernel_rfl) (by kernel_rfl)) ?_
  intro W base args ds gs before hval0 hW hcnd hsz0 _
  have hsz : (DataW.weightsEach Try.prog (Try.f6.params.toList ++ Rows.lifeCodesSpec.plain.varTypes Try.prog) (ds ++ gs)).all (· ≤ reachBytes) = true := hsz0
  clear hsz0
  have hval : ∀ (j : Nat) t v, Try.f6.params[j]? = some t → args[j]? = some v → Value.okWide Try.prog W .any base t v := hval0
  have hW' := hW
  obtain ⟨p, q, hA0, hV, rfl, hfz, hnd⟩ := hW
  have hA : DataW.TrodAll enc Try.prog W 0 (fun _ => true) true Try.f6.params.toList args.toList ds p := hA0
  rw [Try.params6] at hA hval hsz
  obtain ⟨v0, vs0, d0, ds0, p0, q0, hargs, rfl, rfl, h0, r0⟩ := trodAll_cons hA
  obtain ⟨v1, vs1, d1, ds1, p1, q1, rfl, rfl, rfl, h1, r1⟩ := trodAll_cons r0
  obtain ⟨rfl, rfl, rfl⟩ := trodAll_nil r1
  obtain rfl : args = #[v0, v1] := by cases args; simp_all
  obtain ⟨rfl, rfl⟩ := trodVars_none hV
  obtain ⟨a0, rfl, rfl, rfl, w0⟩ := open_int Try.underlying3 (hval 0 3 v0 rfl rfl) h0
  obtain ⟨a1, rfl, rfl, rfl, w1⟩ := open_int Try.underlying3 (hval 1 3 v1 rfl rfl) h1
  clear hA0 hval0
  refine (lifeCodes_walk (w := W) a0 w0 a1 w1).mono fun e W' ⟨he, bel⟩ => ?_
  subst he
  exact ⟨_, rfl, _, _, _, [], _, [], hW', trodAll_mk1 (shut_bool Try.underlying4 _), (trodAll_cons_mk (shut_int Try.underlying3 w0) (trodAll_cons_mk (shut_int Try.underlying3 w1) trodAll_mk0)), rfl, bel.frame _, fun h => by cases h⟩

theorem over : Rows.lifeCodesRow.holds Try.pinned (OpenSpec.ofChange Rows.lifeCodesSpec) :=
  OpenClaim.holds_of_wide 6 Try.f6 rfl rfl rfl rfl rfl rfl rfl ⟨rfl, rfl, rfl, rfl, rfl⟩ rfl rfl rfl rfl rfl (by kernel_rfl) Try.func6 (by kernel_rfl)
    (of_decide_eq_true (by kernel_rfl)) (by unfold Func.isWrapper; first | (rw [if_pos (by decide +kernel)]; kernel_rfl) | (rw [if_neg (by decide +kernel)]; exact ⟨rfl, rfl⟩))
    (fun os started H enc _ => lifted os started H enc)

/-- The statement. -/
theorem proved : Rows.LifeCodesSaid := over
end lifeCodesDone
end Go.Proofs.Ytpcngkbjeiclkaa
