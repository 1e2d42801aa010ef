/- 'MailKinds' returns true for every input: the row of this law, proved. No condition. -/
import Derived.Test.YtefgcknnnglkpaaMaL
import Derived.ProofKit
import Derived.OpenShut
import Derived.ShutString
import Derived.ChangeOld
import Derived.SizedLaws
namespace Go.Proofs.Ytefgcknnnglkpaa
open Go.RowKit
set_option linter.unusedVariables false
set_option linter.unusedSimpArgs false
set_option maxRecDepth 100000 in
set_option maxHeartbeats 6400000 in
theorem mailKinds_walk {w : World} (a0 : Int) (w0 : (Lit.int .i64 a0).wf = true) :
    Calls Try.prog 6 #[.int .i64 a0] w fun e w' => e = .returned (.bool true) ∧ Below w.heap.size w w' := by
  by_cases h1 : a0 = 1
  · subst h1
    have hans : ansK 1 = 2 := by decide +kernel
    go_enter Try.func6, Try.ntmps6
    go_wp2_with fail
    refine (mlives_any _).mono ?_
    rintro e w1 ⟨rfl, hx1⟩
    go_wp2_with fail
    refine (mhas_any 1 w1).mono ?_
    rintro e w' ⟨rfl, hww⟩
    subst w'
    go_wp2_with fail
    refine (rmhas_any 1 w1).mono ?_
    rintro e w2 ⟨rfl, hx2⟩
    have hb2 := hx1.trans (hx2.mono hx1.size)
    have k3 := manswers_any 1 w2
    rw [hans] at k3
    go_wp2_with fail
    refine k3.mono ?_
    rintro e w' ⟨rfl, hww⟩
    subst w'
    go_wp2
    go_ret
    exact ⟨by simp, hb2⟩
  by_cases h3 : a0 = 3
  · subst h3
    have hans : ansK 3 = 4 := by decide +kernel
    go_enter Try.func6, Try.ntmps6
    go_wp2_with fail
    refine (mlives_any _).mono ?_
    rintro e w1 ⟨rfl, hx1⟩
    go_wp2_with fail
    refine (mhas_any 3 w1).mono ?_
    rintro e w' ⟨rfl, hww⟩
    subst w'
    go_wp2_with fail
    refine (rmhas_any 3 w1).mono ?_
    rintro e w2 ⟨rfl, hx2⟩
    have hb2 := hx1.trans (hx2.mono hx1.size)
    have k3 := manswers_any 3 w2
    rw [hans] at k3
    go_wp2_with fail
    refine k3.mono ?_
    rintro e w' ⟨rfl, hww⟩
    subst w'
    go_wp2
    go_ret
    exact ⟨by simp, hb2⟩
  by_cases h5 : a0 = 5
  · subst h5
    have hans : ansK 5 = 6 := by decide +kernel
    go_enter Try.func6, Try.ntmps6
    go_wp2_with fail
    refine (mlives_any _).mono ?_
    rintro e w1 ⟨rfl, hx1⟩
    go_wp2_with fail
    refine (mhas_any 5 w1).mono ?_
    rintro e w' ⟨rfl, hww⟩
    subst w'
    go_wp2_with fail
    refine (rmhas_any 5 w1).mono ?_
    rintro e w2 ⟨rfl, hx2⟩
    have hb2 := hx1.trans (hx2.mono hx1.size)
    have k3 := manswers_any 5 w2
    rw [hans] at k3
    go_wp2_with fail
    refine k3.mono ?_
    rintro e w' ⟨rfl, hww⟩
    subst w'
    go_wp2
    go_ret
    exact ⟨by simp, hb2⟩
  by_cases h7 : a0 = 7
  · subst h7
    have hans : ansK 7 = 8 := by decide +kernel
    go_enter Try.func6, Try.ntmps6
    go_wp2_with fail
    refine (mlives_any _).mono ?_
    rintro e w1 ⟨rfl, hx1⟩
    go_wp2_with fail
    refine (mhas_any 7 w1).mono ?_
    rintro e w' ⟨rfl, hww⟩
    subst w'
    go_wp2_with fail
    refine (rmhas_any 7 w1).mono ?_
    rintro e w2 ⟨rfl, hx2⟩
    have hb2 := hx1.trans (hx2.mono hx1.size)
    have k3 := manswers_any 7 w2
    rw [hans] at k3
    go_wp2_with fail
    refine k3.mono ?_
    rintro e w' ⟨rfl, hww⟩
    subst w'
    go_wp2
    go_ret
    exact ⟨by simp, hb2⟩
  by_cases h9 : a0 = 9
  · subst h9
    have hans : ansK 9 = 10 := by decide +kernel
    go_enter Try.func6, Try.ntmps6
    go_wp2_with fail
    refine (mlives_any _).mono ?_
    rintro e w1 ⟨rfl, hx1⟩
    go_wp2_with fail
    refine (mhas_any 9 w1).mono ?_
    rintro e w' ⟨rfl, hww⟩
    subst w'
    go_wp2_with fail
    refine (rmhas_any 9 w1).mono ?_
    rintro e w2 ⟨rfl, hx2⟩
    have hb2 := hx1.trans (hx2.mono hx1.size)
    have k3 := manswers_any 9 w2
    rw [hans] at k3
    go_wp2_with fail
    refine k3.mono ?_
    rintro e w' ⟨rfl, hww⟩
    subst w'
    go_wp2
    go_ret
    exact ⟨by simp, hb2⟩
  by_cases h11 : a0 = 11
  · subst h11
    have hans : ansK 11 = 12 := by decide +kernel
    go_enter Try.func6, Try.ntmps6
    go_wp2_with fail
    refine (mlives_any _).mono ?_
    rintro e w1 ⟨rfl, hx1⟩
    go_wp2_with fail
    refine (mhas_any 11 w1).mono ?_
    rintro e w' ⟨rfl, hww⟩
    subst w'
    go_wp2_with fail
    refine (rmhas_any 11 w1).mono ?_
    rintro e w2 ⟨rfl, hx2⟩
    have hb2 := hx1.trans (hx2.mono hx1.size)
    have k3 := manswers_any 11 w2
    rw [hans] at k3
    go_wp2_with fail
    refine k3.mono ?_
    rintro e w' ⟨rfl, hww⟩
    subst w'
    go_wp2
    go_ret
    exact ⟨by simp, hb2⟩
  have hans : ansK a0 = 0 := by
    unfold ansK
    rw [if_neg h1, if_neg (by omega)]
  have e1 : (a0 == 1) = false := beq_eq_false_iff_ne.2 h1
  have e3 : (a0 == 3) = false := beq_eq_false_iff_ne.2 h3
  have e5 : (a0 == 5) = false := beq_eq_false_iff_ne.2 h5
  have e7 : (a0 == 7) = false := beq_eq_false_iff_ne.2 h7
  have e9 : (a0 == 9) = false := beq_eq_false_iff_ne.2 h9
  have e11 : (a0 == 11) = false := beq_eq_false_iff_ne.2 h11
  go_enter Try.func6, Try.ntmps6
  go_wp2_with fail
  refine (mlives_any _).mono ?_
  rintro e w1 ⟨rfl, hx1⟩
  go_wp2_with fail
  refine (mhas_any a0 w1).mono ?_
  rintro e w' ⟨rfl, hww⟩
  subst w'
  go_wp2_with fail
  refine (rmhas_any a0 w1).mono ?_
  rintro e w2 ⟨rfl, hx2⟩
  have hb2 := hx1.trans (hx2.mono hx1.size)
  have k3 := manswers_any a0 w2
  rw [hans] at k3
  go_wp2_with fail
  refine k3.mono ?_
  rintro e w' ⟨rfl, hww⟩
  subst w'
  go_wp2
  go_ret
  exact ⟨by simp, hb2⟩

namespace mailKindsDone
open Go.ChangeShapes Go.WideShapes Go.ChangeAt
set_option maxRecDepth 100000 in
theorem lifted (os : Os) (started : os.Started) (H : Type) (enc : TypeId × Value → H) :
    ReturnsInHanded {} Try.checked os 6 .any (Rows.mailKindsSpec.pre6 enc Try.prog Try.f6 Rows.mailKindsRow.domain false) (Rows.mailKindsSpec.post enc Try.prog Try.f6 false true false false) := by
  refine returnsInHanded_of_change_sized (C := Try.checked) own started (by kernel_rfl) Try.func6
    (ChangeSpec.witness6 (enc := enc) (C := Try.checked) false ⟨#[], #[Value.int .i64 0], []⟩ 8 (by kernel_rfl) (by kernel_rfl) (by kernel_rfl) (by kernel_rfl)) ?_
  intro W base args ds gs before hval0 hW hcnd hsz0 _
  have hsz : (DataW.weightsEach Try.prog (Try.f6.params.toList ++ Rows.mailKindsSpec.plain.varTypes Try.prog) (ds ++ gs)).all (· ≤ reachBytes) = true := hsz0
  clear hsz0
  have hval : ∀ (j : Nat) t v, Try.f6.params[j]? = some t → args[j]? = some v → Value.okWide Try.prog W .any base t v := hval0
  have hW' := hW
  obtain ⟨p, q, hA0, hV, rfl, hfz, hnd⟩ := hW
  have hA : DataW.TrodAll enc Try.prog W 0 (fun _ => true) true Try.f6.params.toList args.toList ds p := hA0
  rw [Try.params6] at hA hval hsz
  obtain ⟨v0, vs0, d0, ds0, p0, q0, hargs, rfl, rfl, h0, r0⟩ := trodAll_cons hA
  obtain ⟨rfl, rfl, rfl⟩ := trodAll_nil r0
  obtain rfl : args = #[v0] := by cases args; simp_all
  obtain ⟨rfl, rfl⟩ := trodVars_none hV
  obtain ⟨a0, rfl, rfl, rfl, w0⟩ := open_int Try.underlying3 (hval 0 3 v0 rfl rfl) h0
  clear hA0 hval0
  refine (mailKinds_walk (w := W) a0 w0).mono fun e W' ⟨he, bel⟩ => ?_
  subst he
  exact ⟨_, rfl, _, _, _, [], _, [], hW', trodAll_mk1 (shut_bool Try.underlying4 _), (trodAll_cons_mk (shut_int Try.underlying3 w0) trodAll_mk0), rfl, bel.frame _, fun h => by cases h⟩

theorem over : Rows.mailKindsRow.holds Try.pinned (OpenSpec.ofChange Rows.mailKindsSpec) :=
  OpenClaim.holds_of_wide 6 Try.f6 rfl rfl rfl rfl rfl rfl rfl ⟨rfl, rfl, rfl, rfl, rfl⟩ rfl rfl rfl rfl rfl (by kernel_rfl) Try.func6 (by kernel_rfl)
    (of_decide_eq_true (by kernel_rfl)) (by unfold Func.isWrapper; first | (rw [if_pos (by decide +kernel)]; kernel_rfl) | (rw [if_neg (by decide +kernel)]; exact ⟨rfl, rfl⟩))
    (fun os started H enc _ => lifted os started H enc)

/-- The statement. -/
theorem proved : Rows.MailKindsSaid := over
end mailKindsDone
end Go.Proofs.Ytefgcknnnglkpaa
