/- 'AskHomes' returns true for every input: the row of this law, proved. No condition. -/
import Derived.Test.YtejpabeamjhmjaaAskL
import Derived.ProofKit
import Derived.OpenShut
import Derived.ShutString
import Derived.ChangeOld
import Derived.SizedLaws
namespace Go.Proofs.Ytejpabeamjhmjaa
open Go.RowKit
set_option linter.unusedVariables false
set_option linter.unusedSimpArgs false
set_option maxRecDepth 100000 in
set_option maxHeartbeats 3200000 in
theorem askHomes_walk {w : World} (a0 : Int) (w0 : (Lit.int .i64 a0).wf = true) (a1 : Int) (w1 : (Lit.int .i64 a1).wf = true) :
    Calls Try.prog 12 #[.int .i64 a0, .int .i64 a1] w fun e w' => e = .returned (.bool true) ∧ Below w.heap.size w w' := by
  have hr := (wf_of w1).2
  by_cases h : 0 ≤ a0
  case neg =>
    have ho : homeN a0 a1 = 0 := by unfold homeN; rw [if_neg (by omega)]
    have hb : a0 < 0 := by omega
    go_enter Try.func12, Try.ntmps12
    go_wp2_with fail
    refine (home_any a0 a1 _ hr).mono ?_
    rintro e w2 ⟨rfl, rfl⟩
    rw [ho]
    go_wp2_with fail
    refine (alives_any _).mono ?_
    rintro e w3 ⟨rfl, hx1⟩
    go_wp2
    go_ret
    exact ⟨rfl, hx1⟩
  by_cases h1 : 1 ≤ a1
  case neg =>
    have ho : homeN a0 a1 = 0 := by unfold homeN; rw [if_neg (by omega)]
    have hb : a1 < 1 := by omega
    go_enter Try.func12, Try.ntmps12
    go_wp2_with fail
    refine (home_any a0 a1 _ hr).mono ?_
    rintro e w2 ⟨rfl, rfl⟩
    rw [ho]
    go_wp2_with fail
    refine (alives_any _).mono ?_
    rintro e w3 ⟨rfl, hx1⟩
    go_wp2
    go_ret
    exact ⟨rfl, hx1⟩
  have ho : homeN a0 a1 = a0 % a1 := by unfold homeN; rw [if_pos (by omega)]
  have hm : Int.tmod a0 a1 = a0 % a1 := Int.tmod_eq_emod_of_nonneg h
  have hb1 := Int.emod_nonneg a0 (show a1 ≠ 0 by omega)
  have hb2 := Int.emod_lt_of_pos a0 (show 0 < a1 by omega)
  have hw : wrap64 (a0 % a1) = a0 % a1 := by unfold wrap64; omega
  have hr0 : (a1 == 0) = false := beq_eq_false_iff_ne.2 (by omega)
  have hr1 : ¬ a1 = 0 := by omega
  have hn0 : ¬ a0 < 0 := by omega
  have hn1 : ¬ a1 < 1 := by omega
  by_cases h2 : a1 ≤ a0
  · have hc : decide (a1 ≤ a0) = true := decide_eq_true h2
    go_enter Try.func12, Try.ntmps12
    go_wp2_with fail
    refine (home_any a0 a1 _ hr).mono ?_
    rintro e w2 ⟨rfl, rfl⟩
    rw [ho]
    go_wp2_with fail
    refine (alives_any _).mono ?_
    rintro e w3 ⟨rfl, hx1⟩
    go_wp2
    go_ret
    exact ⟨by simp [hm, hw], hx1⟩
  · have hc : ¬ a1 ≤ a0 := h2
    have he : a0 % a1 = a0 := Int.emod_eq_of_lt h (by omega)
    have hbb : (a0 % a1 == a0) = true := beq_iff_eq.2 he
    have hbd : decide (a0 % a1 = a0) = true := decide_eq_true he
    clear he
    go_enter Try.func12, Try.ntmps12
    go_wp2_with fail
    refine (home_any a0 a1 _ hr).mono ?_
    rintro e w2 ⟨rfl, rfl⟩
    rw [ho]
    go_wp2_with fail
    refine (alives_any _).mono ?_
    rintro e w3 ⟨rfl, hx1⟩
    go_wp2
    go_ret
    exact ⟨by simp [hm, hw], hx1⟩

namespace askHomesDone
open Go.ChangeShapes Go.WideShapes Go.ChangeAt
set_option maxRecDepth 100000 in
theorem lifted (os : Os) (started : os.Started) (H : Type) (enc : TypeId × Value → H) :
    ReturnsInHanded {} Try.checked os 12 .any (Rows.askHomesSpec.pre6 enc Try.prog Try.f12 Rows.askHomesRow.domain false) (Rows.askHomesSpec.post enc Try.prog Try.f12 false true false false) := by
  refine returnsInHanded_of_change_sized (C := Try.checked) own started (by kernel_rfl) Try.func12
    (ChangeSpec.witness6 (enc := enc) (C := Try.checked) false ⟨#[], #[Value.int .i64 0, Value.int .i64 0], []⟩ 8 (by kernel_rfl) (by kernel_rfl) (by kernel_rfl) (by kernel_rfl)) ?_
  intro W base args ds gs before hval0 hW hcnd hsz0 _
  have hsz : (DataW.weightsEach Try.prog (Try.f12.params.toList ++ Rows.askHomesSpec.plain.varTypes Try.prog) (ds ++ gs)).all (· ≤ reachBytes) = true := hsz0
  clear hsz0
  have hval : ∀ (j : Nat) t v, Try.f12.params[j]? = some t → args[j]? = some v → Value.okWide Try.prog W .any base t v := hval0
  have hW' := hW
  obtain ⟨p, q, hA0, hV, rfl, hfz, hnd⟩ := hW
  have hA : DataW.TrodAll enc Try.prog W 0 (fun _ => true) true Try.f12.params.toList args.toList ds p := hA0
  rw [Try.params12] at hA hval hsz
  obtain ⟨v0, vs0, d0, ds0, p0, q0, hargs, rfl, rfl, h0, r0⟩ := trodAll_cons hA
  obtain ⟨v1, vs1, d1, ds1, p1, q1, rfl, rfl, rfl, h1, r1⟩ := trodAll_cons r0
  obtain ⟨rfl, rfl, rfl⟩ := trodAll_nil r1
  obtain rfl : args = #[v0, v1] := by cases args; simp_all
  obtain ⟨rfl, rfl⟩ := trodVars_none hV
  obtain ⟨a0, rfl, rfl, rfl, w0⟩ := open_int Try.underlying3 (hval 0 3 v0 rfl rfl) h0
  obtain ⟨a1, rfl, rfl, rfl, w1⟩ := open_int Try.underlying3 (hval 1 3 v1 rfl rfl) h1
  clear hA0 hval0
  refine (askHomes_walk (w := W) a0 w0 a1 w1).mono fun e W' ⟨he, bel⟩ => ?_
  subst he
  exact ⟨_, rfl, _, _, _, [], _, [], hW', trodAll_mk1 (shut_bool Try.underlying4 _), (trodAll_cons_mk (shut_int Try.underlying3 w0) (trodAll_cons_mk (shut_int Try.underlying3 w1) trodAll_mk0)), rfl, bel.frame _, fun h => by cases h⟩

theorem over : Rows.askHomesRow.holds Try.pinned (OpenSpec.ofChange Rows.askHomesSpec) :=
  OpenClaim.holds_of_wide 12 Try.f12 rfl rfl rfl rfl rfl rfl rfl ⟨rfl, rfl, rfl, rfl, rfl⟩ rfl rfl rfl rfl rfl (by kernel_rfl) Try.func12 (by kernel_rfl)
    (of_decide_eq_true (by kernel_rfl)) (by unfold Func.isWrapper; first | (rw [if_pos (by decide +kernel)]; kernel_rfl) | (rw [if_neg (by decide +kernel)]; exact ⟨rfl, rfl⟩))
    (fun os started H enc _ => lifted os started H enc)

/-- The statement. -/
theorem proved : Rows.AskHomesSaid := over
end askHomesDone
end Go.Proofs.Ytejpabeamjhmjaa
