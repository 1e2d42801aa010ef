/- 'BackoffRises' returns true for every input: the row of this law, proved. No condition. -/
import Derived.Test.YtiinlcfggjcmoaaTmB
import Derived.ProofKit
import Derived.OpenShut
import Derived.ShutString
import Derived.ChangeOld
import Derived.SizedLaws
namespace Go.Proofs.Ytiinlcfggjcmoaa
open Go.RowKit
set_option linter.unusedVariables false
set_option linter.unusedSimpArgs false
theorem waitF_up (most : Int) : ∀ (k : Nat) (w : Int), 0 ≤ w → w ≤ most → waitF most k w ≤ waitF most (k + 1) w
  | 0, w, h0, h => by
    rw [waitF, waitF]
    split
    · exact h
    · rw [waitF]; omega
  | k + 1, w, h0, h => by
    show (if most < 2 * w then most else waitF most k (2 * w)) ≤ (if most < 2 * w then most else waitF most (k + 1) (2 * w))
    split
    · exact Int.le_refl _
    · exact waitF_up most k _ (by omega) (by omega)
theorem waitF_hit (most : Int) : ∀ (k : Nat) (w : Int), 1 ≤ w → w ≤ most → most < (2 : Int) ^ k * w → waitF most k w = most
  | 0, w, h0, h, h2 => by simp at h2; omega
  | k + 1, w, h0, h, h2 => by
    rw [waitF]
    split
    · rfl
    · refine waitF_hit most k _ (by omega) (by omega) ?_
      rw [Int.pow_succ, Int.mul_assoc] at h2
      exact h2
theorem waitN_up {base most tries : Int} (h1 : 1 ≤ base) (h2 : base ≤ most) (h3 : 0 ≤ tries) : base ≤ waitN base most tries ∧ waitN base most tries ≤ waitN base most (tries + 1) ∧ waitN base most (tries + 1) ≤ most := by
  rw [waitN_ok h1 h2 h3, waitN_ok h1 h2 (by omega), show (tries + 1).toNat = tries.toNat + 1 by omega]
  exact ⟨waitF_ge most _ _ (by omega) h2, waitF_up most _ _ (by omega) h2, waitF_le most _ _ h2⟩
theorem waitN_hit {base most tries : Int} (h1 : 1 ≤ base) (h2 : base ≤ most) (h3 : 63 ≤ tries) (ht : most ≤ 9223372036854775807) : waitN base most tries = most := by
  rw [waitN_ok h1 h2 (by omega)]
  refine waitF_hit most _ _ h1 h2 ?_
  obtain ⟨j, hj⟩ : ∃ j, tries.toNat = 63 + j := ⟨tries.toNat - 63, by omega⟩
  rw [hj, Int.pow_add]
  have hp : (1 : Int) ≤ 2 ^ j := by
    have := Nat.one_le_two_pow (n := j)
    exact_mod_cast this
  have h63 : (2 : Int) ^ 63 = 9223372036854775808 := by decide
  rw [h63]
  have h4 : (9223372036854775808 : Int) * 1 ≤ 9223372036854775808 * 2 ^ j := Int.mul_le_mul_of_nonneg_left hp (by omega)
  have h5 : (9223372036854775808 * 2 ^ j : Int) * 1 ≤ (9223372036854775808 * 2 ^ j) * base := Int.mul_le_mul_of_nonneg_left h1 (by omega)
  omega
set_option maxRecDepth 100000 in
set_option maxHeartbeats 3200000 in
theorem backoffRises_walk {w : World} (a0 : Int) (w0 : (Lit.int .i64 a0).wf = true) (a1 : Int) (w1 : (Lit.int .i64 a1).wf = true) (a2 : Int) (w2 : (Lit.int .i64 a2).wf = true) :
    Calls Try.prog 4 #[.int .i64 a0, .int .i64 a1, .int .i64 a2] w fun e w' => e = .returned (.bool true) ∧ RowKit.Below w.heap.size w w' := by
  obtain ⟨b0, c0⟩ := wf_int w0
  obtain ⟨b1, c1⟩ := wf_int w1
  obtain ⟨b2, c2⟩ := wf_int w2
  clear w0 w1 w2
  have hw := fun W => wait_any a0 a1 a2 W c1 c2
  by_cases hbad : a0 < 1 ∨ a1 < a0 ∨ a2 < 0
  · rw [waitN_bad hbad] at hw
    rcases (show a0 < 1 ∨ (¬ a0 < 1 ∧ a1 < a0) ∨ (¬ a0 < 1 ∧ ¬ a1 < a0 ∧ a2 < 0) by omega) with h1 | ⟨h1, h2⟩ | ⟨h1, h2, h3⟩
    all_goals
      go_enter Try.func4, Try.ntmps4
      go_wp2_with fail
      refine (lives_any _).mono ?_
      rintro e w5 ⟨rfl, hb5⟩
      go_wp2_with fail
      refine (hw _).mono ?_
      rintro e w' ⟨rfl, rfl⟩
      go_wp2
      go_ret
      exact ⟨by simp, hb5⟩
  · have h1 : ¬ a0 < 1 := by omega
    have h2 : ¬ a1 < a0 := by omega
    have h3 : ¬ a2 < 0 := by omega
    obtain ⟨g1, g2, g3⟩ := waitN_up (base := a0) (most := a1) (tries := a2) (by omega) (by omega) (by omega)
    have hit := fun h63 => waitN_hit (base := a0) (most := a1) (tries := a2) (by omega) (by omega) h63 c1
    have hs : a2 < 4611686018427387904 → ∀ W, Calls Try.prog 10 #[.int .i64 a0, .int .i64 a1, .int .i64 (a2 + 1)] W fun e w' => e = .returned (.int .i64 (waitN a0 a1 (a2 + 1))) ∧ w' = W :=
      fun h W => wait_any a0 a1 (a2 + 1) W c1 (by omega)
    generalize waitN a0 a1 a2 = d at *
    generalize waitN a0 a1 (a2 + 1) = d2 at *
    by_cases h62 : a2 < 4611686018427387904
    all_goals
      by_cases h63 : a2 < 63
      all_goals
        first
        | omega
        | (go_enter Try.func4, Try.ntmps4
           go_wp2_with fail
           refine (hw _).mono ?_
           rintro e w' ⟨rfl, rfl⟩
           go_wp2_with fail
           first
           | (refine (hs h62 _).mono ?_
              rintro e w' ⟨rfl, rfl⟩
              go_wp2_with fail
              refine (lives_any _).mono ?_)
           | refine (lives_any _).mono ?_
           rintro e w5 ⟨rfl, hb5⟩
           have hq : ¬ a2 < 63 → d = a1 := fun h => hit (by omega)
           go_wp2
           go_ret
           exact ⟨by simp, hb5⟩)

namespace backoffRisesDone
open Go.ChangeShapes Go.WideShapes Go.ChangeAt
set_option maxRecDepth 100000 in
theorem lifted (os : Os) (started : os.Started) (H : Type) (enc : TypeId × Value → H) :
    ReturnsInHanded {} Try.checked os 4 .any (Rows.backoffRisesSpec.pre6 enc Try.prog Try.f4 Rows.backoffRisesRow.domain false) (Rows.backoffRisesSpec.post enc Try.prog Try.f4 false true false false) := by
  refine returnsInHanded_of_change_sized (C := Try.checked) own started (by kernel_rfl) Try.func4
    (ChangeSpec.witness6 (enc := enc) (C := Try.checked) false ⟨#[], #[Value.int .i64 0, Value.int .i64 0, Value.int .i64 0], []⟩ 8 (by kernel_rfl) (by kernel_rfl) (by kernel_rfl) (by kernel_rfl)) ?_
  intro W base args ds gs before hval0 hW hcnd hsz0 _
  have hsz : (DataW.weightsEach Try.prog (Try.f4.params.toList ++ Rows.backoffRisesSpec.plain.varTypes Try.prog) (ds ++ gs)).all (· ≤ reachBytes) = true := hsz0
  clear hsz0
  have hval : ∀ (j : Nat) t v, Try.f4.params[j]? = some t → args[j]? = some v → Value.okWide Try.prog W .any base t v := hval0
  have hW' := hW
  obtain ⟨p, q, hA0, hV, rfl, hfz, hnd⟩ := hW
  have hA : DataW.TrodAll enc Try.prog W 0 (fun _ => true) true Try.f4.params.toList args.toList ds p := hA0
  rw [Try.params4] at hA hval hsz
  obtain ⟨v0, vs0, d0, ds0, p0, q0, hargs, rfl, rfl, h0, r0⟩ := trodAll_cons hA
  obtain ⟨v1, vs1, d1, ds1, p1, q1, rfl, rfl, rfl, h1, r1⟩ := trodAll_cons r0
  obtain ⟨v2, vs2, d2, ds2, p2, q2, rfl, rfl, rfl, h2, r2⟩ := trodAll_cons r1
  obtain ⟨rfl, rfl, rfl⟩ := trodAll_nil r2
  obtain rfl : args = #[v0, v1, v2] := by cases args; simp_all
  obtain ⟨rfl, rfl⟩ := trodVars_none hV
  obtain ⟨a0, rfl, rfl, rfl, w0⟩ := open_int Try.underlying3 (hval 0 3 v0 rfl rfl) h0
  obtain ⟨a1, rfl, rfl, rfl, w1⟩ := open_int Try.underlying3 (hval 1 3 v1 rfl rfl) h1
  obtain ⟨a2, rfl, rfl, rfl, w2⟩ := open_int Try.underlying3 (hval 2 3 v2 rfl rfl) h2
  clear hA0 hval0
  refine (backoffRises_walk (w := W) a0 w0 a1 w1 a2 w2).mono fun e W' ⟨he, bel⟩ => ?_
  subst he
  exact ⟨_, rfl, _, _, _, [], _, [], hW', trodAll_mk1 (shut_bool Try.underlying4 _), (trodAll_cons_mk (shut_int Try.underlying3 w0) (trodAll_cons_mk (shut_int Try.underlying3 w1) (trodAll_cons_mk (shut_int Try.underlying3 w2) trodAll_mk0))), rfl, bel.frame _, fun h => by cases h⟩

theorem over : Rows.backoffRisesRow.holds Try.pinned (OpenSpec.ofChange Rows.backoffRisesSpec) :=
  OpenClaim.holds_of_wide 4 Try.f4 rfl rfl rfl rfl rfl rfl rfl ⟨rfl, rfl, rfl, rfl, rfl⟩ rfl rfl rfl rfl rfl (by kernel_rfl) Try.func4 (by kernel_rfl)
    (of_decide_eq_true (by kernel_rfl)) (by unfold Func.isWrapper; first | (rw [if_pos (by decide +kernel)]; kernel_rfl) | (rw [if_neg (by decide +kernel)]; exact ⟨rfl, rfl⟩))
    (fun os started H enc _ => lifted os started H enc)

/-- The statement. -/
theorem proved : Rows.BackoffRisesSaid := over
end backoffRisesDone
end Go.Proofs.Ytiinlcfggjcmoaa
