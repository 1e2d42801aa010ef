/- 'PlanVisits' returns true for every input: the row of this law, proved. No condition. -/
import Derived.Test.YtkofaobdpmbcaaaPlO
import Derived.ProofKit
import Derived.OpenShut
import Derived.ShutString
import Derived.ChangeOld
import Derived.SizedLaws
namespace Go.Proofs.Ytkofaobdpmbcaaa
open Go.RowKit
set_option linter.unusedVariables false
set_option linter.unusedSimpArgs false
set_option maxRecDepth 100000 in
set_option maxHeartbeats 6400000 in
theorem planVisits_walk {w : World} (a0 : Int) (w0 : (Lit.int .i64 a0).wf = true) (a1 : Int) (w1 : (Lit.int .i64 a1).wf = true) :
    Calls Try.prog 3 #[.int .i64 a0, .int .i64 a1] w fun e w' => e = .returned (.bool true) ∧ Below w.heap.size w w' := by
  go_enter Try.func3, Try.ntmps3
  go_wp2_with fail
  refine (pvisit_any a0 a1 _).mono ?_
  rintro e wv ⟨v, rfl, hv, hx1⟩
  go_wp2_with fail
  refine (plives_any _).mono ?_
  rintro e wl ⟨rfl, hx2⟩
  have hb := hx1.trans (hx2.mono hx1.size)
  have hv2 := hv.below hx2
  obtain ⟨AV, cV, rfl, hV1, hV2, hVr, _⟩ := hv2.form
  clear hv hv2 hx1 hx2
  obtain ⟨q, hq⟩ : ∃ q, (visitO a0 a1).length = q := ⟨_, rfl⟩
  rw [hq] at hVr ⊢
  have hno : ∀ h : ¬ (1 ≤ a1 ∧ a1 ≤ 8 ∧ 0 ≤ a0 ∧ a0 < a1), q = 0 := fun h => by rw [← hq]; unfold visitO; rw [if_neg h]; rfl
  by_cases h1 : a1 < 1
  · have hq0 := hno (by omega)
    subst hq0
    go_wp2
    go_ret
    exact ⟨rfl, hb⟩
  by_cases h2 : 8 < a1
  · have hq0 := hno (by omega)
    subst hq0
    go_wp2
    go_ret
    exact ⟨rfl, hb⟩
  by_cases h3 : a0 < 0
  · have hq0 := hno (by omega)
    subst hq0
    go_wp2
    go_ret
    exact ⟨rfl, hb⟩
  by_cases h4 : a1 ≤ a0
  · have hq0 := hno (by omega)
    subst hq0
    go_wp2
    go_ret
    exact ⟨rfl, hb⟩
  clear hno
  obtain ⟨R, rfl⟩ : ∃ R : Nat, a1 = (R : Int) := ⟨a1.toNat, by omega⟩
  have hvis : visitO a0 (R : Int) = (List.range R).map fun (i : Nat) => (a0 + (i : Int)) % (R : Int) := by unfold visitO; rw [if_pos (by omega), Int.toNat_natCast]
  have hqR : q = R := by rw [← hq, hvis]; simp
  subst hqR
  rw [hvis] at hVr
  clear hq hvis
  have hz0 : ((q : Int) == 0) = false := beq_eq_false_iff_ne.2 (by omega)
  go_wp2
  go_loopw [6] (fun i wr => ∃ k d : Nat, i = .int .i64 (k : Int) ∧ k ≤ q ∧ wr = wl.drewN d) (fun i _ => q - (intOf i).toNat)
  case atStart => exact ⟨0, 0, by go_num, by omega, rfl⟩
  case round =>
    obtain ⟨k, d, rfl, hk, rfl⟩ := hrel
    by_cases hlt : k < q
    · have hlz : (k : Int) < (q : Int) := by omega
      obtain ⟨b, off, x, rfl, hx, hcell⟩ := hVr.place hlt
      have hxe : x = (a0 + (k : Int)) % (q : Int) := by
        rw [List.getElem?_map, List.getElem?_range hlt] at hx
        simpa using hx.symm
      subst hxe
      have hcq : ∀ d, (wl.drewN d).cell? ⟨b, off + k, none⟩ = some (.int .i64 ((a0 + (k : Int)) % (q : Int))) := fun _ => hcell
      have hw1 : IntKind.i64.wrap (a0 + (k : Int)) = a0 + (k : Int) := by rw [IntKind.wrap_i64]; omega
      have htm : Int.tmod (a0 + (k : Int)) (q : Int) = (a0 + (k : Int)) % (q : Int) := Int.tmod_eq_emod_of_nonneg (by omega)
      have hmod0 := Int.emod_nonneg (a0 + (k : Int)) (show (q : Int) ≠ 0 by omega)
      have hmod1 := Int.emod_lt_of_pos (a0 + (k : Int)) (show 0 < (q : Int) by omega)
      have hw2 : IntKind.i64.wrap ((a0 + (k : Int)) % (q : Int)) = (a0 + (k : Int)) % (q : Int) := by rw [IntKind.wrap_i64]; omega
      clear hx hcell
      go_wp2_with fail
      go_quiet (fail)
      go_wp2_with fail
      go_roundw
      case rel => exact ⟨k + 1, _, by go_num, by omega, rfl⟩
      case measure => simp [intOf]; omega
    · have hlz : ¬ (k : Int) < (q : Int) := by omega
      have hBq : Below w.heap.size w (wl.drewN d) := ⟨hb.os, hb.tape, hb.output, hb.size, hb.block⟩
      go_wp2
      go_ret
      exact ⟨rfl, hBq⟩

namespace planVisitsDone
open Go.ChangeShapes Go.WideShapes Go.ChangeAt
set_option maxRecDepth 100000 in
theorem lifted (os : Os) (started : os.Started) (H : Type) (enc : TypeId × Value → H) :
    ReturnsInHanded {} Try.checked os 3 .any (Rows.planVisitsSpec.pre6 enc Try.prog Try.f3 Rows.planVisitsRow.domain false) (Rows.planVisitsSpec.post enc Try.prog Try.f3 false true false false) := by
  refine returnsInHanded_of_change_sized (C := Try.checked) own started (by kernel_rfl) Try.func3
    (ChangeSpec.witness6 (enc := enc) (C := Try.checked) false ⟨#[], #[Value.int .i64 0, Value.int .i64 0], []⟩ 8 (by kernel_rfl) (by kernel_rfl) (by kernel_rfl) (by kernel_rfl)) ?_
  intro W base args ds gs before hval0 hW hcnd hsz0 _
  have hsz : (DataW.weightsEach Try.prog (Try.f3.params.toList ++ Rows.planVisitsSpec.plain.varTypes Try.prog) (ds ++ gs)).all (· ≤ reachBytes) = true := hsz0
  clear hsz0
  have hval : ∀ (j : Nat) t v, Try.f3.params[j]? = some t → args[j]? = some v → Value.okWide Try.prog W .any base t v := hval0
  have hW' := hW
  obtain ⟨p, q, hA0, hV, rfl, hfz, hnd⟩ := hW
  have hA : DataW.TrodAll enc Try.prog W 0 (fun _ => true) true Try.f3.params.toList args.toList ds p := hA0
  rw [Try.params3] at hA hval hsz
  obtain ⟨v0, vs0, d0, ds0, p0, q0, hargs, rfl, rfl, h0, r0⟩ := trodAll_cons hA
  obtain ⟨v1, vs1, d1, ds1, p1, q1, rfl, rfl, rfl, h1, r1⟩ := trodAll_cons r0
  obtain ⟨rfl, rfl, rfl⟩ := trodAll_nil r1
  obtain rfl : args = #[v0, v1] := by cases args; simp_all
  obtain ⟨rfl, rfl⟩ := trodVars_none hV
  obtain ⟨a0, rfl, rfl, rfl, w0⟩ := open_int Try.underlying3 (hval 0 3 v0 rfl rfl) h0
  obtain ⟨a1, rfl, rfl, rfl, w1⟩ := open_int Try.underlying3 (hval 1 3 v1 rfl rfl) h1
  clear hA0 hval0
  refine (planVisits_walk (w := W) a0 w0 a1 w1).mono fun e W' ⟨he, bel⟩ => ?_
  subst he
  exact ⟨_, rfl, _, _, _, [], _, [], hW', trodAll_mk1 (shut_bool Try.underlying4 _), (trodAll_cons_mk (shut_int Try.underlying3 w0) (trodAll_cons_mk (shut_int Try.underlying3 w1) trodAll_mk0)), rfl, bel.frame _, fun h => by cases h⟩

theorem over : Rows.planVisitsRow.holds Try.pinned (OpenSpec.ofChange Rows.planVisitsSpec) :=
  OpenClaim.holds_of_wide 3 Try.f3 rfl rfl rfl rfl rfl rfl rfl ⟨rfl, rfl, rfl, rfl, rfl⟩ rfl rfl rfl rfl rfl (by kernel_rfl) Try.func3 (by kernel_rfl)
    (of_decide_eq_true (by kernel_rfl)) (by unfold Func.isWrapper; first | (rw [if_pos (by decide +kernel)]; kernel_rfl) | (rw [if_neg (by decide +kernel)]; exact ⟨rfl, rfl⟩))
    (fun os started H enc _ => lifted os started H enc)

/-- The statement. -/
theorem proved : Rows.PlanVisitsSaid := over
end planVisitsDone
end Go.Proofs.Ytkofaobdpmbcaaa
