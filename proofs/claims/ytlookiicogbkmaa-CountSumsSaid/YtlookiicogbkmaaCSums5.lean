/- 'CountSums' returns true for every input: the row of this law, proved. No condition. -/
import Derived.Test.YtlookiicogbkmaaLaw5
import Derived.Test.YtlookiicogbkmaaApp5
import Derived.ProofKit
import Derived.OpenShut
import Derived.ShutString
import Derived.ChangeOld
import Derived.SizedLaws
namespace Go.Proofs.Ytlookiicogbkmaa
open Go.RowKit
set_option linter.unusedVariables false
set_option linter.unusedSimpArgs false
set_option maxRecDepth 100000 in
set_option maxHeartbeats 1600000 in
theorem countSums_walk {w : World} (A : Option Addr) (n c : Nat) (l : List Int) (hr : IR w A n l) (hc : n ≤ c) (hm : c ≤ 9223372036854775807) :
    Calls Try.prog 5 #[.slice A n c] w fun e w' => e = .returned (.bool true) ∧ Below w.heap.size w w' := by
  by_cases hn : 2000 < n
  · have hz : (2000 : Int) < (n : Int) := by omega
    go_enter Try.func5, Try.ntmps5
    go_wp2_with (go_at_call 12; refine (lives_any _).mono ?_; rintro e w1 ⟨rfl, hb1⟩)
    go_ret
    exact ⟨rfl, hb1⟩
  · have hz : ¬ (2000 : Int) < (n : Int) := by omega
    have hb0 := (Below.refl w.heap.size w).alloc (Nat.le_refl _) (.cells #[] 3)
    have ho0 : OI w.heap.size (w.alloc (.cells #[] 3)) (.slice (some ⟨w.heap.size, 0, none⟩) 0 0) [] := OI.built w.heap.size w [] (Nat.le_refl _) (by simp [maxLen])
    go_enter Try.func5, Try.ntmps5
    go_wp2_with (at_builtin; refine wpAppI rfl (.tmp 12) (.tmp 13) rfl w.heap.size _ [] rfl ho0 A n c l rfl (hr.alloc _) (by simp; omega) (by simp) ?_; intro v2 w2 ho2 hk2 hv2)
    have hb2 : Below w.heap.size w w2 := hb0.trans (hk2.below (by simp) fun k hk e => by have e' : some w.heap.size = some k := e; injection e' with e'; omega)
    obtain ⟨A2, c2, rfl, hl2, hm2, hr2, _⟩ := ho2.form
    rw [List.nil_append] at hl2 hr2 ho2 ⊢
    have hln := hr.len
    rw [hln] at hl2 hr2 ⊢
    have hr02 := hr.below hb2
    go_wp2_with fail
    refine (sum_any A2 n c2 l _ hr2 (by omega)).mono ?_
    rintro e w3 ⟨rfl, rfl⟩
    have hform : ∃ s e, sumVal l = .tuple #[.int .i64 s, .int .i64 e] := by
      unfold sumVal
      split
      · split
        · exact ⟨_, _, rfl⟩
        · exact ⟨_, _, rfl⟩
      · exact ⟨_, _, rfl⟩
    obtain ⟨s, e, hse⟩ := hform
    rw [hse]
    go_wp2_with fail
    refine (refsum_any A n c l _ hr02 (by omega)).mono ?_
    rintro e w3 ⟨rfl, rfl⟩
    rw [hse]
    go_wp2_with fail
    refine (lives_any _).mono ?_
    rintro e w4 ⟨rfl, hb4⟩
    have hb04 := hb2.trans (hb4.mono hb2.size)
    go_wp2
    go_ret
    exact ⟨by simp, hb04⟩

namespace countSumsDone
open Go.ChangeShapes Go.WideShapes Go.ChangeAt
set_option maxRecDepth 100000 in
theorem lifted (os : Os) (started : os.Started) (H : Type) (enc : TypeId × Value → H) :
    ReturnsInHanded {} Try.checked os 5 .any (Rows.countSumsSpec.pre6 enc Try.prog Try.f5 Rows.countSumsRow.domain false) (Rows.countSumsSpec.post enc Try.prog Try.f5 false true false false) := by
  refine returnsInHanded_of_change_sized (C := Try.checked) own started (by kernel_rfl) Try.func5
    (ChangeSpec.witness6 (enc := enc) (C := Try.checked) false ⟨#[], #[Value.slice none 0 0], []⟩ 8 (by kernel_rfl) (by kernel_rfl) (by kernel_rfl) (by kernel_rfl)) ?_
  intro W base args ds gs before hval0 hW hcnd hsz0 _
  have hsz : (DataW.weightsEach Try.prog (Try.f5.params.toList ++ Rows.countSumsSpec.plain.varTypes Try.prog) (ds ++ gs)).all (· ≤ reachBytes) = true := hsz0
  clear hsz0
  have hval : ∀ (j : Nat) t v, Try.f5.params[j]? = some t → args[j]? = some v → Value.okWide Try.prog W .any base t v := hval0
  have hW' := hW
  obtain ⟨p, q, hA0, hV, rfl, hfz, hnd⟩ := hW
  have hA : DataW.TrodAll enc Try.prog W 0 (fun _ => true) true Try.f5.params.toList args.toList ds p := hA0
  rw [Try.params5] at hA hval hsz
  obtain ⟨v0, vs0, d0, ds0, p0, q0, hargs, rfl, rfl, h0, r0⟩ := trodAll_cons hA
  obtain ⟨rfl, rfl, rfl⟩ := trodAll_nil r0
  obtain rfl : args = #[v0] := by cases args; simp_all
  obtain ⟨rfl, rfl⟩ := trodVars_none hV
  obtain ⟨a0, len0, cap0, rfl⟩ := okWide_slice Try.underlying31 (hval 0 31 v0 rfl rfl)
  have k0 := h0
  have lt0 : ∀ x ∈ p0, x.block < W.heap.size := by obtain ⟨m, hm⟩ := k0; exact DataW.trod_lt m _ _ _ hm
  obtain ⟨f0, ho0, hc0, hm0⟩ := ints_open h0
  clear hA0 hval0
  refine (countSums_walk (w := W) a0 len0 cap0 f0 ho0 hc0 hm0).mono fun e W' ⟨he, bel⟩ => ?_
  subst he
  exact ⟨_, rfl, _, _, _, [], _, [], hW', trodAll_mk1 (shut_bool Try.underlying4 _), (trodAll_cons_mk (Below.trod laidOut (by kernel_rfl) (of_decide_eq_true (by kernel_rfl)) k0 bel lt0) trodAll_mk0), rfl, bel.frame _, fun h => by cases h⟩

theorem over : Rows.countSumsRow.holds Try.pinned (OpenSpec.ofChange Rows.countSumsSpec) :=
  OpenClaim.holds_of_wide 5 Try.f5 rfl rfl rfl rfl rfl rfl rfl ⟨rfl, rfl, rfl, rfl, rfl⟩ rfl rfl rfl rfl rfl (by kernel_rfl) Try.func5 (by kernel_rfl)
    (of_decide_eq_true (by kernel_rfl)) (by unfold Func.isWrapper; first | (rw [if_pos (by decide +kernel)]; kernel_rfl) | (rw [if_neg (by decide +kernel)]; exact ⟨rfl, rfl⟩))
    (fun os started H enc _ => lifted os started H enc)

/-- The statement. -/
theorem proved : Rows.CountSumsSaid := over
end countSumsDone
end Go.Proofs.Ytlookiicogbkmaa
