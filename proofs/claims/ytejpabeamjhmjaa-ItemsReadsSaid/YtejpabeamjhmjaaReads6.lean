/- 'ItemsReads' returns true for every input: the row of this law, proved. No condition. -/
import Derived.Test.YtejpabeamjhmjaaCodeI
import Derived.ProofKit
import Derived.OpenShut
import Derived.ShutString
import Derived.ChangeOld
import Derived.SizedLaws
namespace Go.Proofs.Ytejpabeamjhmjaa
open Go.RowKit
set_option linter.unusedVariables false
set_option linter.unusedSimpArgs false
set_option maxRecDepth 100000 in
set_option maxHeartbeats 6400000 in
theorem itemsReads_walk {w : World} (a0 : Option Addr) (len0 cap0 : Nat) (z0 : List UInt8) (hr0 : RB w a0 len0 z0) (hc0 : len0 ≤ cap0) (hm0 : cap0 ≤ 9223372036854775807) (hl0 : cap0 ≤ 140737488351232) :
    Calls Try.prog 5 #[.slice a0 len0 cap0] w fun e w' => e = .returned (.bool true) ∧ Below w.heap.size w w' := by
  have hb0 := below_same' w
  have hln := hr0.1
  subst hln
  have ho0 : OB w.heap.size (w.alloc (.cells #[] 5)) (.slice (some ⟨w.heap.size, 0, none⟩) 0 0) [] := OB.built w.heap.size w [] (Nat.le_refl _) (by simp [maxLen])
  have hba := (Below.refl w.heap.size w).alloc (Nat.le_refl _) (.cells #[] 5)
  have hD : decL z0 = none ∨ ∃ l, decL z0 = some l ∧ mayL l = true ∧ z0 = encL l := by
    cases h : decL z0 with
    | none => exact .inl rfl
    | some l => exact .inr ⟨l, rfl, decL_some h⟩
  go_enter Try.func5, Try.ntmps5
  go_wp2_with (at_builtin; refine wpApp rfl (.tmp 10) (.tmp 11) rfl w.heap.size _ [] rfl ho0 a0 z0.length cap0 z0 rfl (hr0.alloc _) (by simp; omega) (by simp) ?_; intro v1 w1 hg1; have hb1 := hba.trans (hg1.below ho0 (by simp)); have ho1 := hg1.own; rw [List.nil_append] at ho1; obtain ⟨A1, c1, hv1, hl1, hm1, hr1, _⟩ := ho1.form; clear hg1; subst hv1)
  refine (idecode_any A1 z0.length c1 z0 w1 hr1 (by omega)).mono ?_
  rintro e w2 ⟨hx2, h2⟩
  have hb2 := hb1.trans (hx2.mono hb1.size)
  have hr12 := hr1.below hx2
  rcases hD with hD | ⟨l, hD, hml, hzl⟩
  · rw [hD] at h2
    dsimp only at h2
    subst h2
    go_wp2_with fail
    refine (ridecode_any a0 z0.length cap0 z0 _ (hr0.below hb2) hc0 hm0).mono ?_
    rintro e w3 ⟨hx3, h3⟩
    rw [hD] at h3
    dsimp only at h3
    subst h3
    have hb3 := hb2.trans (hx3.mono hb2.size)
    go_wp2_with fail
    refine (lives_any _).mono ?_
    rintro e w4 ⟨rfl, hx4⟩
    have hb4 := hb3.trans (hx4.mono hb3.size)
    go_wp2_with fail
    refine (same_b none none 0 0 0 0 [] [] _ (IL.nil _ _) (IL.nil _ _) (by omega)).mono ?_
    rintro e w5 ⟨rfl, hx5⟩
    have hb5 := hb4.trans (hx5.mono hb4.size)
    have hr15 := ((hr12.below hx3).below hx4).below hx5
    have hs1 := run_str w5 A1 z0.length c1 z0 hr15
    have hs2 := run_str w5 a0 z0.length cap0 z0 (hr0.below hb5)
    go_wp2_with fail
    refine (iencode_any none 0 0 [] _ (IL.nil _ _) (by omega)).mono ?_
    rintro e w6 ⟨hx6, h6⟩
    rw [show mayL [] = true from rfl] at h6
    obtain ⟨A6, c6, rfl, hl6, hm6, hr6, _⟩ := h6
    have hb6 := hb5.trans (hx6.mono hb5.size)
    go_wp2
    go_ret
    exact ⟨rfl, hb6⟩
  · replace hzl := Lib.hid hzl.symm
    rw [hD] at h2
    obtain ⟨v2, rfl, hO2⟩ := h2
    replace hD := Lib.hid hD
    go_wp2_with fail
    refine (ridecode_any a0 z0.length cap0 z0 _ (hr0.below hb2) hc0 hm0).mono ?_
    rintro e w3 ⟨hx3, h3⟩
    rw [hD.out] at h3
    obtain ⟨v3, rfl, hO3⟩ := h3
    have hb3 := hb2.trans (hx3.mono hb2.size)
    obtain ⟨N, hN⟩ : ∃ N, l.length = N := ⟨_, rfl⟩
    have hN16 : N ≤ 16 := by rw [← hN]; exact (mayL_okI hml).1
    obtain ⟨A2, c2, rfl, _, _, hi2, _⟩ := hO2.form
    obtain ⟨A3, c3, rfl, _, _, hi3, _⟩ := hO3.form
    have hsame := fun (A2 A3 : Option Addr) (c2 c3 : Nat) W h h' => same_b A2 A3 N c2 N c3 l l W h h' (by omega)
    rw [show decide (l = l) = true from decide_eq_true rfl] at hsame
    rw [hN] at hi2 hi3
    rw [hN]
    clear hO2 hO3
    go_wp2_with fail
    refine (lives_any _).mono ?_
    rintro e w4 ⟨rfl, hx4⟩
    have hb4 := hb3.trans (hx4.mono hb3.size)
    go_wp2_with fail
    refine (hsame A2 A3 c2 c3 _ ((hi2.below hx3).below hx4) (hi3.below hx4)).mono ?_
    rintro e w5 ⟨rfl, hx5⟩
    have hb5 := hb4.trans (hx5.mono hb4.size)
    have hr15 := ((hr12.below hx3).below hx4).below hx5
    have hs1 := run_str w5 A1 z0.length c1 z0 hr15
    have hs2 := run_str w5 a0 z0.length cap0 z0 (hr0.below hb5)
    go_wp2_with fail
    refine (iencode_any A2 N c2 l _ (((hi2.below hx3).below hx4).below hx5) (by omega)).mono ?_
    rintro e w6 ⟨hx6, h6⟩
    rw [hml] at h6
    rw [hzl.out] at h6
    obtain ⟨A6, c6, rfl, hl6, hm6, hr6, _⟩ := h6
    have hb6 := hb5.trans (hx6.mono hb5.size)
    have hs3 := run_str w6 A6 z0.length c6 z0 hr6
    have hs4 := run_str w6 a0 z0.length cap0 z0 (hr0.below hb6)
    go_wp2
    go_ret
    exact ⟨rfl, hb6⟩

namespace itemsReadsDone
open Go.ChangeShapes Go.WideShapes Go.ChangeAt
set_option maxRecDepth 100000 in
theorem lifted (os : Os) (started : os.Started) (H : Type) (enc : TypeId × Value → H) :
    ReturnsInHanded {} Try.checked os 5 .any (Rows.itemsReadsSpec.pre6 enc Try.prog Try.f5 Rows.itemsReadsRow.domain false) (Rows.itemsReadsSpec.post enc Try.prog Try.f5 false true false false) := by
  refine returnsInHanded_of_change_sized (C := Try.checked) own started (by kernel_rfl) Try.func5
    (ChangeSpec.witness6 (enc := enc) (C := Try.checked) false ⟨#[], #[Value.slice none 0 0], []⟩ 8 (by kernel_rfl) (by kernel_rfl) (by kernel_rfl) (by kernel_rfl)) ?_
  intro W base args ds gs before hval0 hW hcnd hsz0 _
  have hsz : (DataW.weightsEach Try.prog (Try.f5.params.toList ++ Rows.itemsReadsSpec.plain.varTypes Try.prog) (ds ++ gs)).all (· ≤ reachBytes) = true := hsz0
  clear hsz0
  have hval : ∀ (j : Nat) t v, Try.f5.params[j]? = some t → args[j]? = some v → Value.okWide Try.prog W .any base t v := hval0
  have hW' := hW
  obtain ⟨p, q, hA0, hV, rfl, hfz, hnd⟩ := hW
  have hA : DataW.TrodAll enc Try.prog W 0 (fun _ => true) true Try.f5.params.toList args.toList ds p := hA0
  rw [Try.params5] at hA hval hsz
  obtain ⟨v0, vs0, d0, ds0, p0, q0, hargs, rfl, rfl, h0, r0⟩ := trodAll_cons hA
  obtain ⟨rfl, rfl, rfl⟩ := trodAll_nil r0
  obtain rfl : args = #[v0] := by cases args; simp_all
  obtain ⟨rfl, rfl⟩ := trodVars_none hV
  obtain ⟨a0, len0, cap0, rfl⟩ := okWide_slice Try.underlying35 (hval 0 35 v0 rfl rfl)
  have k0 := h0
  have lt0 : ∀ x ∈ p0, x.block < W.heap.size := by obtain ⟨m, hm⟩ := k0; exact DataW.trod_lt m _ _ _ hm
  obtain ⟨z0, hr0, hc0, hm0, hd0⟩ := bytes_open h0
  have hl0 : cap0 ≤ 140737488351232 := by
    rcases hd0 with ⟨_, h⟩ | ⟨es, sp, rfl, h⟩
    · omega
    · have := sized_slice hsz (j := 0) (t := 35) (e := 5) rfl rfl Try.underlying35
      rw [bytes_u8] at this
      simp only [reachBytes] at this
      omega
  clear hA0 hval0
  refine (itemsReads_walk (w := W) a0 len0 cap0 z0 hr0 hc0 hm0 hl0).mono fun e W' ⟨he, bel⟩ => ?_
  subst he
  exact ⟨_, rfl, _, _, _, [], _, [], hW', trodAll_mk1 (shut_bool Try.underlying4 _), (trodAll_cons_mk (Below.trod laidOut (by kernel_rfl) (of_decide_eq_true (by kernel_rfl)) k0 bel lt0) trodAll_mk0), rfl, bel.frame _, fun h => by cases h⟩

theorem over : Rows.itemsReadsRow.holds Try.pinned (OpenSpec.ofChange Rows.itemsReadsSpec) :=
  OpenClaim.holds_of_wide 5 Try.f5 rfl rfl rfl rfl rfl rfl rfl ⟨rfl, rfl, rfl, rfl, rfl⟩ rfl rfl rfl rfl rfl (by kernel_rfl) Try.func5 (by kernel_rfl)
    (of_decide_eq_true (by kernel_rfl)) (by unfold Func.isWrapper; first | (rw [if_pos (by decide +kernel)]; kernel_rfl) | (rw [if_neg (by decide +kernel)]; exact ⟨rfl, rfl⟩))
    (fun os started H enc _ => lifted os started H enc)

/-- The statement. -/
theorem proved : Rows.ItemsReadsSaid := over
end itemsReadsDone
end Go.Proofs.Ytejpabeamjhmjaa
