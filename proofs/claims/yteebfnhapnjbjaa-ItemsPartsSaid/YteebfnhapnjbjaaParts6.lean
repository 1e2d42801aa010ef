/- 'ItemsParts' returns true for every input: the row of this law, proved. No condition. -/
import Derived.Test.YteebfnhapnjbjaaPar6
import Derived.ProofKit
import Derived.OpenShut
import Derived.ShutString
import Derived.ChangeOld
import Derived.SizedLaws
namespace Go.Proofs.Yteebfnhapnjbjaa
open Go.RowKit
set_option linter.unusedVariables false
set_option linter.unusedSimpArgs false
theorem MY.wl {l : List It} (h : MY l) : WL l := fun x hx => by
  have hg := h.good x hx
  have hn := h.num x hx
  refine ⟨?_, wf_mk (by omega) (by omega)⟩
  simp [gOK] at hg
  unfold maxLen
  omega
theorem same_self (A A' : Option Addr) (n c n' c' : Nat) (l : List It) (w : World) (hl : IL w A n l) (hl' : IL w A' n' l) (hn : n ≤ 9223372036854775807) :
    Calls Try.prog 14 #[.slice A n c, .slice A' n' c'] w fun e w' => e = .returned (.bool true) ∧ Below w.heap.size w w' :=
  (same_b A A' n c n' c' l l w hl hl' hn).mono fun e w' ⟨h, q⟩ => ⟨by rw [h, decide_eq_true rfl], q⟩
set_option maxRecDepth 100000 in
set_option maxHeartbeats 6400000 in
theorem itemsParts_walk {w : World} (a0 : Option Addr) (len0 cap0 : Nat) (z0 : List It) (hr0 : IL w a0 len0 z0) (hw0 : WL z0) (hc0 : len0 ≤ cap0) (hm0 : cap0 ≤ 9223372036854775807) (hl0 : cap0 * 24 ≤ 140737488351232) (a1 : Option Addr) (len1 cap1 : Nat) (z1 : List It) (hr1 : IL w a1 len1 z1) (hw1 : WL z1) (hc1 : len1 ≤ cap1) (hm1 : cap1 ≤ 9223372036854775807) (hl1 : cap1 * 24 ≤ 140737488351232) :
    Calls Try.prog 5 #[.slice a0 len0 cap0, .slice a1 len1 cap1] w fun e w' => e = .returned (.bool true) ∧ Below w.heap.size w w' := by
  have hb0 := below_same' w
  cases h0 : mayL z0 with
  | false =>
    go_enter Try.func5, Try.ntmps5
    go_wp2_with fail
    refine (refmay_b a0 len0 cap0 z0 _ (hr0.below hb0) (by omega) hw0.long).mono ?_
    rintro e w1 ⟨rfl, hx1⟩
    have hb1 := hb0.trans (hx1.mono hb0.size)
    rw [h0]
    go_wp2_with fail
    refine (lives_any _).mono ?_
    rintro e w2 ⟨rfl, hx2⟩
    have hb2 := hb1.trans (hx2.mono hb1.size)
    go_wp2
    go_ret
    exact ⟨rfl, hb2⟩
  | true =>
    cases h1 : mayL z1 with
    | false =>
      go_enter Try.func5, Try.ntmps5
      go_wp2_with fail
      refine (refmay_b a0 len0 cap0 z0 _ (hr0.below hb0) (by omega) hw0.long).mono ?_
      rintro e w1 ⟨rfl, hx1⟩
      have hb1 := hb0.trans (hx1.mono hb0.size)
      rw [h0]
      go_wp2_with fail
      refine (refmay_b a1 len1 cap1 z1 _ (hr1.below hb1) (by omega) hw1.long).mono ?_
      rintro e w2 ⟨rfl, hx2⟩
      have hb2 := hb1.trans (hx2.mono hb1.size)
      rw [h1]
      go_wp2_with fail
      refine (lives_any _).mono ?_
      rintro e w3 ⟨rfl, hx3⟩
      have hb3 := hb2.trans (hx3.mono hb2.size)
      go_wp2
      go_ret
      exact ⟨rfl, hb3⟩
    | true =>
      have my0 := MY.of_ h0
      have my1 := MY.of_ h1
      have hk0 := my0.len
      have hk1 := my1.len
      rw [hr0.len] at hk0
      rw [hr1.len] at hk1
      obtain ⟨hpE, hpR⟩ := parts_ok my0 my1
      obtain ⟨NX, hNX⟩ : ∃ N, (meetL z0 z1).length = N := ⟨_, rfl⟩
      have hNX16 : NX ≤ 16 := by rw [← hNX]; exact (MY.meet my0 my1).len
      obtain ⟨NY, hNY⟩ : ∃ N, (restL z0 z1).length = N := ⟨_, rfl⟩
      have hNY16 : NY ≤ 16 := by rw [← hNY]; exact (MY.rest my0 my1).len
      obtain ⟨N0, hN0⟩ : ∃ N, z0.length = N := ⟨_, rfl⟩
      have hN016 : N0 ≤ 16 := by rw [← hN0]; exact my0.len
      by_cases hE0 : plusE z0 z1 = 0
      case neg =>
        obtain ⟨E, hE⟩ : ∃ E, plusE z0 z1 = E := ⟨_, rfl⟩
        rw [hE] at hE0
        have hEn : (E == 0) = false := beq_eq_false_iff_ne.2 hE0
        clear my0 my1 hE0
        go_enter Try.func5, Try.ntmps5
        go_wp2_with fail
        refine (refmay_b a0 len0 cap0 z0 _ (hr0.below hb0) (by omega) hw0.long).mono ?_
        rintro e w1 ⟨rfl, hx1⟩
        have hb1 := hb0.trans (hx1.mono hb0.size)
        rw [h0]
        go_wp2_with fail
        refine (refmay_b a1 len1 cap1 z1 _ (hr1.below hb1) (by omega) hw1.long).mono ?_
        rintro e w2 ⟨rfl, hx2⟩
        have hb2 := hb1.trans (hx2.mono hb1.size)
        rw [h1]
        go_wp2_with fail
        refine (meet_any a0 a1 len0 cap0 len1 cap1 z0 z1 _ (hr0.below hb2) (hr1.below hb2) (by omega) (by omega) hw0).mono ?_
        rintro e w3 ⟨vx, rfl, hox, hx3⟩
        have hb3 := hb2.trans (hx3.mono hb2.size)
        obtain ⟨Mx, mcx, hvx, hlcx, hcmx, hilx, _⟩ := hox.form
        rw [hNX] at hvx hilx hlcx
        subst hvx
        clear hox hcmx hlcx
        go_wp2_with fail
        refine (rest_any a0 a1 len0 cap0 len1 cap1 z0 z1 _ (hr0.below hb3) (hr1.below hb3) (by omega) (by omega) hw0).mono ?_
        rintro e w4 ⟨vy, rfl, hoy, hx4⟩
        have hb4 := hb3.trans (hx4.mono hb3.size)
        obtain ⟨My, mcy, hvy, hlcy, hcmy, hily, _⟩ := hoy.form
        rw [hNY] at hvy hily hlcy
        subst hvy
        clear hoy hcmy hlcy
        go_wp2_with fail
        refine (plus_any Mx My NX mcx NY mcy (meetL z0 z1) (restL z0 z1) _ (hilx.below hx4) hily (by omega) (by omega) hw0.meet hw0.rest).mono ?_
        rintro e w5 ⟨vp, rfl, hop, hx5⟩
        have hb5 := hb4.trans (hx5.mono hb4.size)
        rw [hpE]
        rw [hpR] at hop
        obtain ⟨Mp, mcp, hvp, hlcp, hcmp, hilp, _⟩ := hop.form
        rw [hN0] at hvp hilp hlcp
        subst hvp
        clear hop hcmp hlcp
        go_wp2_with fail
        refine (lives_any _).mono ?_
        rintro e w6 ⟨rfl, hx6⟩
        have hb6 := hb5.trans (hx6.mono hb5.size)
        have hilp1 := hilp.below hx6
        go_wp2_with fail
        refine (same_self Mp a0 N0 mcp len0 cap0 z0 _ hilp1 (hr0.below hb6) (by omega)).mono ?_
        rintro e w7 ⟨rfl, hx7⟩
        have hb7 := hb6.trans (hx7.mono hb6.size)
        go_wp2_with fail
        refine (plus_any a0 a1 len0 cap0 len1 cap1 z0 z1 _ (hr0.below hb7) (hr1.below hb7) (by omega) (by omega) hw0 hw1).mono ?_
        rintro e w8 ⟨vq, rfl, hoq, hx8⟩
        have hb8 := hb7.trans (hx8.mono hb7.size)
        rw [hE]
        go_wp2
        go_ret
        exact ⟨rfl, hb8⟩
      case pos =>
        have hE : plusE z0 z1 = 0 := hE0
        obtain ⟨hmy, _, htq⟩ := plus_ok my0 my1 hE
        obtain ⟨hmE, hmR, hca, hcb⟩ := minus_back my0 my1 hE
        obtain ⟨NQ, hNQ⟩ : ∃ N, (plusR z0 z1).length = N := ⟨_, rfl⟩
        have hNQ16 : NQ ≤ 16 := by rw [← hNQ]; exact hmy.len
        have hwp : WL (plusR z0 z1) := hmy.wl
        have hteq : (totalL (plusR z0 z1) == wrap64 (totalL z0 + totalL z1)) = true := beq_iff_eq.2 htq
        clear hmy htq my0 my1 hE0
        go_enter Try.func5, Try.ntmps5
        go_wp2_with fail
        refine (refmay_b a0 len0 cap0 z0 _ (hr0.below hb0) (by omega) hw0.long).mono ?_
        rintro e w1 ⟨rfl, hx1⟩
        have hb1 := hb0.trans (hx1.mono hb0.size)
        rw [h0]
        go_wp2_with fail
        refine (refmay_b a1 len1 cap1 z1 _ (hr1.below hb1) (by omega) hw1.long).mono ?_
        rintro e w2 ⟨rfl, hx2⟩
        have hb2 := hb1.trans (hx2.mono hb1.size)
        rw [h1]
        go_wp2_with fail
        refine (meet_any a0 a1 len0 cap0 len1 cap1 z0 z1 _ (hr0.below hb2) (hr1.below hb2) (by omega) (by omega) hw0).mono ?_
        rintro e w3 ⟨vx, rfl, hox, hx3⟩
        have hb3 := hb2.trans (hx3.mono hb2.size)
        obtain ⟨Mx, mcx, hvx, hlcx, hcmx, hilx, _⟩ := hox.form
        rw [hNX] at hvx hilx hlcx
        subst hvx
        clear hox hcmx hlcx
        go_wp2_with fail
        refine (rest_any a0 a1 len0 cap0 len1 cap1 z0 z1 _ (hr0.below hb3) (hr1.below hb3) (by omega) (by omega) hw0).mono ?_
        rintro e w4 ⟨vy, rfl, hoy, hx4⟩
        have hb4 := hb3.trans (hx4.mono hb3.size)
        obtain ⟨My, mcy, hvy, hlcy, hcmy, hily, _⟩ := hoy.form
        rw [hNY] at hvy hily hlcy
        subst hvy
        clear hoy hcmy hlcy
        go_wp2_with fail
        refine (plus_any Mx My NX mcx NY mcy (meetL z0 z1) (restL z0 z1) _ (hilx.below hx4) hily (by omega) (by omega) hw0.meet hw0.rest).mono ?_
        rintro e w5 ⟨vp, rfl, hop, hx5⟩
        have hb5 := hb4.trans (hx5.mono hb4.size)
        rw [hpE]
        rw [hpR] at hop
        obtain ⟨Mp, mcp, hvp, hlcp, hcmp, hilp, _⟩ := hop.form
        rw [hN0] at hvp hilp hlcp
        subst hvp
        clear hop hcmp hlcp
        go_wp2_with fail
        refine (lives_any _).mono ?_
        rintro e w6 ⟨rfl, hx6⟩
        have hb6 := hb5.trans (hx6.mono hb5.size)
        have hilp1 := hilp.below hx6
        go_wp2_with fail
        refine (same_self Mp a0 N0 mcp len0 cap0 z0 _ hilp1 (hr0.below hb6) (by omega)).mono ?_
        rintro e w7 ⟨rfl, hx7⟩
        have hb7 := hb6.trans (hx7.mono hb6.size)
        go_wp2_with fail
        refine (plus_any a0 a1 len0 cap0 len1 cap1 z0 z1 _ (hr0.below hb7) (hr1.below hb7) (by omega) (by omega) hw0 hw1).mono ?_
        rintro e w8 ⟨vq, rfl, hoq, hx8⟩
        have hb8 := hb7.trans (hx8.mono hb7.size)
        rw [hE]
        obtain ⟨Mq, mcq, hvq, hlcq, hcmq, hilq, _⟩ := hoq.form
        rw [hNQ] at hvq hilq hlcq
        subst hvq
        clear hoq hcmq hlcq
        go_wp2_with fail
        refine (minus_any Mq a1 NQ mcq len1 cap1 (plusR z0 z1) z1 _ hilq (hr1.below hb8) (by omega) (by omega) hwp hw1).mono ?_
        rintro e w9 ⟨vm, rfl, hom, hx9⟩
        have hb9 := hb8.trans (hx9.mono hb8.size)
        rw [hmE]
        rw [hmR] at hom
        have hilq1 := hilq.below hx9
        obtain ⟨Mm, mcm, hvm, hlcm, hcmm, hilm, _⟩ := hom.form
        rw [hN0] at hvm hilm hlcm
        subst hvm
        clear hom hcmm hlcm
        go_wp2_with fail
        refine (same_self Mm a0 N0 mcm len0 cap0 z0 _ hilm (hr0.below hb9) (by omega)).mono ?_
        rintro e w10 ⟨rfl, hx10⟩
        have hb10 := hb9.trans (hx10.mono hb9.size)
        have hilq2 := hilq1.below hx10
        go_wp2_with fail
        refine (covers_any Mq a0 NQ mcq len0 cap0 (plusR z0 z1) z0 _ hilq2 (hr0.below hb10) (by omega) (by omega) hw0).mono ?_
        rintro e w11 ⟨rfl, hx11⟩
        have hb11 := hb10.trans (hx11.mono hb10.size)
        rw [hca]
        have hilq3 := hilq2.below hx11
        go_wp2_with fail
        refine (covers_any Mq a1 NQ mcq len1 cap1 (plusR z0 z1) z1 _ hilq3 (hr1.below hb11) (by omega) (by omega) hw1).mono ?_
        rintro e w12 ⟨rfl, hx12⟩
        have hb12 := hb11.trans (hx12.mono hb11.size)
        rw [hcb]
        have hilq4 := hilq3.below hx12
        go_wp2_with fail
        refine (total_any Mq NQ mcq (plusR z0 z1) _ hilq4 (by omega)).mono ?_
        rintro e w13 ⟨rfl, hx13⟩
        have hb13 := hb12.trans (hx13.mono hb12.size)
        go_wp2_with fail
        refine (total_any a0 len0 cap0 z0 _ (hr0.below hb13) (by omega)).mono ?_
        rintro e w14 ⟨rfl, hx14⟩
        have hb14 := hb13.trans (hx14.mono hb13.size)
        go_wp2_with fail
        refine (total_any a1 len1 cap1 z1 _ (hr1.below hb14) (by omega)).mono ?_
        rintro e w15 ⟨rfl, hx15⟩
        have hb15 := hb14.trans (hx15.mono hb14.size)
        go_wp2
        go_ret
        exact ⟨by first | rfl | exact congrArg (fun b => Ending.returned (Value.bool b)) hteq, hb15⟩

namespace itemsPartsDone
open Go.ChangeShapes Go.WideShapes Go.ChangeAt
set_option maxRecDepth 100000 in
theorem lifted (os : Os) (started : os.Started) (H : Type) (enc : TypeId × Value → H) :
    ReturnsInHanded {} Try.checked os 5 .any (Rows.itemsPartsSpec.pre6 enc Try.prog Try.f5 Rows.itemsPartsRow.domain false) (Rows.itemsPartsSpec.post enc Try.prog Try.f5 false true false false) := by
  refine returnsInHanded_of_change_sized (C := Try.checked) own started (by kernel_rfl) Try.func5
    (ChangeSpec.witness6 (enc := enc) (C := Try.checked) false ⟨#[], #[Value.slice none 0 0, Value.slice none 0 0], []⟩ 8 (by kernel_rfl) (by kernel_rfl) (by kernel_rfl) (by kernel_rfl)) ?_
  intro W base args ds gs before hval0 hW hcnd hsz0 _
  have hsz : (DataW.weightsEach Try.prog (Try.f5.params.toList ++ Rows.itemsPartsSpec.plain.varTypes Try.prog) (ds ++ gs)).all (· ≤ reachBytes) = true := hsz0
  clear hsz0
  have hval : ∀ (j : Nat) t v, Try.f5.params[j]? = some t → args[j]? = some v → Value.okWide Try.prog W .any base t v := hval0
  have hW' := hW
  obtain ⟨p, q, hA0, hV, rfl, hfz, hnd⟩ := hW
  have hA : DataW.TrodAll enc Try.prog W 0 (fun _ => true) true Try.f5.params.toList args.toList ds p := hA0
  rw [Try.params5] at hA hval hsz
  obtain ⟨v0, vs0, d0, ds0, p0, q0, hargs, rfl, rfl, h0, r0⟩ := trodAll_cons hA
  obtain ⟨v1, vs1, d1, ds1, p1, q1, rfl, rfl, rfl, h1, r1⟩ := trodAll_cons r0
  obtain ⟨rfl, rfl, rfl⟩ := trodAll_nil r1
  obtain rfl : args = #[v0, v1] := by cases args; simp_all
  obtain ⟨rfl, rfl⟩ := trodVars_none hV
  obtain ⟨a0, len0, cap0, rfl⟩ := okWide_slice Try.underlying22 (hval 0 22 v0 rfl rfl)
  have k0 := h0
  have lt0 : ∀ x ∈ p0, x.block < W.heap.size := by obtain ⟨m, hm⟩ := k0; exact DataW.trod_lt m _ _ _ hm
  obtain ⟨z0, hr0, hw0, hc0, hm0, hd0⟩ := items_open h0
  have hl0 : cap0 * 24 ≤ 140737488351232 := by
    rcases hd0 with ⟨_, h⟩ | ⟨es, sp, rfl, h⟩
    · omega
    · have := sized_slice hsz (j := 0) (t := 22) (e := 28) rfl rfl Try.underlying22
      rw [bytes_item] at this
      simp only [reachBytes] at this
      omega
  obtain ⟨a1, len1, cap1, rfl⟩ := okWide_slice Try.underlying22 (hval 1 22 v1 rfl rfl)
  have k1 := h1
  have lt1 : ∀ x ∈ p1, x.block < W.heap.size := by obtain ⟨m, hm⟩ := k1; exact DataW.trod_lt m _ _ _ hm
  obtain ⟨z1, hr1, hw1, hc1, hm1, hd1⟩ := items_open h1
  have hl1 : cap1 * 24 ≤ 140737488351232 := by
    rcases hd1 with ⟨_, h⟩ | ⟨es, sp, rfl, h⟩
    · omega
    · have := sized_slice hsz (j := 1) (t := 22) (e := 28) rfl rfl Try.underlying22
      rw [bytes_item] at this
      simp only [reachBytes] at this
      omega
  clear hA0 hval0
  refine (itemsParts_walk (w := W) a0 len0 cap0 z0 hr0 hw0 hc0 hm0 hl0 a1 len1 cap1 z1 hr1 hw1 hc1 hm1 hl1).mono fun e W' ⟨he, bel⟩ => ?_
  subst he
  exact ⟨_, rfl, _, _, _, [], _, [], hW', trodAll_mk1 (shut_bool Try.underlying4 _), (trodAll_cons_mk (Below.trod laidOut (by kernel_rfl) (of_decide_eq_true (by kernel_rfl)) k0 bel lt0) (trodAll_cons_mk (Below.trod laidOut (by kernel_rfl) (of_decide_eq_true (by kernel_rfl)) k1 bel lt1) trodAll_mk0)), rfl, bel.frame _, fun h => by cases h⟩

theorem over : Rows.itemsPartsRow.holds Try.pinned (OpenSpec.ofChange Rows.itemsPartsSpec) :=
  OpenClaim.holds_of_wide 5 Try.f5 rfl rfl rfl rfl rfl rfl rfl ⟨rfl, rfl, rfl, rfl, rfl⟩ rfl rfl rfl rfl rfl (by kernel_rfl) Try.func5 (by kernel_rfl)
    (of_decide_eq_true (by kernel_rfl)) (by unfold Func.isWrapper; first | (rw [if_pos (by decide +kernel)]; kernel_rfl) | (rw [if_neg (by decide +kernel)]; exact ⟨rfl, rfl⟩))
    (fun os started H enc _ => lifted os started H enc)

/-- The statement. -/
theorem proved : Rows.ItemsPartsSaid := over
end itemsPartsDone
end Go.Proofs.Yteebfnhapnjbjaa
