/- 'PlanFewest' returns true for every input: the row of this law, proved. No condition. -/
import Derived.Test.YtkofaobdpmbcaaaPlH
import Derived.Test.YtkofaobdpmbcaaaPlL
import Derived.Test.YtkofaobdpmbcaaaPlO
import Derived.Test.YtkofaobdpmbcaaaPlR
import Derived.ProofKit
import Derived.OpenShut
import Derived.ShutString
import Derived.ChangeOld
import Derived.SizedLaws
namespace Go.Proofs.Ytkofaobdpmbcaaa
open Go.RowKit
set_option linter.unusedVariables false
set_option linter.unusedSimpArgs false
set_option maxRecDepth 100000 in
set_option maxHeartbeats 6400000 in
theorem planFewest_walk {w : World} (a0 : Option Addr) (len0 cap0 : Nat) (z0 : List It) (hr0 : IL w a0 len0 z0) (hw0 : WL z0) (hc0 : len0 ≤ cap0) (hm0 : cap0 ≤ 9223372036854775807) (hl0 : cap0 * 24 ≤ 140737488351232) (a1 : Option Addr) (len1 cap1 : Nat) (f1 : List (List It)) (ho1 : RL w.heap.size w a1 len1 f1) (hc1 : len1 ≤ cap1) (hm1 : cap1 ≤ 9223372036854775807) :
    Calls Try.prog 5 #[.slice a0 len0 cap0, .slice a1 len1 cap1] w fun e w' => e = .returned (.bool true) ∧ Below w.heap.size w w' := by
  have hlen := ho1.1
  have hz0len := hr0.len
  have key0 := psmall_any a0 len0 cap0 z0 a1 len1 cap1 f1 _ w hr0 ho1 (by omega) (by omega)
  cases hsm : smallB z0 f1 with
  | false =>
    rw [hsm] at key0
    go_enter Try.func5, Try.ntmps5
    go_wp2_with fail
    refine key0.mono ?_
    rintro e w' ⟨rfl, rfl⟩
    go_wp2_with fail
    refine (plives_any _).mono ?_
    rintro e w1 ⟨rfl, hx1⟩
    go_wp2
    go_ret
    exact ⟨rfl, hx1⟩
  | true =>
    rw [hsm] at key0
    go_enter Try.func5, Try.ntmps5
    go_wp2_with fail
    refine key0.mono ?_
    rintro e w' ⟨rfl, hww⟩
    subst w'
    clear key0
    go_wp2_with fail
    refine (pfewest_any a0 len0 cap0 z0 a1 len1 cap1 f1 _ w hr0 hw0 ho1 (Nat.le_refl _) (by omega) (by omega)).mono ?_
    rintro e w1 ⟨v1, rfl, hO1, hx1⟩
    go_wp2_with fail
    refine (plives_any _).mono ?_
    rintro e w2 ⟨rfl, hx2⟩
    have hb2 := hx1.trans (hx2.mono hx1.size)
    have hO2 := hO1.below hx2
    clear hO1 hx1 hx2
    go_wp2_with fail
    refine (prmay_any a0 len0 cap0 z0 a1 len1 cap1 f1 _ w2 (hr0.below hb2) hw0 (ho1.below hb2) (by omega) (by omega)).mono ?_
    rintro e w3 ⟨rfl, hx3⟩
    have hb3 := hb2.trans (hx3.mono hb2.size)
    have hO3 := hO2.below hx3
    clear hO2 hx3
    cases hms : mayS z0 f1 with
    | false =>
      rw [fewest_no (.inl hms)] at hO3
      obtain ⟨AF, cF, rfl, _⟩ := hO3.form
      rw [natI_len]
      dsimp only [List.length_nil]
      go_wp2
      go_ret
      exact ⟨rfl, hb3⟩
    | true =>
      obtain ⟨h8, hmp⟩ := mayS_facts hms
      obtain ⟨hmy, hmys⟩ := mayP_my hmp
      by_cases hz : len0 = 0
      · subst hz
        rw [fewest_no (.inr hz0len)] at hO3
        obtain ⟨AF, cF, rfl, _⟩ := hO3.form
        rw [natI_len]
        dsimp only [List.length_nil]
        go_wp2_with fail
        refine (prfewest0 a0 cap0 a1 len1 cap1 w3).mono ?_
        rintro e w4 ⟨rfl, hx4⟩
        have hb4 := hb3.trans (hx4.mono hb3.size)
        go_wp2
        go_loopw [7] (fun i wr => i = .int .i64 0 ∧ wr = w4) (fun i _ => 0)
        case atStart => exact ⟨by go_num, rfl⟩
        case round =>
          obtain ⟨rfl, rfl⟩ := hrel
          go_wp2
          go_ret
          exact ⟨rfl, hb4⟩
      · go_wp2_with fail
        refine (prfewest_any a0 len0 cap0 z0 a1 len1 cap1 f1 _ w3 (hr0.below hb3) (ho1.below hb3) hb3.size hmy hmys (by omega) (by omega)).mono ?_
        rintro e w4 ⟨v4, rfl, hO4, hx4⟩
        have hfe := fewest_eq hms (by omega)
        rw [hlen] at hfe
        rw [hfe] at hO4
        have hb4 := hb3.trans (hx4.mono hb3.size)
        have hO5 := hO3.below hx4
        clear hO3 hfe
        have hq8 := fewest_len (l := z0) h8
        rw [← natI_len] at hq8
        obtain ⟨A5, c5, rfl, _, _, h5, _⟩ := hO5.form
        obtain ⟨A4, c4, rfl, _, _, h4, _⟩ := hO4.form
        obtain ⟨F, hF⟩ : ∃ F, natI (fewestO z0 f1) = F := ⟨_, rfl⟩
        rw [hF] at h5 h4 hq8 ⊢
        obtain ⟨q, hq⟩ : ∃ q, F.length = q := ⟨_, rfl⟩
        rw [hq] at h5 h4 hq8 ⊢
        clear hF hO5 hO4 hms
        go_wp2
        go_loopw [7] (fun i wr => ∃ k d : Nat, i = .int .i64 (k : Int) ∧ k ≤ q ∧ wr = w4.drewN d) (fun i _ => q - (intOf i).toNat)
        case atStart => exact ⟨0, 0, by go_num, by omega, rfl⟩
        case round =>
          obtain ⟨k, d, rfl, hk, rfl⟩ := hrel
          by_cases hlt : k < q
          · have hlz : (k : Int) < (q : Int) := by omega
            obtain ⟨b, off, x, rfl, hx, hcell⟩ := h5.place hlt
            obtain ⟨b', off', x', rfl, hx', hcell'⟩ := h4.place hlt
            rw [hx] at hx'
            injection hx' with hx'
            subst hx'
            have hcq : ∀ d, (w4.drewN d).cell? ⟨b, off + k, none⟩ = some (.int .i64 x) := fun _ => hcell
            have hcq' : ∀ d, (w4.drewN d).cell? ⟨b', off' + k, none⟩ = some (.int .i64 x) := fun _ => hcell'
            clear hx hcell hcell'
            go_wp2_with fail
            go_quiet (fail)
            go_wp2_with fail
            go_roundw
            case rel => exact ⟨k + 1, _, by go_num, by omega, rfl⟩
            case measure => simp [intOf]; omega
          · have hlz : ¬ (k : Int) < (q : Int) := by omega
            have hBq : Below w.heap.size w (w4.drewN d) := ⟨hb4.os, hb4.tape, hb4.output, hb4.size, hb4.block⟩
            go_wp2
            go_ret
            exact ⟨rfl, hBq⟩

namespace planFewestDone
open Go.ChangeShapes Go.WideShapes Go.ChangeAt
set_option maxRecDepth 100000 in
theorem lifted (os : Os) (started : os.Started) (H : Type) (enc : TypeId × Value → H) :
    ReturnsInHanded {} Try.checked os 5 .any (Rows.planFewestSpec.pre6 enc Try.prog Try.f5 Rows.planFewestRow.domain false) (Rows.planFewestSpec.post enc Try.prog Try.f5 false true false false) := by
  refine returnsInHanded_of_change_sized (C := Try.checked) own started (by kernel_rfl) Try.func5
    (ChangeSpec.witness6 (enc := enc) (C := Try.checked) false ⟨#[], #[Value.slice none 0 0, Value.slice none 0 0], []⟩ 8 (by kernel_rfl) (by kernel_rfl) (by kernel_rfl) (by kernel_rfl)) ?_
  intro W base args ds gs before hval0 hW hcnd hsz0 _
  have hsz : (DataW.weightsEach Try.prog (Try.f5.params.toList ++ Rows.planFewestSpec.plain.varTypes Try.prog) (ds ++ gs)).all (· ≤ reachBytes) = true := hsz0
  clear hsz0
  have hval : ∀ (j : Nat) t v, Try.f5.params[j]? = some t → args[j]? = some v → Value.okWide Try.prog W .any base t v := hval0
  have hW' := hW
  obtain ⟨p, q, hA0, hV, rfl, hfz, hnd⟩ := hW
  have hA : DataW.TrodAll enc Try.prog W 0 (fun _ => true) true Try.f5.params.toList args.toList ds p := hA0
  rw [Try.params5] at hA hval hsz
  obtain ⟨v0, vs0, d0, ds0, p0, q0, hargs, rfl, rfl, h0, r0⟩ := trodAll_cons hA
  obtain ⟨v1, vs1, d1, ds1, p1, q1, rfl, rfl, rfl, h1, r1⟩ := trodAll_cons r0
  obtain ⟨rfl, rfl, rfl⟩ := trodAll_nil r1
  obtain rfl : args = #[v0, v1] := by cases args; simp_all
  obtain ⟨rfl, rfl⟩ := trodVars_none hV
  obtain ⟨a0, len0, cap0, rfl⟩ := okWide_slice Try.underlying26 (hval 0 26 v0 rfl rfl)
  have k0 := h0
  have lt0 : ∀ x ∈ p0, x.block < W.heap.size := by obtain ⟨m, hm⟩ := k0; exact DataW.trod_lt m _ _ _ hm
  obtain ⟨z0, hr0, hw0, hc0, hm0, hd0⟩ := items_open h0
  have hl0 : cap0 * 24 ≤ 140737488351232 := by
    rcases hd0 with ⟨_, h⟩ | ⟨es, sp, rfl, h⟩
    · omega
    · have := sized_slice hsz (j := 0) (t := 26) (e := 40) rfl rfl Try.underlying26
      rw [bytes_item] at this
      simp only [reachBytes] at this
      omega
  obtain ⟨a1, len1, cap1, rfl⟩ := okWide_slice Try.underlying27 (hval 1 27 v1 rfl rfl)
  have k1 := h1
  have lt1 : ∀ x ∈ p1, x.block < W.heap.size := by obtain ⟨m, hm⟩ := k1; exact DataW.trod_lt m _ _ _ hm
  obtain ⟨f1, ho1, hc1, hm1⟩ := irows_open h1
  clear hA0 hval0
  refine (planFewest_walk (w := W) a0 len0 cap0 z0 hr0 hw0 hc0 hm0 hl0 a1 len1 cap1 f1 ho1 hc1 hm1).mono fun e W' ⟨he, bel⟩ => ?_
  subst he
  exact ⟨_, rfl, _, _, _, [], _, [], hW', trodAll_mk1 (shut_bool Try.underlying4 _), (trodAll_cons_mk (Below.trod laidOut (by kernel_rfl) (of_decide_eq_true (by kernel_rfl)) k0 bel lt0) (trodAll_cons_mk (Below.trod laidOut (by kernel_rfl) (of_decide_eq_true (by kernel_rfl)) k1 bel lt1) trodAll_mk0)), rfl, bel.frame _, fun h => by cases h⟩

theorem over : Rows.planFewestRow.holds Try.pinned (OpenSpec.ofChange Rows.planFewestSpec) :=
  OpenClaim.holds_of_wide 5 Try.f5 rfl rfl rfl rfl rfl rfl rfl ⟨rfl, rfl, rfl, rfl, rfl⟩ rfl rfl rfl rfl rfl (by kernel_rfl) Try.func5 (by kernel_rfl)
    (of_decide_eq_true (by kernel_rfl)) (by unfold Func.isWrapper; first | (rw [if_pos (by decide +kernel)]; kernel_rfl) | (rw [if_neg (by decide +kernel)]; exact ⟨rfl, rfl⟩))
    (fun os started H enc _ => lifted os started H enc)

/-- The statement. -/
theorem proved : Rows.PlanFewestSaid := over
end planFewestDone
end Go.Proofs.Ytkofaobdpmbcaaa
