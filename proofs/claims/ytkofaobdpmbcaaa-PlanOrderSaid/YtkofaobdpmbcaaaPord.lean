/- 'PlanOrder' returns true for every input: the row of this law, proved. No condition. -/
import Derived.Test.YtkofaobdpmbcaaaPlT
import Derived.Test.YtkofaobdpmbcaaaPlR
import Derived.ProofKit
import Derived.OpenShut
import Derived.ShutString
import Derived.ChangeOld
import Derived.SizedLaws
namespace Go.Proofs.Ytkofaobdpmbcaaa
open Go.RowKit
set_option linter.unusedVariables false
set_option linter.unusedSimpArgs false
set_option maxRecDepth 100000 in
set_option maxHeartbeats 12800000 in
theorem planOrder_walk {w : World} (a0 : Option Addr) (len0 cap0 : Nat) (z0 : List It) (hr0 : IL w a0 len0 z0) (hw0 : WL z0) (hc0 : len0 ≤ cap0) (hm0 : cap0 ≤ 9223372036854775807) (hl0 : cap0 * 24 ≤ 140737488351232) (a1 : Option Addr) (len1 cap1 : Nat) (f1 : List (List It)) (ho1 : RL w.heap.size w a1 len1 f1) (hc1 : len1 ≤ cap1) (hm1 : cap1 ≤ 9223372036854775807) (a2 : Int) (w2 : (Lit.int .i64 a2).wf = true) :
    Calls Try.prog 7 #[.slice a0 len0 cap0, .slice a1 len1 cap1, .int .i64 a2] w fun e w' => e = .returned (.bool true) ∧ Below w.heap.size w w' := by
  have hlen := ho1.1
  have key0 := psmall_any a0 len0 cap0 z0 a1 len1 cap1 f1 _ w hr0 ho1 (by omega) (by omega)
  obtain ⟨sm, hsm⟩ : ∃ s, smallB z0 f1 = s := ⟨_, rfl⟩
  rw [hsm] at key0
  have early : ∀ h : True, True := fun _ => trivial
  by_cases hyes : sm = true ∧ 1 ≤ len1 ∧ len1 ≤ 8
  case neg =>
    cases sm with
    | false =>
      go_enter Try.func7, Try.ntmps7
      go_wp2_with fail
      refine key0.mono ?_
      rintro e w' ⟨rfl, rfl⟩
      go_wp2_with fail
      refine (plives_any _).mono ?_
      rintro e w1 ⟨rfl, hx1⟩
      go_wp2
      go_ret
      exact ⟨rfl, hx1⟩
    | true =>
      by_cases h1 : len1 < 1
      · have hz1 : (len1 : Int) < 1 := by omega
        go_enter Try.func7, Try.ntmps7
        go_wp2_with fail
        refine key0.mono ?_
        rintro e w' ⟨rfl, rfl⟩
        go_wp2_with fail
        refine (plives_any _).mono ?_
        rintro e w1 ⟨rfl, hx1⟩
        go_wp2
        go_ret
        exact ⟨rfl, hx1⟩
      · have hz1 : ¬ (len1 : Int) < 1 := by omega
        have hz2 : 8 < (len1 : Int) := by
          have : 8 < len1 := by
            apply Classical.byContradiction
            intro h
            exact hyes ⟨rfl, by omega, by omega⟩
          omega
        go_enter Try.func7, Try.ntmps7
        go_wp2_with fail
        refine key0.mono ?_
        rintro e w' ⟨rfl, rfl⟩
        go_wp2_with fail
        refine (plives_any _).mono ?_
        rintro e w1 ⟨rfl, hx1⟩
        go_wp2
        go_ret
        exact ⟨rfl, hx1⟩
  obtain ⟨rfl, hn1, hn8⟩ := hyes
  have hsl := (smallB_facts hsm).1
  have hz0len := hr0.len
  have hz1 : ¬ (len1 : Int) < 1 := by omega
  have hz2 : ¬ 8 < (len1 : Int) := by omega
  have hzz : ((len1 : Int) == 0) = false := beq_eq_false_iff_ne.2 (by omega)
  obtain ⟨z, hz⟩ : ∃ z, Int.tmod a2 (len1 : Int) = z := ⟨_, rfl⟩
  have hzb : -(len1 : Int) < z ∧ z < (len1 : Int) := by
    rw [← hz]
    exact ⟨Int.lt_tmod_of_pos a2 (by omega), Int.tmod_lt_of_pos a2 (by omega)⟩
  have hwz : wrap64 z = z := by unfold wrap64; omega
  have hwn : wrap64 (-z) = -z := by unfold wrap64; omega
  obtain ⟨J, hJn, hJz⟩ : ∃ J : Nat, J < len1 ∧ ((z < 0 ∧ -z = (J : Int)) ∨ (¬ z < 0 ∧ z = (J : Int))) := by
    by_cases hneg : z < 0
    · exact ⟨(-z).toNat, by omega, .inl ⟨hneg, by omega⟩⟩
    · exact ⟨z.toNat, by omega, .inr ⟨hneg, by omega⟩⟩
  have hfrom : ∀ W, (Instr.slice 27 (.slice a1 len1 cap1) (some (.int .i64 (J : Int))) none none).run Try.prog W = .ok (.slice (subL a1 cap1 J) (len1 - J) (cap1 - J)) W := fun W => by
    have := run_fromL W a1 len1 cap1 (J : Int) (by omega) (by omega)
    rwa [Int.toNat_natCast] at this
  have hto : ∀ W, (Instr.slice 27 (.slice a1 len1 cap1) none (some (.int .i64 (J : Int))) none).run Try.prog W = .ok (.slice a1 J cap1) W := fun W => by
    have := run_toL W a1 len1 cap1 (J : Int) (by omega) (by omega)
    rwa [Int.toNat_natCast] at this
  have hturnS := mayS_turn z0 f1 J
  have hturnE := enough_turn z0 f1 J
  have hE : OL w.heap.size (w.drew.alloc (.cells #[] 26)) (.slice (some ⟨w.heap.size, 0, none⟩) 0 0) [] := OL.made w.heap.size w.drew (Nat.le_refl _)
  have hbE : Below w.heap.size w (w.drew.alloc (.cells #[] 26)) := (Below.drew (Below.refl w.heap.size w)).alloc (Nat.le_refl _) _
  have hfr : RL w.heap.size (w.drew.alloc (.cells #[] 26)) (subL a1 cap1 J) (len1 - J) (f1.drop J) := (ho1.from_ J (by omega) hc1).below hbE
  have hto0 := ho1.take J (by omega)
  have hrest : ∀ (v4 : Value) (w4 : World), OL w.heap.size w4 v4 (f1.drop J ++ f1.take J) → Below w.heap.size w w4 → True := fun _ _ _ _ => trivial
  go_enter Try.func7, Try.ntmps7
  go_wp2_with fail
  refine key0.mono ?_
  rintro e w' ⟨rfl, hww⟩
  subst w'
  clear key0
  rcases hJz with ⟨hneg, hJz⟩ | ⟨hneg, hJz⟩
  · -- negative
    go_wp2_with fail
    rw [hJz] at hwn
    refine wp_region_held_drew (S := (fun _ => True)) (by kernel_rfl) trivial (fun hHeld => ?_)
    (refine tkI 1 (by (simp only [List.getElem?_toArray, List.getElem?_cons_succ, List.getElem?_cons_zero]; rfl)) (by kernel_rfl) (by kernel_rfl) (by kernel_rfl) (by exact fun _ _ _ h => h) (by rfl) (by (intro w hSw; (try dsimp only at hSw); go_simp <;> with_reducible rfl)) (by assumption) ?_; try simp only [Act.put, List.setIfInBounds_toArray, List.set_cons_zero, List.set_cons_succ])
    (refine tkI 2 (by (simp only [List.getElem?_toArray, List.getElem?_cons_succ, List.getElem?_cons_zero]; rfl)) (by kernel_rfl) (by kernel_rfl) (by kernel_rfl) (by exact fun _ _ _ h => h) (by rfl) (by (intro w hSw; (try dsimp only at hSw); go_simp <;> with_reducible rfl)) (by assumption) ?_; try simp only [Act.put, List.setIfInBounds_toArray, List.set_cons_zero, List.set_cons_succ])
    (refine tkI 3 (by (simp only [List.getElem?_toArray, List.getElem?_cons_succ, List.getElem?_cons_zero]; rfl)) (by kernel_rfl) (by kernel_rfl) (by kernel_rfl) (by exact fun _ _ _ h => h) (by rfl) (by (intro w hSw; (try dsimp only at hSw); go_simp <;> with_reducible rfl)) (by assumption) ?_; try simp only [Act.put, List.setIfInBounds_toArray, List.set_cons_zero, List.set_cons_succ])
    (refine tkI 5 (by (simp only [List.getElem?_toArray, List.getElem?_cons_succ, List.getElem?_cons_zero]; rfl)) (by kernel_rfl) (by kernel_rfl) (by kernel_rfl) (by exact fun _ _ _ h => h) (by rfl) (by (intro w hSw; (try dsimp only at hSw); go_simp <;> with_reducible rfl)) (by assumption) ?_; try simp only [Act.put, List.setIfInBounds_toArray, List.set_cons_zero, List.set_cons_succ])
    (refine tkI 6 (by (simp only [List.getElem?_toArray, List.getElem?_cons_succ, List.getElem?_cons_zero]; rfl)) (by kernel_rfl) (by kernel_rfl) (by kernel_rfl) (by exact fun _ _ _ h => h) (by rfl) (by (intro w hSw; (try dsimp only at hSw); go_simp <;> with_reducible rfl)) (by assumption) ?_; try simp only [Act.put, List.setIfInBounds_toArray, List.set_cons_zero, List.set_cons_succ])
    (refine tkI 7 (by (simp only [List.getElem?_toArray, List.getElem?_cons_succ, List.getElem?_cons_zero]; rfl)) (by kernel_rfl) (by kernel_rfl) (by kernel_rfl) (by exact fun _ _ _ h => h) (by rfl) (by (intro w hSw; (try dsimp only at hSw); go_simp <;> with_reducible rfl)) (by assumption) ?_; try simp only [Act.put, List.setIfInBounds_toArray, List.set_cons_zero, List.set_cons_succ])
    refine wpAnyH_ready (rs := [0]) (by kernel_rfl) (by simp) ?_
    refine AllReadyH.cons (by (simp only [List.getElem?_toArray, List.getElem?_cons_succ, List.getElem?_cons_zero]; rfl)) (fun K hK => ?_) AllReadyH.nil
    go_simp
    refine hK.out _ _ trivial (fun hHeld2 => ?_)
    clear hK K hHeld
    have hHeld := hHeld2
    clear hHeld2
    try simp only [Act.put, List.setIfInBounds_toArray, List.set_cons_zero, List.set_cons_succ]
    refine wpAnyH_ready (rs := [4]) (by kernel_rfl) (by simp) ?_
    refine AllReadyH.cons (by (simp only [List.getElem?_toArray, List.getElem?_cons_succ, List.getElem?_cons_zero]; rfl)) (fun K hK => ?_) AllReadyH.nil
    skip
    rw [if_pos (by rfl)]
    refine wp_appL (.tmp 36) (.tmp 39) rfl w.heap.size _ [] rfl hE _ _ _ (f1.drop J) rfl w.heap.size hfr (Nat.le_refl _) (by simp; omega) hbE.size ?_
    intro v3 w3 hG3 hk3
    rw [List.nil_append] at hG3
    have hb3 := hE.keep_below hbE hk3 hbE.size
    have hto3 := hto0.below hb3
    refine hK.out _ _ trivial (fun hHeld2 => ?_)
    clear hK K hHeld
    have hHeld := hHeld2
    clear hHeld2
    try simp only [Act.put, List.setIfInBounds_toArray, List.set_cons_zero, List.set_cons_succ]
    refine wpAnyH_ready (rs := [8]) (by kernel_rfl) (by simp) ?_
    refine AllReadyH.cons (by (simp only [List.getElem?_toArray, List.getElem?_cons_succ, List.getElem?_cons_zero]; rfl)) (fun K hK => ?_) AllReadyH.nil
    skip
    rw [if_pos (by rfl)]
    refine wp_appL (.tmp 40) (.tmp 43) rfl w.heap.size _ (f1.drop J) rfl hG3 _ _ _ (f1.take J) rfl w.heap.size hto3 (Nat.le_refl _) (by rw [List.length_drop]; omega) hb3.size ?_
    intro v4 w4 hG4 hk4
    have hb4 := hG3.keep_below hb3 hk4 hb3.size
    refine hK.out _ _ trivial (fun hHeld2 => ?_)
    clear hK K hHeld
    have hHeld := hHeld2
    clear hHeld2
    try simp only [Act.put, List.setIfInBounds_toArray, List.set_cons_zero, List.set_cons_succ]
    iterate 1 (refine tkP (by rfl) (by (simp only [List.getElem?_toArray, List.getElem?_cons_succ, List.getElem?_cons_zero]; rfl)) (by kernel_rfl) (by kernel_rfl) (by kernel_rfl) (by exact fun _ _ _ h => h) (by rfl) (by (intro w hSw; (try dsimp only at hSw); go_simp <;> with_reducible rfl)) (by assumption) ?_; try simp only [Act.put, List.setIfInBounds_toArray, List.set_cons_zero, List.set_cons_succ])
    refine wpAnyH_done (by kernel_rfl) ?_ _
    obtain ⟨A4, c4, rfl, h41, h42, h4r⟩ := hG4.form
    clear hE hbE hfr hto0 hG3 hk3 hb3 hto3 hk4 hfrom hto hG4
    have hTl : (f1.drop J ++ f1.take J).length = len1 := by rw [List.length_append, List.length_drop, List.length_take]; omega
    rw [hTl] at h4r h41
    rw [hTl]
    obtain ⟨T, hT⟩ : ∃ T, f1.drop J ++ f1.take J = T := ⟨_, rfl⟩
    rw [hT] at h4r hturnS hturnE
    have hleft : mayP z0 f1 = true → leftO z0 T = leftO z0 f1 := fun h => by rw [← hT]; exact left_turn h J
    clear hT hTl
    have key1 := psplit_any a0 len0 cap0 z0 a1 len1 cap1 f1 _ w4 (hr0.below hb4) hw0 (ho1.below hb4) (by omega) (by omega)
    unfold SplitPost at key1
    have hEn1 := fun W h1 h2 => penough_any a0 len0 cap0 z0 a1 len1 cap1 f1 w.heap.size W h1 hw0 h2 (by omega) (by omega)
    have hEn2 := fun B W h1 h2 => penough_any a0 len0 cap0 z0 A4 len1 c4 T B W h1 hw0 h2 (by omega) (by omega)
    rw [hturnE] at hEn2
    obtain ⟨en, hen⟩ : ∃ b, enoughO z0 f1 = b := ⟨_, rfl⟩
    rw [hen] at hEn1 hEn2
    cases hms : mayS z0 f1 with
    | false =>
      rw [hms] at key1
      go_wp2_with fail
      refine key1.mono ?_
      rintro e w5 ⟨hx5, rfl⟩
      have hb5 := hb4.trans (hx5.mono hb4.size)
      have key2 := psplit_any a0 len0 cap0 z0 A4 len1 c4 T _ w5 (hr0.below hb5) hw0 (h4r.below hx5) (by omega) (by omega)
      unfold SplitPost at key2
      rw [hturnS, hms] at key2
      go_wp2_with fail
      refine key2.mono ?_
      rintro e w6 ⟨hx6, rfl⟩
      have hb6 := hb5.trans (hx6.mono hb5.size)
      have h4r6 := (h4r.below hx5).below hx6
      go_wp2_with fail
      refine (plives_any _).mono ?_
      rintro e w7 ⟨rfl, hx7⟩
      have hb7 := hb6.trans (hx7.mono hb6.size)
      go_wp2_with fail
      refine (same_self none none 0 0 0 0 [] _ (IL.nil _ _) (IL.nil _ _) (by omega)).mono ?_
      rintro e w8 ⟨rfl, hx8⟩
      have hb8 := hb7.trans (hx8.mono hb7.size)
      go_wp2_with fail
      refine (hEn1 _ (hr0.below hb8) (ho1.below hb8)).mono ?_
      rintro e w9 ⟨rfl, hx9⟩
      have hb9 := hb8.trans (hx9.mono hb8.size)
      go_wp2_with fail
      refine (hEn2 _ _ (hr0.below hb9) (((h4r6.below hx7).below hx8).below hx9)).mono ?_
      rintro e w10 ⟨rfl, hx10⟩
      go_wp2
      go_ret
      exact ⟨by simp, hb9.trans (hx10.mono hb9.size)⟩
    | true =>
      have hmp : mayP z0 f1 = true := by unfold mayS at hms; rw [Bool.and_eq_true] at hms; exact hms.2
      have hll := hleft hmp
      obtain ⟨hmy, hmys⟩ := mayP_my hmp
      have hl16 := (MY.leftO hmys hmy).len
      rw [hms] at key1
      go_wp2_with fail
      refine key1.mono ?_
      rintro e w5 ⟨hx5, v5, u5, rfl, hG5, hU5⟩
      clear hG5
      have hb5 := hb4.trans (hx5.mono hb4.size)
      have key2 := psplit_any a0 len0 cap0 z0 A4 len1 c4 T _ w5 (hr0.below hb5) hw0 (h4r.below hx5) (by omega) (by omega)
      unfold SplitPost at key2
      rw [hturnS, hms, hll] at key2
      clear hms
      go_wp2_with fail
      refine key2.mono ?_
      rintro e w6 ⟨hx6, v6, u6, rfl, hG6, hU6⟩
      clear hG6
      have hb6 := hb5.trans (hx6.mono hb5.size)
      have h4r6 := (h4r.below hx5).below hx6
      obtain ⟨L, hL⟩ : ∃ L, leftO z0 f1 = L := ⟨_, rfl⟩
      rw [hL] at hU5 hU6 hl16
      obtain ⟨A5, c5, rfl, _, _, h5i, _⟩ := (hU5.below hx6).form
      obtain ⟨A6, c6, rfl, _, _, h6i, _⟩ := hU6.form
      clear hU5 hU6 hll hleft hL
      go_wp2_with fail
      refine (plives_any _).mono ?_
      rintro e w7 ⟨rfl, hx7⟩
      have hb7 := hb6.trans (hx7.mono hb6.size)
      go_wp2_with fail
      refine (same_self A5 A6 L.length c5 L.length c6 L _ (h5i.below hx7) (h6i.below hx7) (by omega)).mono ?_
      rintro e w8 ⟨rfl, hx8⟩
      have hb8 := hb7.trans (hx8.mono hb7.size)
      go_wp2_with fail
      refine (hEn1 _ (hr0.below hb8) (ho1.below hb8)).mono ?_
      rintro e w9 ⟨rfl, hx9⟩
      have hb9 := hb8.trans (hx9.mono hb8.size)
      go_wp2_with fail
      refine (hEn2 _ _ (hr0.below hb9) (((h4r6.below hx7).below hx8).below hx9)).mono ?_
      rintro e w10 ⟨rfl, hx10⟩
      go_wp2
      go_ret
      exact ⟨by simp, hb9.trans (hx10.mono hb9.size)⟩
  · subst hJz
    go_wp2_with fail
    refine wp_region_held_drew (S := (fun _ => True)) (by kernel_rfl) trivial (fun hHeld => ?_)
    (refine tkI 1 (by (simp only [List.getElem?_toArray, List.getElem?_cons_succ, List.getElem?_cons_zero]; rfl)) (by kernel_rfl) (by kernel_rfl) (by kernel_rfl) (by exact fun _ _ _ h => h) (by rfl) (by (intro w hSw; (try dsimp only at hSw); go_simp <;> with_reducible rfl)) (by assumption) ?_; try simp only [Act.put, List.setIfInBounds_toArray, List.set_cons_zero, List.set_cons_succ])
    (refine tkI 2 (by (simp only [List.getElem?_toArray, List.getElem?_cons_succ, List.getElem?_cons_zero]; rfl)) (by kernel_rfl) (by kernel_rfl) (by kernel_rfl) (by exact fun _ _ _ h => h) (by rfl) (by (intro w hSw; (try dsimp only at hSw); go_simp <;> with_reducible rfl)) (by assumption) ?_; try simp only [Act.put, List.setIfInBounds_toArray, List.set_cons_zero, List.set_cons_succ])
    (refine tkI 3 (by (simp only [List.getElem?_toArray, List.getElem?_cons_succ, List.getElem?_cons_zero]; rfl)) (by kernel_rfl) (by kernel_rfl) (by kernel_rfl) (by exact fun _ _ _ h => h) (by rfl) (by (intro w hSw; (try dsimp only at hSw); go_simp <;> with_reducible rfl)) (by assumption) ?_; try simp only [Act.put, List.setIfInBounds_toArray, List.set_cons_zero, List.set_cons_succ])
    (refine tkI 5 (by (simp only [List.getElem?_toArray, List.getElem?_cons_succ, List.getElem?_cons_zero]; rfl)) (by kernel_rfl) (by kernel_rfl) (by kernel_rfl) (by exact fun _ _ _ h => h) (by rfl) (by (intro w hSw; (try dsimp only at hSw); go_simp <;> with_reducible rfl)) (by assumption) ?_; try simp only [Act.put, List.setIfInBounds_toArray, List.set_cons_zero, List.set_cons_succ])
    (refine tkI 6 (by (simp only [List.getElem?_toArray, List.getElem?_cons_succ, List.getElem?_cons_zero]; rfl)) (by kernel_rfl) (by kernel_rfl) (by kernel_rfl) (by exact fun _ _ _ h => h) (by rfl) (by (intro w hSw; (try dsimp only at hSw); go_simp <;> with_reducible rfl)) (by assumption) ?_; try simp only [Act.put, List.setIfInBounds_toArray, List.set_cons_zero, List.set_cons_succ])
    (refine tkI 7 (by (simp only [List.getElem?_toArray, List.getElem?_cons_succ, List.getElem?_cons_zero]; rfl)) (by kernel_rfl) (by kernel_rfl) (by kernel_rfl) (by exact fun _ _ _ h => h) (by rfl) (by (intro w hSw; (try dsimp only at hSw); go_simp <;> with_reducible rfl)) (by assumption) ?_; try simp only [Act.put, List.setIfInBounds_toArray, List.set_cons_zero, List.set_cons_succ])
    refine wpAnyH_ready (rs := [0]) (by kernel_rfl) (by simp) ?_
    refine AllReadyH.cons (by (simp only [List.getElem?_toArray, List.getElem?_cons_succ, List.getElem?_cons_zero]; rfl)) (fun K hK => ?_) AllReadyH.nil
    go_simp
    refine hK.out _ _ trivial (fun hHeld2 => ?_)
    clear hK K hHeld
    have hHeld := hHeld2
    clear hHeld2
    try simp only [Act.put, List.setIfInBounds_toArray, List.set_cons_zero, List.set_cons_succ]
    refine wpAnyH_ready (rs := [4]) (by kernel_rfl) (by simp) ?_
    refine AllReadyH.cons (by (simp only [List.getElem?_toArray, List.getElem?_cons_succ, List.getElem?_cons_zero]; rfl)) (fun K hK => ?_) AllReadyH.nil
    skip
    rw [if_pos (by rfl)]
    refine wp_appL (.tmp 36) (.tmp 39) rfl w.heap.size _ [] rfl hE _ _ _ (f1.drop J) rfl w.heap.size hfr (Nat.le_refl _) (by simp; omega) hbE.size ?_
    intro v3 w3 hG3 hk3
    rw [List.nil_append] at hG3
    have hb3 := hE.keep_below hbE hk3 hbE.size
    have hto3 := hto0.below hb3
    refine hK.out _ _ trivial (fun hHeld2 => ?_)
    clear hK K hHeld
    have hHeld := hHeld2
    clear hHeld2
    try simp only [Act.put, List.setIfInBounds_toArray, List.set_cons_zero, List.set_cons_succ]
    refine wpAnyH_ready (rs := [8]) (by kernel_rfl) (by simp) ?_
    refine AllReadyH.cons (by (simp only [List.getElem?_toArray, List.getElem?_cons_succ, List.getElem?_cons_zero]; rfl)) (fun K hK => ?_) AllReadyH.nil
    skip
    rw [if_pos (by rfl)]
    refine wp_appL (.tmp 40) (.tmp 43) rfl w.heap.size _ (f1.drop J) rfl hG3 _ _ _ (f1.take J) rfl w.heap.size hto3 (Nat.le_refl _) (by rw [List.length_drop]; omega) hb3.size ?_
    intro v4 w4 hG4 hk4
    have hb4 := hG3.keep_below hb3 hk4 hb3.size
    refine hK.out _ _ trivial (fun hHeld2 => ?_)
    clear hK K hHeld
    have hHeld := hHeld2
    clear hHeld2
    try simp only [Act.put, List.setIfInBounds_toArray, List.set_cons_zero, List.set_cons_succ]
    iterate 1 (refine tkP (by rfl) (by (simp only [List.getElem?_toArray, List.getElem?_cons_succ, List.getElem?_cons_zero]; rfl)) (by kernel_rfl) (by kernel_rfl) (by kernel_rfl) (by exact fun _ _ _ h => h) (by rfl) (by (intro w hSw; (try dsimp only at hSw); go_simp <;> with_reducible rfl)) (by assumption) ?_; try simp only [Act.put, List.setIfInBounds_toArray, List.set_cons_zero, List.set_cons_succ])
    refine wpAnyH_done (by kernel_rfl) ?_ _
    obtain ⟨A4, c4, rfl, h41, h42, h4r⟩ := hG4.form
    clear hE hbE hfr hto0 hG3 hk3 hb3 hto3 hk4 hfrom hto hG4
    have hTl : (f1.drop J ++ f1.take J).length = len1 := by rw [List.length_append, List.length_drop, List.length_take]; omega
    rw [hTl] at h4r h41
    rw [hTl]
    obtain ⟨T, hT⟩ : ∃ T, f1.drop J ++ f1.take J = T := ⟨_, rfl⟩
    rw [hT] at h4r hturnS hturnE
    have hleft : mayP z0 f1 = true → leftO z0 T = leftO z0 f1 := fun h => by rw [← hT]; exact left_turn h J
    clear hT hTl
    have key1 := psplit_any a0 len0 cap0 z0 a1 len1 cap1 f1 _ w4 (hr0.below hb4) hw0 (ho1.below hb4) (by omega) (by omega)
    unfold SplitPost at key1
    have hEn1 := fun W h1 h2 => penough_any a0 len0 cap0 z0 a1 len1 cap1 f1 w.heap.size W h1 hw0 h2 (by omega) (by omega)
    have hEn2 := fun B W h1 h2 => penough_any a0 len0 cap0 z0 A4 len1 c4 T B W h1 hw0 h2 (by omega) (by omega)
    rw [hturnE] at hEn2
    obtain ⟨en, hen⟩ : ∃ b, enoughO z0 f1 = b := ⟨_, rfl⟩
    rw [hen] at hEn1 hEn2
    cases hms : mayS z0 f1 with
    | false =>
      rw [hms] at key1
      go_wp2_with fail
      refine key1.mono ?_
      rintro e w5 ⟨hx5, rfl⟩
      have hb5 := hb4.trans (hx5.mono hb4.size)
      have key2 := psplit_any a0 len0 cap0 z0 A4 len1 c4 T _ w5 (hr0.below hb5) hw0 (h4r.below hx5) (by omega) (by omega)
      unfold SplitPost at key2
      rw [hturnS, hms] at key2
      go_wp2_with fail
      refine key2.mono ?_
      rintro e w6 ⟨hx6, rfl⟩
      have hb6 := hb5.trans (hx6.mono hb5.size)
      have h4r6 := (h4r.below hx5).below hx6
      go_wp2_with fail
      refine (plives_any _).mono ?_
      rintro e w7 ⟨rfl, hx7⟩
      have hb7 := hb6.trans (hx7.mono hb6.size)
      go_wp2_with fail
      refine (same_self none none 0 0 0 0 [] _ (IL.nil _ _) (IL.nil _ _) (by omega)).mono ?_
      rintro e w8 ⟨rfl, hx8⟩
      have hb8 := hb7.trans (hx8.mono hb7.size)
      go_wp2_with fail
      refine (hEn1 _ (hr0.below hb8) (ho1.below hb8)).mono ?_
      rintro e w9 ⟨rfl, hx9⟩
      have hb9 := hb8.trans (hx9.mono hb8.size)
      go_wp2_with fail
      refine (hEn2 _ _ (hr0.below hb9) (((h4r6.below hx7).below hx8).below hx9)).mono ?_
      rintro e w10 ⟨rfl, hx10⟩
      go_wp2
      go_ret
      exact ⟨by simp, hb9.trans (hx10.mono hb9.size)⟩
    | true =>
      have hmp : mayP z0 f1 = true := by unfold mayS at hms; rw [Bool.and_eq_true] at hms; exact hms.2
      have hll := hleft hmp
      obtain ⟨hmy, hmys⟩ := mayP_my hmp
      have hl16 := (MY.leftO hmys hmy).len
      rw [hms] at key1
      go_wp2_with fail
      refine key1.mono ?_
      rintro e w5 ⟨hx5, v5, u5, rfl, hG5, hU5⟩
      clear hG5
      have hb5 := hb4.trans (hx5.mono hb4.size)
      have key2 := psplit_any a0 len0 cap0 z0 A4 len1 c4 T _ w5 (hr0.below hb5) hw0 (h4r.below hx5) (by omega) (by omega)
      unfold SplitPost at key2
      rw [hturnS, hms, hll] at key2
      clear hms
      go_wp2_with fail
      refine key2.mono ?_
      rintro e w6 ⟨hx6, v6, u6, rfl, hG6, hU6⟩
      clear hG6
      have hb6 := hb5.trans (hx6.mono hb5.size)
      have h4r6 := (h4r.below hx5).below hx6
      obtain ⟨L, hL⟩ : ∃ L, leftO z0 f1 = L := ⟨_, rfl⟩
      rw [hL] at hU5 hU6 hl16
      obtain ⟨A5, c5, rfl, _, _, h5i, _⟩ := (hU5.below hx6).form
      obtain ⟨A6, c6, rfl, _, _, h6i, _⟩ := hU6.form
      clear hU5 hU6 hll hleft hL
      go_wp2_with fail
      refine (plives_any _).mono ?_
      rintro e w7 ⟨rfl, hx7⟩
      have hb7 := hb6.trans (hx7.mono hb6.size)
      go_wp2_with fail
      refine (same_self A5 A6 L.length c5 L.length c6 L _ (h5i.below hx7) (h6i.below hx7) (by omega)).mono ?_
      rintro e w8 ⟨rfl, hx8⟩
      have hb8 := hb7.trans (hx8.mono hb7.size)
      go_wp2_with fail
      refine (hEn1 _ (hr0.below hb8) (ho1.below hb8)).mono ?_
      rintro e w9 ⟨rfl, hx9⟩
      have hb9 := hb8.trans (hx9.mono hb8.size)
      go_wp2_with fail
      refine (hEn2 _ _ (hr0.below hb9) (((h4r6.below hx7).below hx8).below hx9)).mono ?_
      rintro e w10 ⟨rfl, hx10⟩
      go_wp2
      go_ret
      exact ⟨by simp, hb9.trans (hx10.mono hb9.size)⟩

namespace planOrderDone
open Go.ChangeShapes Go.WideShapes Go.ChangeAt
set_option maxRecDepth 100000 in
theorem lifted (os : Os) (started : os.Started) (H : Type) (enc : TypeId × Value → H) :
    ReturnsInHanded {} Try.checked os 7 .any (Rows.planOrderSpec.pre6 enc Try.prog Try.f7 Rows.planOrderRow.domain false) (Rows.planOrderSpec.post enc Try.prog Try.f7 false true false false) := by
  refine returnsInHanded_of_change_sized (C := Try.checked) own started (by kernel_rfl) Try.func7
    (ChangeSpec.witness6 (enc := enc) (C := Try.checked) false ⟨#[], #[Value.slice none 0 0, Value.slice none 0 0, Value.int .i64 0], []⟩ 8 (by kernel_rfl) (by kernel_rfl) (by kernel_rfl) (by kernel_rfl)) ?_
  intro W base args ds gs before hval0 hW hcnd hsz0 _
  have hsz : (DataW.weightsEach Try.prog (Try.f7.params.toList ++ Rows.planOrderSpec.plain.varTypes Try.prog) (ds ++ gs)).all (· ≤ reachBytes) = true := hsz0
  clear hsz0
  have hval : ∀ (j : Nat) t v, Try.f7.params[j]? = some t → args[j]? = some v → Value.okWide Try.prog W .any base t v := hval0
  have hW' := hW
  obtain ⟨p, q, hA0, hV, rfl, hfz, hnd⟩ := hW
  have hA : DataW.TrodAll enc Try.prog W 0 (fun _ => true) true Try.f7.params.toList args.toList ds p := hA0
  rw [Try.params7] at hA hval hsz
  obtain ⟨v0, vs0, d0, ds0, p0, q0, hargs, rfl, rfl, h0, r0⟩ := trodAll_cons hA
  obtain ⟨v1, vs1, d1, ds1, p1, q1, rfl, rfl, rfl, h1, r1⟩ := trodAll_cons r0
  obtain ⟨v2, vs2, d2, ds2, p2, q2, rfl, rfl, rfl, h2, r2⟩ := trodAll_cons r1
  obtain ⟨rfl, rfl, rfl⟩ := trodAll_nil r2
  obtain rfl : args = #[v0, v1, v2] := by cases args; simp_all
  obtain ⟨rfl, rfl⟩ := trodVars_none hV
  obtain ⟨a0, len0, cap0, rfl⟩ := okWide_slice Try.underlying26 (hval 0 26 v0 rfl rfl)
  have k0 := h0
  have lt0 : ∀ x ∈ p0, x.block < W.heap.size := by obtain ⟨m, hm⟩ := k0; exact DataW.trod_lt m _ _ _ hm
  obtain ⟨z0, hr0, hw0, hc0, hm0, hd0⟩ := items_open h0
  have hl0 : cap0 * 24 ≤ 140737488351232 := by
    rcases hd0 with ⟨_, h⟩ | ⟨es, sp, rfl, h⟩
    · omega
    · have := sized_slice hsz (j := 0) (t := 26) (e := 40) rfl rfl Try.underlying26
      rw [bytes_item] at this
      simp only [reachBytes] at this
      omega
  obtain ⟨a1, len1, cap1, rfl⟩ := okWide_slice Try.underlying27 (hval 1 27 v1 rfl rfl)
  have k1 := h1
  have lt1 : ∀ x ∈ p1, x.block < W.heap.size := by obtain ⟨m, hm⟩ := k1; exact DataW.trod_lt m _ _ _ hm
  obtain ⟨f1, ho1, hc1, hm1⟩ := irows_open h1
  obtain ⟨a2, rfl, rfl, rfl, w2⟩ := open_int Try.underlying3 (hval 2 3 v2 rfl rfl) h2
  clear hA0 hval0
  refine (planOrder_walk (w := W) a0 len0 cap0 z0 hr0 hw0 hc0 hm0 hl0 a1 len1 cap1 f1 ho1 hc1 hm1 a2 w2).mono fun e W' ⟨he, bel⟩ => ?_
  subst he
  exact ⟨_, rfl, _, _, _, [], _, [], hW', trodAll_mk1 (shut_bool Try.underlying4 _), (trodAll_cons_mk (Below.trod laidOut (by kernel_rfl) (of_decide_eq_true (by kernel_rfl)) k0 bel lt0) (trodAll_cons_mk (Below.trod laidOut (by kernel_rfl) (of_decide_eq_true (by kernel_rfl)) k1 bel lt1) (trodAll_cons_mk (shut_int Try.underlying3 w2) trodAll_mk0))), rfl, bel.frame _, fun h => by cases h⟩

theorem over : Rows.planOrderRow.holds Try.pinned (OpenSpec.ofChange Rows.planOrderSpec) :=
  OpenClaim.holds_of_wide 7 Try.f7 rfl rfl rfl rfl rfl rfl rfl ⟨rfl, rfl, rfl, rfl, rfl⟩ rfl rfl rfl rfl rfl (by kernel_rfl) Try.func7 (by kernel_rfl)
    (of_decide_eq_true (by kernel_rfl)) (by unfold Func.isWrapper; first | (rw [if_pos (by decide +kernel)]; kernel_rfl) | (rw [if_neg (by decide +kernel)]; exact ⟨rfl, rfl⟩))
    (fun os started H enc _ => lifted os started H enc)

/-- The statement. -/
theorem proved : Rows.PlanOrderSaid := over
end planOrderDone
end Go.Proofs.Ytkofaobdpmbcaaa
