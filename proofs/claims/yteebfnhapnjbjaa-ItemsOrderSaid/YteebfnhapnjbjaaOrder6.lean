/- 'ItemsOrder' returns true for every input: the row of this law, proved. No condition. -/
import Derived.Test.YteebfnhapnjbjaaKept6
import Derived.ProofKit
import Derived.OpenShut
import Derived.ShutString
import Derived.ChangeOld
import Derived.SizedLaws
namespace Go.Proofs.Yteebfnhapnjbjaa
open Go.RowKit
set_option linter.unusedVariables false
set_option linter.unusedSimpArgs false
set_option maxRecDepth 100000 in
set_option maxHeartbeats 6400000 in
theorem itemsOrder_walk {w : World} (a0 : Option Addr) (len0 cap0 : Nat) (z0 : List It) (hr0 : IL w a0 len0 z0) (hw0 : WL z0) (hc0 : len0 ≤ cap0) (hm0 : cap0 ≤ 9223372036854775807) (hl0 : cap0 * 24 ≤ 140737488351232) (a1 : Option Addr) (len1 cap1 : Nat) (z1 : List It) (hr1 : IL w a1 len1 z1) (hw1 : WL z1) (hc1 : len1 ≤ cap1) (hm1 : cap1 ≤ 9223372036854775807) (hl1 : cap1 * 24 ≤ 140737488351232) (a2 : Option Addr) (len2 cap2 : Nat) (z2 : List It) (hr2 : IL w a2 len2 z2) (hw2 : WL z2) (hc2 : len2 ≤ cap2) (hm2 : cap2 ≤ 9223372036854775807) (hl2 : cap2 * 24 ≤ 140737488351232) :
    Calls Try.prog 6 #[.slice a0 len0 cap0, .slice a1 len1 cap1, .slice a2 len2 cap2] w fun e w' => e = .returned (.bool true) ∧ Below w.heap.size w w' := by
  have hb0 := below_same' w
  cases h0 : mayL z0 with
  | false =>
    go_enter Try.func6, Try.ntmps6
    go_wp2_with fail
    refine (refmay_b a0 len0 cap0 z0 _ (hr0.below hb0) (by omega) hw0.long).mono ?_
    rintro e w1 ⟨rfl, hx1⟩
    have hb1 := hb0.trans (hx1.mono hb0.size)
    rw [h0]
    go_wp2_with fail
    refine (lives_any _).mono ?_
    rintro e w2 ⟨rfl, hx2⟩
    have hb2 := hb1.trans (hx2.mono hb1.size)
    go_wp2
    go_ret
    exact ⟨rfl, hb2⟩
  | true =>
    cases h1 : mayL z1 with
    | false =>
      go_enter Try.func6, Try.ntmps6
      go_wp2_with fail
      refine (refmay_b a0 len0 cap0 z0 _ (hr0.below hb0) (by omega) hw0.long).mono ?_
      rintro e w1 ⟨rfl, hx1⟩
      have hb1 := hb0.trans (hx1.mono hb0.size)
      rw [h0]
      go_wp2_with fail
      refine (refmay_b a1 len1 cap1 z1 _ (hr1.below hb1) (by omega) hw1.long).mono ?_
      rintro e w2 ⟨rfl, hx2⟩
      have hb2 := hb1.trans (hx2.mono hb1.size)
      rw [h1]
      go_wp2_with fail
      refine (lives_any _).mono ?_
      rintro e w3 ⟨rfl, hx3⟩
      have hb3 := hb2.trans (hx3.mono hb2.size)
      go_wp2
      go_ret
      exact ⟨rfl, hb3⟩
    | true =>
      cases h2 : mayL z2 with
      | false =>
        go_enter Try.func6, Try.ntmps6
        go_wp2_with fail
        refine (refmay_b a0 len0 cap0 z0 _ (hr0.below hb0) (by omega) hw0.long).mono ?_
        rintro e w1 ⟨rfl, hx1⟩
        have hb1 := hb0.trans (hx1.mono hb0.size)
        rw [h0]
        go_wp2_with fail
        refine (refmay_b a1 len1 cap1 z1 _ (hr1.below hb1) (by omega) hw1.long).mono ?_
        rintro e w2 ⟨rfl, hx2⟩
        have hb2 := hb1.trans (hx2.mono hb1.size)
        rw [h1]
        go_wp2_with fail
        refine (refmay_b a2 len2 cap2 z2 _ (hr2.below hb2) (by omega) hw2.long).mono ?_
        rintro e w3 ⟨rfl, hx3⟩
        have hb3 := hb2.trans (hx3.mono hb2.size)
        rw [h2]
        go_wp2_with fail
        refine (lives_any _).mono ?_
        rintro e w4 ⟨rfl, hx4⟩
        have hb4 := hb3.trans (hx4.mono hb3.size)
        go_wp2
        go_ret
        exact ⟨rfl, hb4⟩
      | true =>
        have my0 := MY.of_ h0
        have my1 := MY.of_ h1
        have my2 := MY.of_ h2
        have haa : coversL z0 z0 = true := (covers_le my0 my0).2 fun g => Int.le_refl _
        have hs := same_iff my0 my1
        have hq0 : coversL z0 (meetL z0 z1) = true := (covers_le my0 (MY.meet my0 my1)).2 fun g => by rw [of_meet my0 my1]; omega
        have hq1 : coversL z1 (meetL z0 z1) = true := (covers_le my1 (MY.meet my0 my1)).2 fun g => by rw [of_meet my0 my1]; omega
        have hwm : WL (meetL z0 z1) := hw0.meet
        obtain ⟨N, hM⟩ : ∃ N, (meetL z0 z1).length = N := ⟨_, rfl⟩
        have hN : N ≤ 16 := by rw [← hM]; exact (MY.meet my0 my1).len
        have htr : coversL z0 z1 = true → coversL z1 z2 = true → coversL z0 z2 = true := fun h h' => (covers_le my0 my2).2 fun g => Int.le_trans ((covers_le my1 my2).1 h' g) ((covers_le my0 my1).1 h g)
        clear my0 my1 my2
        cases hab : coversL z0 z1 with
        | false =>
          have hsame : decide (z0 = z1) = false := by rw [← hs, hab]; rfl
          clear hs htr
          cases hbc : coversL z1 z2 with
          | false =>
            obtain ⟨ac, hac⟩ : ∃ ac, coversL z0 z2 = ac := ⟨_, rfl⟩
            go_enter Try.func6, Try.ntmps6
            go_wp2_with fail
            refine (refmay_b a0 len0 cap0 z0 _ (hr0.below hb0) (by omega) hw0.long).mono ?_
            rintro e w1 ⟨rfl, hx1⟩
            have hb1 := hb0.trans (hx1.mono hb0.size)
            rw [h0]
            go_wp2_with fail
            refine (refmay_b a1 len1 cap1 z1 _ (hr1.below hb1) (by omega) hw1.long).mono ?_
            rintro e w2 ⟨rfl, hx2⟩
            have hb2 := hb1.trans (hx2.mono hb1.size)
            rw [h1]
            go_wp2_with fail
            refine (refmay_b a2 len2 cap2 z2 _ (hr2.below hb2) (by omega) hw2.long).mono ?_
            rintro e w3 ⟨rfl, hx3⟩
            have hb3 := hb2.trans (hx3.mono hb2.size)
            rw [h2]
            go_wp2_with fail
            refine (covers_any a0 a1 len0 cap0 len1 cap1 z0 z1 _ (hr0.below hb3) (hr1.below hb3) (by omega) (by omega) hw1).mono ?_
            rintro e w4 ⟨rfl, hx4⟩
            have hb4 := hb3.trans (hx4.mono hb3.size)
            rw [hab]
            go_wp2_with fail
            refine (covers_any a1 a2 len1 cap1 len2 cap2 z1 z2 _ (hr1.below hb4) (hr2.below hb4) (by omega) (by omega) hw2).mono ?_
            rintro e w5 ⟨rfl, hx5⟩
            have hb5 := hb4.trans (hx5.mono hb4.size)
            rw [hbc]
            go_wp2_with fail
            refine (covers_any a0 a2 len0 cap0 len2 cap2 z0 z2 _ (hr0.below hb5) (hr2.below hb5) (by omega) (by omega) hw2).mono ?_
            rintro e w6 ⟨rfl, hx6⟩
            have hb6 := hb5.trans (hx6.mono hb5.size)
            go_wp2_with fail
            refine (lives_any _).mono ?_
            rintro e w7 ⟨rfl, hx7⟩
            have hb7 := hb6.trans (hx7.mono hb6.size)
            go_wp2_with fail
            refine (covers_any a0 a0 len0 cap0 len0 cap0 z0 z0 _ (hr0.below hb7) (hr0.below hb7) (by omega) (by omega) hw0).mono ?_
            rintro e w8 ⟨rfl, hx8⟩
            have hb8 := hb7.trans (hx8.mono hb7.size)
            rw [haa]
            go_wp2_with fail
            refine (same_b a0 a1 len0 cap0 len1 cap1 z0 z1 _ (hr0.below hb8) (hr1.below hb8) (by omega)).mono ?_
            rintro e w9 ⟨rfl, hx9⟩
            have hb9 := hb8.trans (hx9.mono hb8.size)
            rw [hsame]
            go_wp2_with fail
            refine (meet_any a0 a1 len0 cap0 len1 cap1 z0 z1 _ (hr0.below hb9) (hr1.below hb9) (by omega) (by omega) hw0).mono ?_
            rintro e w10 ⟨vx, rfl, hox, hx10⟩
            have hb10 := hb9.trans (hx10.mono hb9.size)
            obtain ⟨Mx, mcx, hvx, hlcx, hcmx, hilx, _⟩ := hox.form
            rw [hM] at hvx hilx hlcx
            subst hvx
            clear hox hcmx hlcx
            go_wp2_with fail
            refine (covers_any a0 Mx len0 cap0 N mcx z0 (meetL z0 z1) _ (hr0.below hb10) hilx (by omega) (by omega) hwm).mono ?_
            rintro e w11 ⟨rfl, hx11⟩
            have hb11 := hb10.trans (hx11.mono hb10.size)
            rw [hq0]
            go_wp2_with fail
            refine (meet_any a0 a1 len0 cap0 len1 cap1 z0 z1 _ (hr0.below hb11) (hr1.below hb11) (by omega) (by omega) hw0).mono ?_
            rintro e w12 ⟨vy, rfl, hoy, hx12⟩
            have hb12 := hb11.trans (hx12.mono hb11.size)
            obtain ⟨My, mcy, hvy, hlcy, hcmy, hily, _⟩ := hoy.form
            rw [hM] at hvy hily hlcy
            subst hvy
            clear hoy hcmy hlcy
            go_wp2_with fail
            refine (covers_any a1 My len1 cap1 N mcy z1 (meetL z0 z1) _ (hr1.below hb12) hily (by omega) (by omega) hwm).mono ?_
            rintro e w13 ⟨rfl, hx13⟩
            have hb13 := hb12.trans (hx13.mono hb12.size)
            rw [hq1]
            go_wp2
            go_ret
            exact ⟨rfl, hb13⟩
          | true =>
            obtain ⟨ac, hac⟩ : ∃ ac, coversL z0 z2 = ac := ⟨_, rfl⟩
            go_enter Try.func6, Try.ntmps6
            go_wp2_with fail
            refine (refmay_b a0 len0 cap0 z0 _ (hr0.below hb0) (by omega) hw0.long).mono ?_
            rintro e w1 ⟨rfl, hx1⟩
            have hb1 := hb0.trans (hx1.mono hb0.size)
            rw [h0]
            go_wp2_with fail
            refine (refmay_b a1 len1 cap1 z1 _ (hr1.below hb1) (by omega) hw1.long).mono ?_
            rintro e w2 ⟨rfl, hx2⟩
            have hb2 := hb1.trans (hx2.mono hb1.size)
            rw [h1]
            go_wp2_with fail
            refine (refmay_b a2 len2 cap2 z2 _ (hr2.below hb2) (by omega) hw2.long).mono ?_
            rintro e w3 ⟨rfl, hx3⟩
            have hb3 := hb2.trans (hx3.mono hb2.size)
            rw [h2]
            go_wp2_with fail
            refine (covers_any a0 a1 len0 cap0 len1 cap1 z0 z1 _ (hr0.below hb3) (hr1.below hb3) (by omega) (by omega) hw1).mono ?_
            rintro e w4 ⟨rfl, hx4⟩
            have hb4 := hb3.trans (hx4.mono hb3.size)
            rw [hab]
            go_wp2_with fail
            refine (covers_any a1 a2 len1 cap1 len2 cap2 z1 z2 _ (hr1.below hb4) (hr2.below hb4) (by omega) (by omega) hw2).mono ?_
            rintro e w5 ⟨rfl, hx5⟩
            have hb5 := hb4.trans (hx5.mono hb4.size)
            rw [hbc]
            go_wp2_with fail
            refine (covers_any a0 a2 len0 cap0 len2 cap2 z0 z2 _ (hr0.below hb5) (hr2.below hb5) (by omega) (by omega) hw2).mono ?_
            rintro e w6 ⟨rfl, hx6⟩
            have hb6 := hb5.trans (hx6.mono hb5.size)
            go_wp2_with fail
            refine (lives_any _).mono ?_
            rintro e w7 ⟨rfl, hx7⟩
            have hb7 := hb6.trans (hx7.mono hb6.size)
            go_wp2_with fail
            refine (covers_any a0 a0 len0 cap0 len0 cap0 z0 z0 _ (hr0.below hb7) (hr0.below hb7) (by omega) (by omega) hw0).mono ?_
            rintro e w8 ⟨rfl, hx8⟩
            have hb8 := hb7.trans (hx8.mono hb7.size)
            rw [haa]
            go_wp2_with fail
            refine (same_b a0 a1 len0 cap0 len1 cap1 z0 z1 _ (hr0.below hb8) (hr1.below hb8) (by omega)).mono ?_
            rintro e w9 ⟨rfl, hx9⟩
            have hb9 := hb8.trans (hx9.mono hb8.size)
            rw [hsame]
            go_wp2_with fail
            refine (meet_any a0 a1 len0 cap0 len1 cap1 z0 z1 _ (hr0.below hb9) (hr1.below hb9) (by omega) (by omega) hw0).mono ?_
            rintro e w10 ⟨vx, rfl, hox, hx10⟩
            have hb10 := hb9.trans (hx10.mono hb9.size)
            obtain ⟨Mx, mcx, hvx, hlcx, hcmx, hilx, _⟩ := hox.form
            rw [hM] at hvx hilx hlcx
            subst hvx
            clear hox hcmx hlcx
            go_wp2_with fail
            refine (covers_any a0 Mx len0 cap0 N mcx z0 (meetL z0 z1) _ (hr0.below hb10) hilx (by omega) (by omega) hwm).mono ?_
            rintro e w11 ⟨rfl, hx11⟩
            have hb11 := hb10.trans (hx11.mono hb10.size)
            rw [hq0]
            go_wp2_with fail
            refine (meet_any a0 a1 len0 cap0 len1 cap1 z0 z1 _ (hr0.below hb11) (hr1.below hb11) (by omega) (by omega) hw0).mono ?_
            rintro e w12 ⟨vy, rfl, hoy, hx12⟩
            have hb12 := hb11.trans (hx12.mono hb11.size)
            obtain ⟨My, mcy, hvy, hlcy, hcmy, hily, _⟩ := hoy.form
            rw [hM] at hvy hily hlcy
            subst hvy
            clear hoy hcmy hlcy
            go_wp2_with fail
            refine (covers_any a1 My len1 cap1 N mcy z1 (meetL z0 z1) _ (hr1.below hb12) hily (by omega) (by omega) hwm).mono ?_
            rintro e w13 ⟨rfl, hx13⟩
            have hb13 := hb12.trans (hx13.mono hb12.size)
            rw [hq1]
            go_wp2
            go_ret
            exact ⟨rfl, hb13⟩
        | true =>
          cases hba : coversL z1 z0 with
          | false =>
            have hsame : decide (z0 = z1) = false := by rw [← hs, hab, hba]; rfl
            clear hs
            cases hbc : coversL z1 z2 with
            | false =>
              clear htr
              obtain ⟨ac, hac⟩ : ∃ ac, coversL z0 z2 = ac := ⟨_, rfl⟩
              go_enter Try.func6, Try.ntmps6
              go_wp2_with fail
              refine (refmay_b a0 len0 cap0 z0 _ (hr0.below hb0) (by omega) hw0.long).mono ?_
              rintro e w1 ⟨rfl, hx1⟩
              have hb1 := hb0.trans (hx1.mono hb0.size)
              rw [h0]
              go_wp2_with fail
              refine (refmay_b a1 len1 cap1 z1 _ (hr1.below hb1) (by omega) hw1.long).mono ?_
              rintro e w2 ⟨rfl, hx2⟩
              have hb2 := hb1.trans (hx2.mono hb1.size)
              rw [h1]
              go_wp2_with fail
              refine (refmay_b a2 len2 cap2 z2 _ (hr2.below hb2) (by omega) hw2.long).mono ?_
              rintro e w3 ⟨rfl, hx3⟩
              have hb3 := hb2.trans (hx3.mono hb2.size)
              rw [h2]
              go_wp2_with fail
              refine (covers_any a0 a1 len0 cap0 len1 cap1 z0 z1 _ (hr0.below hb3) (hr1.below hb3) (by omega) (by omega) hw1).mono ?_
              rintro e w4 ⟨rfl, hx4⟩
              have hb4 := hb3.trans (hx4.mono hb3.size)
              rw [hab]
              go_wp2_with fail
              refine (covers_any a1 a2 len1 cap1 len2 cap2 z1 z2 _ (hr1.below hb4) (hr2.below hb4) (by omega) (by omega) hw2).mono ?_
              rintro e w5 ⟨rfl, hx5⟩
              have hb5 := hb4.trans (hx5.mono hb4.size)
              rw [hbc]
              go_wp2_with fail
              refine (covers_any a0 a2 len0 cap0 len2 cap2 z0 z2 _ (hr0.below hb5) (hr2.below hb5) (by omega) (by omega) hw2).mono ?_
              rintro e w6 ⟨rfl, hx6⟩
              have hb6 := hb5.trans (hx6.mono hb5.size)
              go_wp2_with fail
              refine (lives_any _).mono ?_
              rintro e w7 ⟨rfl, hx7⟩
              have hb7 := hb6.trans (hx7.mono hb6.size)
              go_wp2_with fail
              refine (covers_any a0 a0 len0 cap0 len0 cap0 z0 z0 _ (hr0.below hb7) (hr0.below hb7) (by omega) (by omega) hw0).mono ?_
              rintro e w8 ⟨rfl, hx8⟩
              have hb8 := hb7.trans (hx8.mono hb7.size)
              rw [haa]
              go_wp2_with fail
              refine (covers_any a1 a0 len1 cap1 len0 cap0 z1 z0 _ (hr1.below hb8) (hr0.below hb8) (by omega) (by omega) hw0).mono ?_
              rintro e w9 ⟨rfl, hx9⟩
              have hb9 := hb8.trans (hx9.mono hb8.size)
              rw [hba]
              go_wp2_with fail
              refine (same_b a0 a1 len0 cap0 len1 cap1 z0 z1 _ (hr0.below hb9) (hr1.below hb9) (by omega)).mono ?_
              rintro e w10 ⟨rfl, hx10⟩
              have hb10 := hb9.trans (hx10.mono hb9.size)
              rw [hsame]
              go_wp2_with fail
              refine (meet_any a0 a1 len0 cap0 len1 cap1 z0 z1 _ (hr0.below hb10) (hr1.below hb10) (by omega) (by omega) hw0).mono ?_
              rintro e w11 ⟨vx, rfl, hox, hx11⟩
              have hb11 := hb10.trans (hx11.mono hb10.size)
              obtain ⟨Mx, mcx, hvx, hlcx, hcmx, hilx, _⟩ := hox.form
              rw [hM] at hvx hilx hlcx
              subst hvx
              clear hox hcmx hlcx
              go_wp2_with fail
              refine (covers_any a0 Mx len0 cap0 N mcx z0 (meetL z0 z1) _ (hr0.below hb11) hilx (by omega) (by omega) hwm).mono ?_
              rintro e w12 ⟨rfl, hx12⟩
              have hb12 := hb11.trans (hx12.mono hb11.size)
              rw [hq0]
              go_wp2_with fail
              refine (meet_any a0 a1 len0 cap0 len1 cap1 z0 z1 _ (hr0.below hb12) (hr1.below hb12) (by omega) (by omega) hw0).mono ?_
              rintro e w13 ⟨vy, rfl, hoy, hx13⟩
              have hb13 := hb12.trans (hx13.mono hb12.size)
              obtain ⟨My, mcy, hvy, hlcy, hcmy, hily, _⟩ := hoy.form
              rw [hM] at hvy hily hlcy
              subst hvy
              clear hoy hcmy hlcy
              go_wp2_with fail
              refine (covers_any a1 My len1 cap1 N mcy z1 (meetL z0 z1) _ (hr1.below hb13) hily (by omega) (by omega) hwm).mono ?_
              rintro e w14 ⟨rfl, hx14⟩
              have hb14 := hb13.trans (hx14.mono hb13.size)
              rw [hq1]
              go_wp2
              go_ret
              exact ⟨rfl, hb14⟩
            | true =>
              have hac : coversL z0 z2 = true := htr hab hbc
              clear htr
              go_enter Try.func6, Try.ntmps6
              go_wp2_with fail
              refine (refmay_b a0 len0 cap0 z0 _ (hr0.below hb0) (by omega) hw0.long).mono ?_
              rintro e w1 ⟨rfl, hx1⟩
              have hb1 := hb0.trans (hx1.mono hb0.size)
              rw [h0]
              go_wp2_with fail
              refine (refmay_b a1 len1 cap1 z1 _ (hr1.below hb1) (by omega) hw1.long).mono ?_
              rintro e w2 ⟨rfl, hx2⟩
              have hb2 := hb1.trans (hx2.mono hb1.size)
              rw [h1]
              go_wp2_with fail
              refine (refmay_b a2 len2 cap2 z2 _ (hr2.below hb2) (by omega) hw2.long).mono ?_
              rintro e w3 ⟨rfl, hx3⟩
              have hb3 := hb2.trans (hx3.mono hb2.size)
              rw [h2]
              go_wp2_with fail
              refine (covers_any a0 a1 len0 cap0 len1 cap1 z0 z1 _ (hr0.below hb3) (hr1.below hb3) (by omega) (by omega) hw1).mono ?_
              rintro e w4 ⟨rfl, hx4⟩
              have hb4 := hb3.trans (hx4.mono hb3.size)
              rw [hab]
              go_wp2_with fail
              refine (covers_any a1 a2 len1 cap1 len2 cap2 z1 z2 _ (hr1.below hb4) (hr2.below hb4) (by omega) (by omega) hw2).mono ?_
              rintro e w5 ⟨rfl, hx5⟩
              have hb5 := hb4.trans (hx5.mono hb4.size)
              rw [hbc]
              go_wp2_with fail
              refine (covers_any a0 a2 len0 cap0 len2 cap2 z0 z2 _ (hr0.below hb5) (hr2.below hb5) (by omega) (by omega) hw2).mono ?_
              rintro e w6 ⟨rfl, hx6⟩
              have hb6 := hb5.trans (hx6.mono hb5.size)
              rw [hac]
              go_wp2_with fail
              refine (lives_any _).mono ?_
              rintro e w7 ⟨rfl, hx7⟩
              have hb7 := hb6.trans (hx7.mono hb6.size)
              go_wp2_with fail
              refine (covers_any a0 a0 len0 cap0 len0 cap0 z0 z0 _ (hr0.below hb7) (hr0.below hb7) (by omega) (by omega) hw0).mono ?_
              rintro e w8 ⟨rfl, hx8⟩
              have hb8 := hb7.trans (hx8.mono hb7.size)
              rw [haa]
              go_wp2_with fail
              refine (covers_any a1 a0 len1 cap1 len0 cap0 z1 z0 _ (hr1.below hb8) (hr0.below hb8) (by omega) (by omega) hw0).mono ?_
              rintro e w9 ⟨rfl, hx9⟩
              have hb9 := hb8.trans (hx9.mono hb8.size)
              rw [hba]
              go_wp2_with fail
              refine (same_b a0 a1 len0 cap0 len1 cap1 z0 z1 _ (hr0.below hb9) (hr1.below hb9) (by omega)).mono ?_
              rintro e w10 ⟨rfl, hx10⟩
              have hb10 := hb9.trans (hx10.mono hb9.size)
              rw [hsame]
              go_wp2_with fail
              refine (meet_any a0 a1 len0 cap0 len1 cap1 z0 z1 _ (hr0.below hb10) (hr1.below hb10) (by omega) (by omega) hw0).mono ?_
              rintro e w11 ⟨vx, rfl, hox, hx11⟩
              have hb11 := hb10.trans (hx11.mono hb10.size)
              obtain ⟨Mx, mcx, hvx, hlcx, hcmx, hilx, _⟩ := hox.form
              rw [hM] at hvx hilx hlcx
              subst hvx
              clear hox hcmx hlcx
              go_wp2_with fail
              refine (covers_any a0 Mx len0 cap0 N mcx z0 (meetL z0 z1) _ (hr0.below hb11) hilx (by omega) (by omega) hwm).mono ?_
              rintro e w12 ⟨rfl, hx12⟩
              have hb12 := hb11.trans (hx12.mono hb11.size)
              rw [hq0]
              go_wp2_with fail
              refine (meet_any a0 a1 len0 cap0 len1 cap1 z0 z1 _ (hr0.below hb12) (hr1.below hb12) (by omega) (by omega) hw0).mono ?_
              rintro e w13 ⟨vy, rfl, hoy, hx13⟩
              have hb13 := hb12.trans (hx13.mono hb12.size)
              obtain ⟨My, mcy, hvy, hlcy, hcmy, hily, _⟩ := hoy.form
              rw [hM] at hvy hily hlcy
              subst hvy
              clear hoy hcmy hlcy
              go_wp2_with fail
              refine (covers_any a1 My len1 cap1 N mcy z1 (meetL z0 z1) _ (hr1.below hb13) hily (by omega) (by omega) hwm).mono ?_
              rintro e w14 ⟨rfl, hx14⟩
              have hb14 := hb13.trans (hx14.mono hb13.size)
              rw [hq1]
              go_wp2
              go_ret
              exact ⟨rfl, hb14⟩
          | true =>
            have hsame : decide (z0 = z1) = true := by rw [← hs, hab, hba]; rfl
            clear hs
            cases hbc : coversL z1 z2 with
            | false =>
              clear htr
              obtain ⟨ac, hac⟩ : ∃ ac, coversL z0 z2 = ac := ⟨_, rfl⟩
              go_enter Try.func6, Try.ntmps6
              go_wp2_with fail
              refine (refmay_b a0 len0 cap0 z0 _ (hr0.below hb0) (by omega) hw0.long).mono ?_
              rintro e w1 ⟨rfl, hx1⟩
              have hb1 := hb0.trans (hx1.mono hb0.size)
              rw [h0]
              go_wp2_with fail
              refine (refmay_b a1 len1 cap1 z1 _ (hr1.below hb1) (by omega) hw1.long).mono ?_
              rintro e w2 ⟨rfl, hx2⟩
              have hb2 := hb1.trans (hx2.mono hb1.size)
              rw [h1]
              go_wp2_with fail
              refine (refmay_b a2 len2 cap2 z2 _ (hr2.below hb2) (by omega) hw2.long).mono ?_
              rintro e w3 ⟨rfl, hx3⟩
              have hb3 := hb2.trans (hx3.mono hb2.size)
              rw [h2]
              go_wp2_with fail
              refine (covers_any a0 a1 len0 cap0 len1 cap1 z0 z1 _ (hr0.below hb3) (hr1.below hb3) (by omega) (by omega) hw1).mono ?_
              rintro e w4 ⟨rfl, hx4⟩
              have hb4 := hb3.trans (hx4.mono hb3.size)
              rw [hab]
              go_wp2_with fail
              refine (covers_any a1 a2 len1 cap1 len2 cap2 z1 z2 _ (hr1.below hb4) (hr2.below hb4) (by omega) (by omega) hw2).mono ?_
              rintro e w5 ⟨rfl, hx5⟩
              have hb5 := hb4.trans (hx5.mono hb4.size)
              rw [hbc]
              go_wp2_with fail
              refine (covers_any a0 a2 len0 cap0 len2 cap2 z0 z2 _ (hr0.below hb5) (hr2.below hb5) (by omega) (by omega) hw2).mono ?_
              rintro e w6 ⟨rfl, hx6⟩
              have hb6 := hb5.trans (hx6.mono hb5.size)
              go_wp2_with fail
              refine (lives_any _).mono ?_
              rintro e w7 ⟨rfl, hx7⟩
              have hb7 := hb6.trans (hx7.mono hb6.size)
              go_wp2_with fail
              refine (covers_any a0 a0 len0 cap0 len0 cap0 z0 z0 _ (hr0.below hb7) (hr0.below hb7) (by omega) (by omega) hw0).mono ?_
              rintro e w8 ⟨rfl, hx8⟩
              have hb8 := hb7.trans (hx8.mono hb7.size)
              rw [haa]
              go_wp2_with fail
              refine (covers_any a1 a0 len1 cap1 len0 cap0 z1 z0 _ (hr1.below hb8) (hr0.below hb8) (by omega) (by omega) hw0).mono ?_
              rintro e w9 ⟨rfl, hx9⟩
              have hb9 := hb8.trans (hx9.mono hb8.size)
              rw [hba]
              go_wp2_with fail
              refine (same_b a0 a1 len0 cap0 len1 cap1 z0 z1 _ (hr0.below hb9) (hr1.below hb9) (by omega)).mono ?_
              rintro e w10 ⟨rfl, hx10⟩
              have hb10 := hb9.trans (hx10.mono hb9.size)
              rw [hsame]
              go_wp2_with fail
              refine (meet_any a0 a1 len0 cap0 len1 cap1 z0 z1 _ (hr0.below hb10) (hr1.below hb10) (by omega) (by omega) hw0).mono ?_
              rintro e w11 ⟨vx, rfl, hox, hx11⟩
              have hb11 := hb10.trans (hx11.mono hb10.size)
              obtain ⟨Mx, mcx, hvx, hlcx, hcmx, hilx, _⟩ := hox.form
              rw [hM] at hvx hilx hlcx
              subst hvx
              clear hox hcmx hlcx
              go_wp2_with fail
              refine (covers_any a0 Mx len0 cap0 N mcx z0 (meetL z0 z1) _ (hr0.below hb11) hilx (by omega) (by omega) hwm).mono ?_
              rintro e w12 ⟨rfl, hx12⟩
              have hb12 := hb11.trans (hx12.mono hb11.size)
              rw [hq0]
              go_wp2_with fail
              refine (meet_any a0 a1 len0 cap0 len1 cap1 z0 z1 _ (hr0.below hb12) (hr1.below hb12) (by omega) (by omega) hw0).mono ?_
              rintro e w13 ⟨vy, rfl, hoy, hx13⟩
              have hb13 := hb12.trans (hx13.mono hb12.size)
              obtain ⟨My, mcy, hvy, hlcy, hcmy, hily, _⟩ := hoy.form
              rw [hM] at hvy hily hlcy
              subst hvy
              clear hoy hcmy hlcy
              go_wp2_with fail
              refine (covers_any a1 My len1 cap1 N mcy z1 (meetL z0 z1) _ (hr1.below hb13) hily (by omega) (by omega) hwm).mono ?_
              rintro e w14 ⟨rfl, hx14⟩
              have hb14 := hb13.trans (hx14.mono hb13.size)
              rw [hq1]
              go_wp2
              go_ret
              exact ⟨rfl, hb14⟩
            | true =>
              have hac : coversL z0 z2 = true := htr hab hbc
              clear htr
              go_enter Try.func6, Try.ntmps6
              go_wp2_with fail
              refine (refmay_b a0 len0 cap0 z0 _ (hr0.below hb0) (by omega) hw0.long).mono ?_
              rintro e w1 ⟨rfl, hx1⟩
              have hb1 := hb0.trans (hx1.mono hb0.size)
              rw [h0]
              go_wp2_with fail
              refine (refmay_b a1 len1 cap1 z1 _ (hr1.below hb1) (by omega) hw1.long).mono ?_
              rintro e w2 ⟨rfl, hx2⟩
              have hb2 := hb1.trans (hx2.mono hb1.size)
              rw [h1]
              go_wp2_with fail
              refine (refmay_b a2 len2 cap2 z2 _ (hr2.below hb2) (by omega) hw2.long).mono ?_
              rintro e w3 ⟨rfl, hx3⟩
              have hb3 := hb2.trans (hx3.mono hb2.size)
              rw [h2]
              go_wp2_with fail
              refine (covers_any a0 a1 len0 cap0 len1 cap1 z0 z1 _ (hr0.below hb3) (hr1.below hb3) (by omega) (by omega) hw1).mono ?_
              rintro e w4 ⟨rfl, hx4⟩
              have hb4 := hb3.trans (hx4.mono hb3.size)
              rw [hab]
              go_wp2_with fail
              refine (covers_any a1 a2 len1 cap1 len2 cap2 z1 z2 _ (hr1.below hb4) (hr2.below hb4) (by omega) (by omega) hw2).mono ?_
              rintro e w5 ⟨rfl, hx5⟩
              have hb5 := hb4.trans (hx5.mono hb4.size)
              rw [hbc]
              go_wp2_with fail
              refine (covers_any a0 a2 len0 cap0 len2 cap2 z0 z2 _ (hr0.below hb5) (hr2.below hb5) (by omega) (by omega) hw2).mono ?_
              rintro e w6 ⟨rfl, hx6⟩
              have hb6 := hb5.trans (hx6.mono hb5.size)
              rw [hac]
              go_wp2_with fail
              refine (lives_any _).mono ?_
              rintro e w7 ⟨rfl, hx7⟩
              have hb7 := hb6.trans (hx7.mono hb6.size)
              go_wp2_with fail
              refine (covers_any a0 a0 len0 cap0 len0 cap0 z0 z0 _ (hr0.below hb7) (hr0.below hb7) (by omega) (by omega) hw0).mono ?_
              rintro e w8 ⟨rfl, hx8⟩
              have hb8 := hb7.trans (hx8.mono hb7.size)
              rw [haa]
              go_wp2_with fail
              refine (covers_any a1 a0 len1 cap1 len0 cap0 z1 z0 _ (hr1.below hb8) (hr0.below hb8) (by omega) (by omega) hw0).mono ?_
              rintro e w9 ⟨rfl, hx9⟩
              have hb9 := hb8.trans (hx9.mono hb8.size)
              rw [hba]
              go_wp2_with fail
              refine (same_b a0 a1 len0 cap0 len1 cap1 z0 z1 _ (hr0.below hb9) (hr1.below hb9) (by omega)).mono ?_
              rintro e w10 ⟨rfl, hx10⟩
              have hb10 := hb9.trans (hx10.mono hb9.size)
              rw [hsame]
              go_wp2_with fail
              refine (meet_any a0 a1 len0 cap0 len1 cap1 z0 z1 _ (hr0.below hb10) (hr1.below hb10) (by omega) (by omega) hw0).mono ?_
              rintro e w11 ⟨vx, rfl, hox, hx11⟩
              have hb11 := hb10.trans (hx11.mono hb10.size)
              obtain ⟨Mx, mcx, hvx, hlcx, hcmx, hilx, _⟩ := hox.form
              rw [hM] at hvx hilx hlcx
              subst hvx
              clear hox hcmx hlcx
              go_wp2_with fail
              refine (covers_any a0 Mx len0 cap0 N mcx z0 (meetL z0 z1) _ (hr0.below hb11) hilx (by omega) (by omega) hwm).mono ?_
              rintro e w12 ⟨rfl, hx12⟩
              have hb12 := hb11.trans (hx12.mono hb11.size)
              rw [hq0]
              go_wp2_with fail
              refine (meet_any a0 a1 len0 cap0 len1 cap1 z0 z1 _ (hr0.below hb12) (hr1.below hb12) (by omega) (by omega) hw0).mono ?_
              rintro e w13 ⟨vy, rfl, hoy, hx13⟩
              have hb13 := hb12.trans (hx13.mono hb12.size)
              obtain ⟨My, mcy, hvy, hlcy, hcmy, hily, _⟩ := hoy.form
              rw [hM] at hvy hily hlcy
              subst hvy
              clear hoy hcmy hlcy
              go_wp2_with fail
              refine (covers_any a1 My len1 cap1 N mcy z1 (meetL z0 z1) _ (hr1.below hb13) hily (by omega) (by omega) hwm).mono ?_
              rintro e w14 ⟨rfl, hx14⟩
              have hb14 := hb13.trans (hx14.mono hb13.size)
              rw [hq1]
              go_wp2
              go_ret
              exact ⟨rfl, hb14⟩

namespace itemsOrderDone
open Go.ChangeShapes Go.WideShapes Go.ChangeAt
set_option maxRecDepth 100000 in
theorem lifted (os : Os) (started : os.Started) (H : Type) (enc : TypeId × Value → H) :
    ReturnsInHanded {} Try.checked os 6 .any (Rows.itemsOrderSpec.pre6 enc Try.prog Try.f6 Rows.itemsOrderRow.domain false) (Rows.itemsOrderSpec.post enc Try.prog Try.f6 false true false false) := by
  refine returnsInHanded_of_change_sized (C := Try.checked) own started (by kernel_rfl) Try.func6
    (ChangeSpec.witness6 (enc := enc) (C := Try.checked) false ⟨#[], #[Value.slice none 0 0, Value.slice none 0 0, Value.slice none 0 0], []⟩ 8 (by kernel_rfl) (by kernel_rfl) (by kernel_rfl) (by kernel_rfl)) ?_
  intro W base args ds gs before hval0 hW hcnd hsz0 _
  have hsz : (DataW.weightsEach Try.prog (Try.f6.params.toList ++ Rows.itemsOrderSpec.plain.varTypes Try.prog) (ds ++ gs)).all (· ≤ reachBytes) = true := hsz0
  clear hsz0
  have hval : ∀ (j : Nat) t v, Try.f6.params[j]? = some t → args[j]? = some v → Value.okWide Try.prog W .any base t v := hval0
  have hW' := hW
  obtain ⟨p, q, hA0, hV, rfl, hfz, hnd⟩ := hW
  have hA : DataW.TrodAll enc Try.prog W 0 (fun _ => true) true Try.f6.params.toList args.toList ds p := hA0
  rw [Try.params6] at hA hval hsz
  obtain ⟨v0, vs0, d0, ds0, p0, q0, hargs, rfl, rfl, h0, r0⟩ := trodAll_cons hA
  obtain ⟨v1, vs1, d1, ds1, p1, q1, rfl, rfl, rfl, h1, r1⟩ := trodAll_cons r0
  obtain ⟨v2, vs2, d2, ds2, p2, q2, rfl, rfl, rfl, h2, r2⟩ := trodAll_cons r1
  obtain ⟨rfl, rfl, rfl⟩ := trodAll_nil r2
  obtain rfl : args = #[v0, v1, v2] := by cases args; simp_all
  obtain ⟨rfl, rfl⟩ := trodVars_none hV
  obtain ⟨a0, len0, cap0, rfl⟩ := okWide_slice Try.underlying22 (hval 0 22 v0 rfl rfl)
  have k0 := h0
  have lt0 : ∀ x ∈ p0, x.block < W.heap.size := by obtain ⟨m, hm⟩ := k0; exact DataW.trod_lt m _ _ _ hm
  obtain ⟨z0, hr0, hw0, hc0, hm0, hd0⟩ := items_open h0
  have hl0 : cap0 * 24 ≤ 140737488351232 := by
    rcases hd0 with ⟨_, h⟩ | ⟨es, sp, rfl, h⟩
    · omega
    · have := sized_slice hsz (j := 0) (t := 22) (e := 28) rfl rfl Try.underlying22
      rw [bytes_item] at this
      simp only [reachBytes] at this
      omega
  obtain ⟨a1, len1, cap1, rfl⟩ := okWide_slice Try.underlying22 (hval 1 22 v1 rfl rfl)
  have k1 := h1
  have lt1 : ∀ x ∈ p1, x.block < W.heap.size := by obtain ⟨m, hm⟩ := k1; exact DataW.trod_lt m _ _ _ hm
  obtain ⟨z1, hr1, hw1, hc1, hm1, hd1⟩ := items_open h1
  have hl1 : cap1 * 24 ≤ 140737488351232 := by
    rcases hd1 with ⟨_, h⟩ | ⟨es, sp, rfl, h⟩
    · omega
    · have := sized_slice hsz (j := 1) (t := 22) (e := 28) rfl rfl Try.underlying22
      rw [bytes_item] at this
      simp only [reachBytes] at this
      omega
  obtain ⟨a2, len2, cap2, rfl⟩ := okWide_slice Try.underlying22 (hval 2 22 v2 rfl rfl)
  have k2 := h2
  have lt2 : ∀ x ∈ p2, x.block < W.heap.size := by obtain ⟨m, hm⟩ := k2; exact DataW.trod_lt m _ _ _ hm
  obtain ⟨z2, hr2, hw2, hc2, hm2, hd2⟩ := items_open h2
  have hl2 : cap2 * 24 ≤ 140737488351232 := by
    rcases hd2 with ⟨_, h⟩ | ⟨es, sp, rfl, h⟩
    · omega
    · have := sized_slice hsz (j := 2) (t := 22) (e := 28) rfl rfl Try.underlying22
      rw [bytes_item] at this
      simp only [reachBytes] at this
      omega
  clear hA0 hval0
  refine (itemsOrder_walk (w := W) a0 len0 cap0 z0 hr0 hw0 hc0 hm0 hl0 a1 len1 cap1 z1 hr1 hw1 hc1 hm1 hl1 a2 len2 cap2 z2 hr2 hw2 hc2 hm2 hl2).mono fun e W' ⟨he, bel⟩ => ?_
  subst he
  exact ⟨_, rfl, _, _, _, [], _, [], hW', trodAll_mk1 (shut_bool Try.underlying4 _), (trodAll_cons_mk (Below.trod laidOut (by kernel_rfl) (of_decide_eq_true (by kernel_rfl)) k0 bel lt0) (trodAll_cons_mk (Below.trod laidOut (by kernel_rfl) (of_decide_eq_true (by kernel_rfl)) k1 bel lt1) (trodAll_cons_mk (Below.trod laidOut (by kernel_rfl) (of_decide_eq_true (by kernel_rfl)) k2 bel lt2) trodAll_mk0))), rfl, bel.frame _, fun h => by cases h⟩

theorem over : Rows.itemsOrderRow.holds Try.pinned (OpenSpec.ofChange Rows.itemsOrderSpec) :=
  OpenClaim.holds_of_wide 6 Try.f6 rfl rfl rfl rfl rfl rfl rfl ⟨rfl, rfl, rfl, rfl, rfl⟩ rfl rfl rfl rfl rfl (by kernel_rfl) Try.func6 (by kernel_rfl)
    (of_decide_eq_true (by kernel_rfl)) (by unfold Func.isWrapper; first | (rw [if_pos (by decide +kernel)]; kernel_rfl) | (rw [if_neg (by decide +kernel)]; exact ⟨rfl, rfl⟩))
    (fun os started H enc _ => lifted os started H enc)

/-- The statement. -/
theorem proved : Rows.ItemsOrderSaid := over
end itemsOrderDone
end Go.Proofs.Yteebfnhapnjbjaa
