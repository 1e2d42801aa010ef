/- 'ItemsBoth' returns true for every input: the row of this law, proved. No condition. -/
import Derived.Test.YteebfnhapnjbjaaRNorm
import Derived.ProofKit
import Derived.OpenShut
import Derived.ShutString
import Derived.ChangeOld
import Derived.SizedLaws
namespace Go.Proofs.Yteebfnhapnjbjaa
open Go.RowKit
set_option linter.unusedVariables false
set_option linter.unusedSimpArgs false
theorem pos_left {f h : It → Int} {l : List It} (hh : ∀ x ∈ l, (if 0 < f x then some (x.1, f x) else none) = (if h x = 0 then none else some (x.1, h x))) : posL f l = leftL h l := fm_congr hh
theorem refmeet_any (A A' : Option Addr) (n c n' c' : Nat) (la lb : List It) (w : World) (hla : IL w A n la) (hlb : IL w A' n' lb) (hn : n * 24 ≤ 140737488355328) (hn' : n' ≤ 9223372036854775807) (ha : MY la) (hb : MY lb) :
    Calls Try.prog 28 #[.slice A n c, .slice A' n' c'] w fun e w' => ∃ v, e = .returned v ∧ OI w.heap.size w' v (meetL la lb) ∧ Below w.heap.size w w' := by
  have hm : meetL la lb = posL (fun x : It => min x.2 (ofL lb x.1)) la := by
    unfold meetL
    rw [MY.both ha hb]
    refine (pos_left fun x hx => ?_).symm
    have h1 := ha.num x hx
    have h2 := hb.nonneg x.1
    by_cases h0 : min x.2 (ofL lb x.1) = 0
    · rw [if_neg (by omega), if_pos h0]
    · rw [if_pos (by omega), if_neg h0]
  go_enter Try.func28, Try.ntmps28
  go_wp2_with fail
  refine (both_meet A A' n c n' c' la lb _ hla hlb hn hn').mono ?_
  rintro e w1 ⟨v, rfl, ho, hb1⟩
  go_wp2_with fail
  go_ret
  exact ⟨v, rfl, by rw [hm]; exact ho, hb1⟩
theorem refrest_any (A A' : Option Addr) (n c n' c' : Nat) (la lb : List It) (w : World) (hla : IL w A n la) (hlb : IL w A' n' lb) (hn : n * 24 ≤ 140737488355328) (hn' : n' ≤ 9223372036854775807) (ha : MY la) (hb : MY lb) :
    Calls Try.prog 27 #[.slice A n c, .slice A' n' c'] w fun e w' => ∃ v, e = .returned v ∧ OI w.heap.size w' v (restL la lb) ∧ Below w.heap.size w w' := by
  have hm : restL la lb = posL (fun x : It => wrap64 (x.2 - ofL lb x.1)) la := by
    unfold restL
    rw [MY.both ha hb]
    refine (pos_left fun x hx => ?_).symm
    by_cases h0 : 0 < wrap64 (x.2 - ofL lb x.1)
    · rw [if_pos h0, if_neg (by omega)]
      congr 2
      omega
    · rw [if_neg h0, if_pos (by omega)]
  go_enter Try.func27, Try.ntmps27
  go_wp2_with fail
  refine (both_rest A A' n c n' c' la lb _ hla hlb hn hn').mono ?_
  rintro e w1 ⟨v, rfl, ho, hb1⟩
  go_wp2_with fail
  go_ret
  exact ⟨v, rfl, by rw [hm]; exact ho, hb1⟩
theorem same_self (A A' : Option Addr) (n c n' c' : Nat) (l : List It) (w : World) (hl : IL w A n l) (hl' : IL w A' n' l) (hn : n ≤ 9223372036854775807) :
    Calls Try.prog 14 #[.slice A n c, .slice A' n' c'] w fun e w' => e = .returned (.bool true) ∧ Below w.heap.size w w' :=
  (same_b A A' n c n' c' l l w hl hl' hn).mono fun e w' ⟨h, q⟩ => ⟨by rw [h, decide_eq_true rfl], q⟩
set_option maxRecDepth 100000 in
set_option maxHeartbeats 12800000 in
theorem itemsBoth_walk {w : World} (a0 : Option Addr) (len0 cap0 : Nat) (z0 : List It) (hr0 : IL w a0 len0 z0) (hw0 : WL z0) (hc0 : len0 ≤ cap0) (hm0 : cap0 ≤ 9223372036854775807) (hl0 : cap0 * 24 ≤ 140737488351232) (a1 : Option Addr) (len1 cap1 : Nat) (z1 : List It) (hr1 : IL w a1 len1 z1) (hw1 : WL z1) (hc1 : len1 ≤ cap1) (hm1 : cap1 ≤ 9223372036854775807) (hl1 : cap1 * 24 ≤ 140737488351232) :
    Calls Try.prog 4 #[.slice a0 len0 cap0, .slice a1 len1 cap1] w fun e w' => e = .returned (.bool true) ∧ Below w.heap.size w w' := by
  have hb0 := below_same' w
  by_cases g0 : 100 < len0
  · have g0' : (100 : Int) < (len0 : Int) := by omega
    go_enter Try.func4, Try.ntmps4
    go_wp2_with fail
    refine (lives_any _).mono ?_
    rintro e w1 ⟨rfl, hx1⟩
    have hb1 := hb0.trans (hx1.mono hb0.size)
    go_wp2
    go_ret
    exact ⟨rfl, hb1⟩
  have g0' : ¬ (100 : Int) < (len0 : Int) := by omega
  by_cases g1 : 100 < len1
  · have g1' : (100 : Int) < (len1 : Int) := by omega
    go_enter Try.func4, Try.ntmps4
    go_wp2_with fail
    refine (lives_any _).mono ?_
    rintro e w1 ⟨rfl, hx1⟩
    have hb1 := hb0.trans (hx1.mono hb0.size)
    go_wp2
    go_ret
    exact ⟨rfl, hb1⟩
  have g1' : ¬ (100 : Int) < (len1 : Int) := by omega
  have hN0 : ([] : List It).length = 0 := rfl
  cases hmm : (mayL z0 && mayL z1) with
  | false =>
    have hpE : plusE z0 z1 = 60 := by unfold plusE; rw [hmm]
    have hpR : plusR z0 z1 = [] := by unfold plusR; rw [hmm]; rfl
    have hmE : minusE z0 z1 = 60 := by unfold minusE; rw [hmm]
    have hmR : minusR z0 z1 = [] := by unfold minusR; rw [hmE]; rfl
    have hxR : meetL z0 z1 = [] := by unfold meetL; rw [hmm]; rfl
    have hyR : restL z0 z1 = [] := by unfold restL; rw [hmm]; rfl
    have hcR : coversL z0 z1 = false := by unfold coversL; rw [hmm]; rfl
    cases h0 : mayL z0 with
    | false =>
      clear hmm
      go_enter Try.func4, Try.ntmps4
      go_wp2_with fail
      refine (plus_any a0 a1 len0 cap0 len1 cap1 z0 z1 _ (hr0.below hb0) (hr1.below hb0) (by omega) (by omega) hw0 hw1).mono ?_
      rintro e w1 ⟨vp, rfl, hop, hx1⟩
      have hb1 := hb0.trans (hx1.mono hb0.size)
      rw [hpE]
      rw [hpR] at hop
      obtain ⟨Mp, mcp, hvp, hlcp, hcmp, hilp1, _⟩ := hop.form
      rw [hN0] at hvp hilp1 hlcp
      subst hvp
      clear hop hcmp hlcp
      go_wp2_with fail
      refine (minus_any a0 a1 len0 cap0 len1 cap1 z0 z1 _ (hr0.below hb1) (hr1.below hb1) (by omega) (by omega) hw0 hw1).mono ?_
      rintro e w2 ⟨vm, rfl, hom, hx2⟩
      have hb2 := hb1.trans (hx2.mono hb1.size)
      have hilp2 := hilp1.below hx2
      rw [hmE]
      rw [hmR] at hom
      obtain ⟨Mm, mcm, hvm, hlcm, hcmm, hilm2, _⟩ := hom.form
      rw [hN0] at hvm hilm2 hlcm
      subst hvm
      clear hom hcmm hlcm
      go_wp2_with fail
      refine (meet_any a0 a1 len0 cap0 len1 cap1 z0 z1 _ (hr0.below hb2) (hr1.below hb2) (by omega) (by omega) hw0).mono ?_
      rintro e w3 ⟨vx, rfl, hox, hx3⟩
      have hb3 := hb2.trans (hx3.mono hb2.size)
      have hilp3 := hilp2.below hx3
      have hilm3 := hilm2.below hx3
      rw [hxR] at hox
      obtain ⟨Mx, mcx, hvx, hlcx, hcmx, hilx3, _⟩ := hox.form
      rw [hN0] at hvx hilx3 hlcx
      subst hvx
      clear hox hcmx hlcx
      go_wp2_with fail
      refine (rest_any a0 a1 len0 cap0 len1 cap1 z0 z1 _ (hr0.below hb3) (hr1.below hb3) (by omega) (by omega) hw0).mono ?_
      rintro e w4 ⟨vy, rfl, hoy, hx4⟩
      have hb4 := hb3.trans (hx4.mono hb3.size)
      have hilp4 := hilp3.below hx4
      have hilm4 := hilm3.below hx4
      have hilx4 := hilx3.below hx4
      rw [hyR] at hoy
      obtain ⟨My, mcy, hvy, hlcy, hcmy, hily4, _⟩ := hoy.form
      rw [hN0] at hvy hily4 hlcy
      subst hvy
      clear hoy hcmy hlcy
      go_wp2_with fail
      refine (covers_any a0 a1 len0 cap0 len1 cap1 z0 z1 _ (hr0.below hb4) (hr1.below hb4) (by omega) (by omega) hw1).mono ?_
      rintro e w5 ⟨rfl, hx5⟩
      have hb5 := hb4.trans (hx5.mono hb4.size)
      rw [hcR]
      have hilp5 := hilp4.below hx5
      have hilm5 := hilm4.below hx5
      have hilx5 := hilx4.below hx5
      have hily5 := hily4.below hx5
      go_wp2_with fail
      refine (lives_any _).mono ?_
      rintro e w6 ⟨rfl, hx6⟩
      have hb6 := hb5.trans (hx6.mono hb5.size)
      have hilp6 := hilp5.below hx6
      have hilm6 := hilm5.below hx6
      have hilx6 := hilx5.below hx6
      have hily6 := hily5.below hx6
      go_wp2_with fail
      refine (refmay_b a0 len0 cap0 z0 _ (hr0.below hb6) (by omega) hw0.long).mono ?_
      rintro e w7 ⟨rfl, hx7⟩
      have hb7 := hb6.trans (hx7.mono hb6.size)
      rw [h0]
      have hilp7 := hilp6.below hx7
      have hilm7 := hilm6.below hx7
      have hilx7 := hilx6.below hx7
      have hily7 := hily6.below hx7
      go_wp2
      go_ret
      exact ⟨rfl, hb7⟩
    | true =>
      have h1 : mayL z1 = false := by rw [h0] at hmm; simpa using hmm
      clear hmm
      go_enter Try.func4, Try.ntmps4
      go_wp2_with fail
      refine (plus_any a0 a1 len0 cap0 len1 cap1 z0 z1 _ (hr0.below hb0) (hr1.below hb0) (by omega) (by omega) hw0 hw1).mono ?_
      rintro e w1 ⟨vp, rfl, hop, hx1⟩
      have hb1 := hb0.trans (hx1.mono hb0.size)
      rw [hpE]
      rw [hpR] at hop
      obtain ⟨Mp, mcp, hvp, hlcp, hcmp, hilp1, _⟩ := hop.form
      rw [hN0] at hvp hilp1 hlcp
      subst hvp
      clear hop hcmp hlcp
      go_wp2_with fail
      refine (minus_any a0 a1 len0 cap0 len1 cap1 z0 z1 _ (hr0.below hb1) (hr1.below hb1) (by omega) (by omega) hw0 hw1).mono ?_
      rintro e w2 ⟨vm, rfl, hom, hx2⟩
      have hb2 := hb1.trans (hx2.mono hb1.size)
      have hilp2 := hilp1.below hx2
      rw [hmE]
      rw [hmR] at hom
      obtain ⟨Mm, mcm, hvm, hlcm, hcmm, hilm2, _⟩ := hom.form
      rw [hN0] at hvm hilm2 hlcm
      subst hvm
      clear hom hcmm hlcm
      go_wp2_with fail
      refine (meet_any a0 a1 len0 cap0 len1 cap1 z0 z1 _ (hr0.below hb2) (hr1.below hb2) (by omega) (by omega) hw0).mono ?_
      rintro e w3 ⟨vx, rfl, hox, hx3⟩
      have hb3 := hb2.trans (hx3.mono hb2.size)
      have hilp3 := hilp2.below hx3
      have hilm3 := hilm2.below hx3
      rw [hxR] at hox
      obtain ⟨Mx, mcx, hvx, hlcx, hcmx, hilx3, _⟩ := hox.form
      rw [hN0] at hvx hilx3 hlcx
      subst hvx
      clear hox hcmx hlcx
      go_wp2_with fail
      refine (rest_any a0 a1 len0 cap0 len1 cap1 z0 z1 _ (hr0.below hb3) (hr1.below hb3) (by omega) (by omega) hw0).mono ?_
      rintro e w4 ⟨vy, rfl, hoy, hx4⟩
      have hb4 := hb3.trans (hx4.mono hb3.size)
      have hilp4 := hilp3.below hx4
      have hilm4 := hilm3.below hx4
      have hilx4 := hilx3.below hx4
      rw [hyR] at hoy
      obtain ⟨My, mcy, hvy, hlcy, hcmy, hily4, _⟩ := hoy.form
      rw [hN0] at hvy hily4 hlcy
      subst hvy
      clear hoy hcmy hlcy
      go_wp2_with fail
      refine (covers_any a0 a1 len0 cap0 len1 cap1 z0 z1 _ (hr0.below hb4) (hr1.below hb4) (by omega) (by omega) hw1).mono ?_
      rintro e w5 ⟨rfl, hx5⟩
      have hb5 := hb4.trans (hx5.mono hb4.size)
      rw [hcR]
      have hilp5 := hilp4.below hx5
      have hilm5 := hilm4.below hx5
      have hilx5 := hilx4.below hx5
      have hily5 := hily4.below hx5
      go_wp2_with fail
      refine (lives_any _).mono ?_
      rintro e w6 ⟨rfl, hx6⟩
      have hb6 := hb5.trans (hx6.mono hb5.size)
      have hilp6 := hilp5.below hx6
      have hilm6 := hilm5.below hx6
      have hilx6 := hilx5.below hx6
      have hily6 := hily5.below hx6
      go_wp2_with fail
      refine (refmay_b a0 len0 cap0 z0 _ (hr0.below hb6) (by omega) hw0.long).mono ?_
      rintro e w7 ⟨rfl, hx7⟩
      have hb7 := hb6.trans (hx7.mono hb6.size)
      rw [h0]
      have hilp7 := hilp6.below hx7
      have hilm7 := hilm6.below hx7
      have hilx7 := hilx6.below hx7
      have hily7 := hily6.below hx7
      go_wp2_with fail
      refine (refmay_b a1 len1 cap1 z1 _ (hr1.below hb7) (by omega) hw1.long).mono ?_
      rintro e w8 ⟨rfl, hx8⟩
      have hb8 := hb7.trans (hx8.mono hb7.size)
      rw [h1]
      have hilp8 := hilp7.below hx8
      have hilm8 := hilm7.below hx8
      have hilx8 := hilx7.below hx8
      have hily8 := hily7.below hx8
      go_wp2
      go_ret
      exact ⟨rfl, hb8⟩
  | true =>
    obtain ⟨h0, h1⟩ := (Bool.and_eq_true _ _ ▸ hmm : mayL z0 = true ∧ mayL z1 = true)
    have my0 := MY.of_ h0
    have my1 := MY.of_ h1
    have hpE := plusE_norm my0 my1
    have hpR := plusR_norm my0 my1
    have hcv : coversL z0 z1 = decide ((restL z1 z0).length = 0) := by unfold coversL; rw [hmm]; rfl
    obtain ⟨NP, hNP⟩ : ∃ N, (normR (z0 ++ z1)).length = N := ⟨_, rfl⟩
    obtain ⟨NX, hNX⟩ : ∃ N, (meetL z0 z1).length = N := ⟨_, rfl⟩
    obtain ⟨NY, hNY⟩ : ∃ N, (restL z0 z1).length = N := ⟨_, rfl⟩
    obtain ⟨NR, hNR⟩ : ∃ N, (restL z1 z0).length = N := ⟨_, rfl⟩
    obtain ⟨NB, hNB⟩ : ∃ N, (z0 ++ z1).length = N := ⟨_, rfl⟩
    obtain ⟨E, hE⟩ : ∃ E, normE (z0 ++ z1) = E := ⟨_, rfl⟩
    have hNX16 : NX ≤ 16 := by rw [← hNX]; exact (MY.meet my0 my1).len
    have hNY16 : NY ≤ 16 := by rw [← hNY]; exact (MY.rest my0 my1).len
    have hNB200 : NB ≤ 200 := by rw [← hNB, List.length_append, hr0.len, hr1.len]; omega
    have hNP16 : NP ≤ 16 := by
      rw [← hNP]
      by_cases he : normE (z0 ++ z1) = 0
      · have : normR (z0 ++ z1) = rowsN (z0 ++ z1) := by unfold normR; rw [he]; rfl
        rw [this]
        exact (normE_zero he).2.2
      · unfold normR
        split <;> simp_all
    rw [hNR] at hcv
    by_cases hz : NR = 0
    · have hcR : coversL z0 z1 = true := by rw [hcv]; exact decide_eq_true hz
      have hmE : minusE z0 z1 = 0 := by unfold minusE; rw [hmm, hcR]
      have hmR : minusR z0 z1 = restL z0 z1 := by unfold minusR; rw [hmE]; rfl
      have hNM := hNY
      subst hz
      clear hcv hmm hE
      go_enter Try.func4, Try.ntmps4
      go_wp2_with fail
      refine (plus_any a0 a1 len0 cap0 len1 cap1 z0 z1 _ (hr0.below hb0) (hr1.below hb0) (by omega) (by omega) hw0 hw1).mono ?_
      rintro e w1 ⟨vp, rfl, hop, hx1⟩
      have hb1 := hb0.trans (hx1.mono hb0.size)
      rw [hpE]
      rw [hpR] at hop
      obtain ⟨Mp, mcp, hvp, hlcp, hcmp, hilp1, _⟩ := hop.form
      rw [hNP] at hvp hilp1 hlcp
      subst hvp
      clear hop hcmp hlcp
      go_wp2_with fail
      refine (minus_any a0 a1 len0 cap0 len1 cap1 z0 z1 _ (hr0.below hb1) (hr1.below hb1) (by omega) (by omega) hw0 hw1).mono ?_
      rintro e w2 ⟨vm, rfl, hom, hx2⟩
      have hb2 := hb1.trans (hx2.mono hb1.size)
      have hilp2 := hilp1.below hx2
      rw [hmE]
      rw [hmR] at hom
      obtain ⟨Mm, mcm, hvm, hlcm, hcmm, hilm2, _⟩ := hom.form
      rw [hNM] at hvm hilm2 hlcm
      subst hvm
      clear hom hcmm hlcm
      go_wp2_with fail
      refine (meet_any a0 a1 len0 cap0 len1 cap1 z0 z1 _ (hr0.below hb2) (hr1.below hb2) (by omega) (by omega) hw0).mono ?_
      rintro e w3 ⟨vx, rfl, hox, hx3⟩
      have hb3 := hb2.trans (hx3.mono hb2.size)
      have hilp3 := hilp2.below hx3
      have hilm3 := hilm2.below hx3
      obtain ⟨Mx, mcx, hvx, hlcx, hcmx, hilx3, _⟩ := hox.form
      rw [hNX] at hvx hilx3 hlcx
      subst hvx
      clear hox hcmx hlcx
      go_wp2_with fail
      refine (rest_any a0 a1 len0 cap0 len1 cap1 z0 z1 _ (hr0.below hb3) (hr1.below hb3) (by omega) (by omega) hw0).mono ?_
      rintro e w4 ⟨vy, rfl, hoy, hx4⟩
      have hb4 := hb3.trans (hx4.mono hb3.size)
      have hilp4 := hilp3.below hx4
      have hilm4 := hilm3.below hx4
      have hilx4 := hilx3.below hx4
      obtain ⟨My, mcy, hvy, hlcy, hcmy, hily4, _⟩ := hoy.form
      rw [hNY] at hvy hily4 hlcy
      subst hvy
      clear hoy hcmy hlcy
      go_wp2_with fail
      refine (covers_any a0 a1 len0 cap0 len1 cap1 z0 z1 _ (hr0.below hb4) (hr1.below hb4) (by omega) (by omega) hw1).mono ?_
      rintro e w5 ⟨rfl, hx5⟩
      have hb5 := hb4.trans (hx5.mono hb4.size)
      rw [hcR]
      have hilp5 := hilp4.below hx5
      have hilm5 := hilm4.below hx5
      have hilx5 := hilx4.below hx5
      have hily5 := hily4.below hx5
      go_wp2_with fail
      refine (lives_any _).mono ?_
      rintro e w6 ⟨rfl, hx6⟩
      have hb6 := hb5.trans (hx6.mono hb5.size)
      have hilp6 := hilp5.below hx6
      have hilm6 := hilm5.below hx6
      have hilx6 := hilx5.below hx6
      have hily6 := hily5.below hx6
      go_wp2_with fail
      refine (refmay_b a0 len0 cap0 z0 _ (hr0.below hb6) (by omega) hw0.long).mono ?_
      rintro e w7 ⟨rfl, hx7⟩
      have hb7 := hb6.trans (hx7.mono hb6.size)
      rw [h0]
      have hilp7 := hilp6.below hx7
      have hilm7 := hilm6.below hx7
      have hilx7 := hilx6.below hx7
      have hily7 := hily6.below hx7
      go_wp2_with fail
      refine (refmay_b a1 len1 cap1 z1 _ (hr1.below hb7) (by omega) hw1.long).mono ?_
      rintro e w8 ⟨rfl, hx8⟩
      have hb8 := hb7.trans (hx8.mono hb7.size)
      rw [h1]
      have hilp8 := hilp7.below hx8
      have hilm8 := hilm7.below hx8
      have hilx8 := hilx7.below hx8
      have hily8 := hily7.below hx8
      go_wp2_with (first | (at_builtin; refine wpAppI rfl _ _ rfl w8.heap.size _ [] rfl (OI.made w8.heap.size w8 (Nat.le_refl _)) a0 len0 cap0 z0 rfl ((hr0.below hb8).alloc _) hr0.none_zero (by simp; omega) (by simp) ?_; rintro va wa hoa ka _; rw [List.nil_append] at hoa; have hxa : Below w8.heap.size w8 wa := ((Below.refl w8.heap.size w8).alloc (Nat.le_refl _) (.cells #[] 28)).trans (ka.below (by simp) (own_lt rfl)); have hba := hb8.trans (hxa.mono hb8.size)) | (at_builtin; refine wpAppI rfl _ _ rfl w8.heap.size va z0 rfl hoa a1 len1 cap1 z1 rfl (hr1.below hba) hr1.none_zero (by rw [hr0.len]; omega) hxa.size ?_; rintro vb w9 hob kb _; have hx9 := hxa.trans (kb.below hxa.size (fun j hj e => by have := (hoa.lt j e).1; omega)); have hb9 := hb8.trans (hx9.mono hb8.size); obtain ⟨Mb, mcb, hvb, hlcb, hcmb, hilb, _⟩ := hob.form; rw [hNB] at hvb hilb; subst hvb))
      have hilp9 := hilp8.below hx9
      have hilm9 := hilm8.below hx9
      have hilx9 := hilx8.below hx9
      have hily9 := hily8.below hx9
      go_wp2_with fail
      refine (refnorm_any Mb NB mcb (z0 ++ z1) _ hilb (by omega) (hw0.app hw1).long).mono ?_
      rintro e w10 ⟨vq, rfl, hoq, hx10⟩
      have hb10 := hb9.trans (hx10.mono hb9.size)
      have hilp10 := hilp9.below hx10
      have hilm10 := hilm9.below hx10
      have hilx10 := hilx9.below hx10
      have hily10 := hily9.below hx10
      obtain ⟨Mq, mcq, hvq, hlcq, hcmq, hilq10, _⟩ := hoq.form
      rw [hNP] at hvq hilq10 hlcq
      subst hvq
      clear hoq hcmq hlcq
      go_wp2_with fail
      refine (refrest_any a1 a0 len1 cap1 len0 cap0 z1 z0 _ (hr1.below hb10) (hr0.below hb10) (by omega) (by omega) my1 my0).mono ?_
      rintro e w11 ⟨vr, rfl, hor, hx11⟩
      have hb11 := hb10.trans (hx11.mono hb10.size)
      have hilp11 := hilp10.below hx11
      have hilm11 := hilm10.below hx11
      have hilx11 := hilx10.below hx11
      have hily11 := hily10.below hx11
      have hilq11 := hilq10.below hx11
      obtain ⟨Mr, mcr, hvr, hlcr, hcmr, hilr11, _⟩ := hor.form
      rw [hNR] at hvr hilr11 hlcr
      subst hvr
      clear hor hcmr hlcr
      go_wp2_with fail
      refine (same_self Mp Mq NP mcp NP mcq (normR (z0 ++ z1)) _ hilp11 hilq11 (by omega)).mono ?_
      rintro e w12 ⟨rfl, hx12⟩
      have hb12 := hb11.trans (hx12.mono hb11.size)
      have hilp12 := hilp11.below hx12
      have hilm12 := hilm11.below hx12
      have hilx12 := hilx11.below hx12
      have hily12 := hily11.below hx12
      have hilq12 := hilq11.below hx12
      have hilr12 := hilr11.below hx12
      go_wp2_with fail
      refine (refmeet_any a0 a1 len0 cap0 len1 cap1 z0 z1 _ (hr0.below hb12) (hr1.below hb12) (by omega) (by omega) my0 my1).mono ?_
      rintro e w13 ⟨vs, rfl, hos, hx13⟩
      have hb13 := hb12.trans (hx13.mono hb12.size)
      have hilp13 := hilp12.below hx13
      have hilm13 := hilm12.below hx13
      have hilx13 := hilx12.below hx13
      have hily13 := hily12.below hx13
      have hilq13 := hilq12.below hx13
      have hilr13 := hilr12.below hx13
      obtain ⟨Ms, mcs, hvs, hlcs, hcms, hils13, _⟩ := hos.form
      rw [hNX] at hvs hils13 hlcs
      subst hvs
      clear hos hcms hlcs
      go_wp2_with fail
      refine (same_self Mx Ms NX mcx NX mcs (meetL z0 z1) _ hilx13 hils13 (by omega)).mono ?_
      rintro e w14 ⟨rfl, hx14⟩
      have hb14 := hb13.trans (hx14.mono hb13.size)
      have hilp14 := hilp13.below hx14
      have hilm14 := hilm13.below hx14
      have hilx14 := hilx13.below hx14
      have hily14 := hily13.below hx14
      have hilq14 := hilq13.below hx14
      have hilr14 := hilr13.below hx14
      have hils14 := hils13.below hx14
      go_wp2_with fail
      refine (refrest_any a0 a1 len0 cap0 len1 cap1 z0 z1 _ (hr0.below hb14) (hr1.below hb14) (by omega) (by omega) my0 my1).mono ?_
      rintro e w15 ⟨vt, rfl, hot, hx15⟩
      have hb15 := hb14.trans (hx15.mono hb14.size)
      have hilp15 := hilp14.below hx15
      have hilm15 := hilm14.below hx15
      have hilx15 := hilx14.below hx15
      have hily15 := hily14.below hx15
      have hilq15 := hilq14.below hx15
      have hilr15 := hilr14.below hx15
      have hils15 := hils14.below hx15
      obtain ⟨Mt, mct, hvt, hlct, hcmt, hilt15, _⟩ := hot.form
      rw [hNY] at hvt hilt15 hlct
      subst hvt
      clear hot hcmt hlct
      go_wp2_with fail
      refine (same_self My Mt NY mcy NY mct (restL z0 z1) _ hily15 hilt15 (by omega)).mono ?_
      rintro e w16 ⟨rfl, hx16⟩
      have hb16 := hb15.trans (hx16.mono hb15.size)
      have hilp16 := hilp15.below hx16
      have hilm16 := hilm15.below hx16
      have hilx16 := hilx15.below hx16
      have hily16 := hily15.below hx16
      have hilq16 := hilq15.below hx16
      have hilr16 := hilr15.below hx16
      have hils16 := hils15.below hx16
      have hilt16 := hilt15.below hx16
      go_wp2_with fail
      refine (refrest_any a0 a1 len0 cap0 len1 cap1 z0 z1 _ (hr0.below hb16) (hr1.below hb16) (by omega) (by omega) my0 my1).mono ?_
      rintro e w17 ⟨vu, rfl, hou, hx17⟩
      have hb17 := hb16.trans (hx17.mono hb16.size)
      have hilp17 := hilp16.below hx17
      have hilm17 := hilm16.below hx17
      have hilx17 := hilx16.below hx17
      have hily17 := hily16.below hx17
      have hilq17 := hilq16.below hx17
      have hilr17 := hilr16.below hx17
      have hils17 := hils16.below hx17
      have hilt17 := hilt16.below hx17
      obtain ⟨Mu, mcu, hvu, hlcu, hcmu, hilu17, _⟩ := hou.form
      rw [hNY] at hvu hilu17 hlcu
      subst hvu
      clear hou hcmu hlcu
      go_wp2_with fail
      refine (same_self Mm Mu NY mcm NY mcu (restL z0 z1) _ hilm17 hilu17 (by omega)).mono ?_
      rintro e w18 ⟨rfl, hx18⟩
      have hb18 := hb17.trans (hx18.mono hb17.size)
      have hilp18 := hilp17.below hx18
      have hilm18 := hilm17.below hx18
      have hilx18 := hilx17.below hx18
      have hily18 := hily17.below hx18
      have hilq18 := hilq17.below hx18
      have hilr18 := hilr17.below hx18
      have hils18 := hils17.below hx18
      have hilt18 := hilt17.below hx18
      have hilu18 := hilu17.below hx18
      go_wp2
      go_ret
      exact ⟨rfl, hb18⟩
    · have hcR : coversL z0 z1 = false := by rw [hcv]; exact decide_eq_false hz
      have hmE : minusE z0 z1 = 51 := by unfold minusE; rw [hmm, hcR]
      have hmR : minusR z0 z1 = [] := by unfold minusR; rw [hmE]; rfl
      have hNM := hN0
      have hzb : ((NR : Int) == 0) = false := beq_eq_false_iff_ne.2 (by omega)
      have hzn : (NR == 0) = false := beq_eq_false_iff_ne.2 hz
      clear hcv hmm hE
      go_enter Try.func4, Try.ntmps4
      go_wp2_with fail
      refine (plus_any a0 a1 len0 cap0 len1 cap1 z0 z1 _ (hr0.below hb0) (hr1.below hb0) (by omega) (by omega) hw0 hw1).mono ?_
      rintro e w1 ⟨vp, rfl, hop, hx1⟩
      have hb1 := hb0.trans (hx1.mono hb0.size)
      rw [hpE]
      rw [hpR] at hop
      obtain ⟨Mp, mcp, hvp, hlcp, hcmp, hilp1, _⟩ := hop.form
      rw [hNP] at hvp hilp1 hlcp
      subst hvp
      clear hop hcmp hlcp
      go_wp2_with fail
      refine (minus_any a0 a1 len0 cap0 len1 cap1 z0 z1 _ (hr0.below hb1) (hr1.below hb1) (by omega) (by omega) hw0 hw1).mono ?_
      rintro e w2 ⟨vm, rfl, hom, hx2⟩
      have hb2 := hb1.trans (hx2.mono hb1.size)
      have hilp2 := hilp1.below hx2
      rw [hmE]
      rw [hmR] at hom
      obtain ⟨Mm, mcm, hvm, hlcm, hcmm, hilm2, _⟩ := hom.form
      rw [hNM] at hvm hilm2 hlcm
      subst hvm
      clear hom hcmm hlcm
      go_wp2_with fail
      refine (meet_any a0 a1 len0 cap0 len1 cap1 z0 z1 _ (hr0.below hb2) (hr1.below hb2) (by omega) (by omega) hw0).mono ?_
      rintro e w3 ⟨vx, rfl, hox, hx3⟩
      have hb3 := hb2.trans (hx3.mono hb2.size)
      have hilp3 := hilp2.below hx3
      have hilm3 := hilm2.below hx3
      obtain ⟨Mx, mcx, hvx, hlcx, hcmx, hilx3, _⟩ := hox.form
      rw [hNX] at hvx hilx3 hlcx
      subst hvx
      clear hox hcmx hlcx
      go_wp2_with fail
      refine (rest_any a0 a1 len0 cap0 len1 cap1 z0 z1 _ (hr0.below hb3) (hr1.below hb3) (by omega) (by omega) hw0).mono ?_
      rintro e w4 ⟨vy, rfl, hoy, hx4⟩
      have hb4 := hb3.trans (hx4.mono hb3.size)
      have hilp4 := hilp3.below hx4
      have hilm4 := hilm3.below hx4
      have hilx4 := hilx3.below hx4
      obtain ⟨My, mcy, hvy, hlcy, hcmy, hily4, _⟩ := hoy.form
      rw [hNY] at hvy hily4 hlcy
      subst hvy
      clear hoy hcmy hlcy
      go_wp2_with fail
      refine (covers_any a0 a1 len0 cap0 len1 cap1 z0 z1 _ (hr0.below hb4) (hr1.below hb4) (by omega) (by omega) hw1).mono ?_
      rintro e w5 ⟨rfl, hx5⟩
      have hb5 := hb4.trans (hx5.mono hb4.size)
      rw [hcR]
      have hilp5 := hilp4.below hx5
      have hilm5 := hilm4.below hx5
      have hilx5 := hilx4.below hx5
      have hily5 := hily4.below hx5
      go_wp2_with fail
      refine (lives_any _).mono ?_
      rintro e w6 ⟨rfl, hx6⟩
      have hb6 := hb5.trans (hx6.mono hb5.size)
      have hilp6 := hilp5.below hx6
      have hilm6 := hilm5.below hx6
      have hilx6 := hilx5.below hx6
      have hily6 := hily5.below hx6
      go_wp2_with fail
      refine (refmay_b a0 len0 cap0 z0 _ (hr0.below hb6) (by omega) hw0.long).mono ?_
      rintro e w7 ⟨rfl, hx7⟩
      have hb7 := hb6.trans (hx7.mono hb6.size)
      rw [h0]
      have hilp7 := hilp6.below hx7
      have hilm7 := hilm6.below hx7
      have hilx7 := hilx6.below hx7
      have hily7 := hily6.below hx7
      go_wp2_with fail
      refine (refmay_b a1 len1 cap1 z1 _ (hr1.below hb7) (by omega) hw1.long).mono ?_
      rintro e w8 ⟨rfl, hx8⟩
      have hb8 := hb7.trans (hx8.mono hb7.size)
      rw [h1]
      have hilp8 := hilp7.below hx8
      have hilm8 := hilm7.below hx8
      have hilx8 := hilx7.below hx8
      have hily8 := hily7.below hx8
      go_wp2_with (first | (at_builtin; refine wpAppI rfl _ _ rfl w8.heap.size _ [] rfl (OI.made w8.heap.size w8 (Nat.le_refl _)) a0 len0 cap0 z0 rfl ((hr0.below hb8).alloc _) hr0.none_zero (by simp; omega) (by simp) ?_; rintro va wa hoa ka _; rw [List.nil_append] at hoa; have hxa : Below w8.heap.size w8 wa := ((Below.refl w8.heap.size w8).alloc (Nat.le_refl _) (.cells #[] 28)).trans (ka.below (by simp) (own_lt rfl)); have hba := hb8.trans (hxa.mono hb8.size)) | (at_builtin; refine wpAppI rfl _ _ rfl w8.heap.size va z0 rfl hoa a1 len1 cap1 z1 rfl (hr1.below hba) hr1.none_zero (by rw [hr0.len]; omega) hxa.size ?_; rintro vb w9 hob kb _; have hx9 := hxa.trans (kb.below hxa.size (fun j hj e => by have := (hoa.lt j e).1; omega)); have hb9 := hb8.trans (hx9.mono hb8.size); obtain ⟨Mb, mcb, hvb, hlcb, hcmb, hilb, _⟩ := hob.form; rw [hNB] at hvb hilb; subst hvb))
      have hilp9 := hilp8.below hx9
      have hilm9 := hilm8.below hx9
      have hilx9 := hilx8.below hx9
      have hily9 := hily8.below hx9
      go_wp2_with fail
      refine (refnorm_any Mb NB mcb (z0 ++ z1) _ hilb (by omega) (hw0.app hw1).long).mono ?_
      rintro e w10 ⟨vq, rfl, hoq, hx10⟩
      have hb10 := hb9.trans (hx10.mono hb9.size)
      have hilp10 := hilp9.below hx10
      have hilm10 := hilm9.below hx10
      have hilx10 := hilx9.below hx10
      have hily10 := hily9.below hx10
      obtain ⟨Mq, mcq, hvq, hlcq, hcmq, hilq10, _⟩ := hoq.form
      rw [hNP] at hvq hilq10 hlcq
      subst hvq
      clear hoq hcmq hlcq
      go_wp2_with fail
      refine (refrest_any a1 a0 len1 cap1 len0 cap0 z1 z0 _ (hr1.below hb10) (hr0.below hb10) (by omega) (by omega) my1 my0).mono ?_
      rintro e w11 ⟨vr, rfl, hor, hx11⟩
      have hb11 := hb10.trans (hx11.mono hb10.size)
      have hilp11 := hilp10.below hx11
      have hilm11 := hilm10.below hx11
      have hilx11 := hilx10.below hx11
      have hily11 := hily10.below hx11
      have hilq11 := hilq10.below hx11
      obtain ⟨Mr, mcr, hvr, hlcr, hcmr, hilr11, _⟩ := hor.form
      rw [hNR] at hvr hilr11 hlcr
      subst hvr
      clear hor hcmr hlcr
      go_wp2_with fail
      refine (same_self Mp Mq NP mcp NP mcq (normR (z0 ++ z1)) _ hilp11 hilq11 (by omega)).mono ?_
      rintro e w12 ⟨rfl, hx12⟩
      have hb12 := hb11.trans (hx12.mono hb11.size)
      have hilp12 := hilp11.below hx12
      have hilm12 := hilm11.below hx12
      have hilx12 := hilx11.below hx12
      have hily12 := hily11.below hx12
      have hilq12 := hilq11.below hx12
      have hilr12 := hilr11.below hx12
      go_wp2_with fail
      refine (refmeet_any a0 a1 len0 cap0 len1 cap1 z0 z1 _ (hr0.below hb12) (hr1.below hb12) (by omega) (by omega) my0 my1).mono ?_
      rintro e w13 ⟨vs, rfl, hos, hx13⟩
      have hb13 := hb12.trans (hx13.mono hb12.size)
      have hilp13 := hilp12.below hx13
      have hilm13 := hilm12.below hx13
      have hilx13 := hilx12.below hx13
      have hily13 := hily12.below hx13
      have hilq13 := hilq12.below hx13
      have hilr13 := hilr12.below hx13
      obtain ⟨Ms, mcs, hvs, hlcs, hcms, hils13, _⟩ := hos.form
      rw [hNX] at hvs hils13 hlcs
      subst hvs
      clear hos hcms hlcs
      go_wp2_with fail
      refine (same_self Mx Ms NX mcx NX mcs (meetL z0 z1) _ hilx13 hils13 (by omega)).mono ?_
      rintro e w14 ⟨rfl, hx14⟩
      have hb14 := hb13.trans (hx14.mono hb13.size)
      have hilp14 := hilp13.below hx14
      have hilm14 := hilm13.below hx14
      have hilx14 := hilx13.below hx14
      have hily14 := hily13.below hx14
      have hilq14 := hilq13.below hx14
      have hilr14 := hilr13.below hx14
      have hils14 := hils13.below hx14
      go_wp2_with fail
      refine (refrest_any a0 a1 len0 cap0 len1 cap1 z0 z1 _ (hr0.below hb14) (hr1.below hb14) (by omega) (by omega) my0 my1).mono ?_
      rintro e w15 ⟨vt, rfl, hot, hx15⟩
      have hb15 := hb14.trans (hx15.mono hb14.size)
      have hilp15 := hilp14.below hx15
      have hilm15 := hilm14.below hx15
      have hilx15 := hilx14.below hx15
      have hily15 := hily14.below hx15
      have hilq15 := hilq14.below hx15
      have hilr15 := hilr14.below hx15
      have hils15 := hils14.below hx15
      obtain ⟨Mt, mct, hvt, hlct, hcmt, hilt15, _⟩ := hot.form
      rw [hNY] at hvt hilt15 hlct
      subst hvt
      clear hot hcmt hlct
      go_wp2_with fail
      refine (same_self My Mt NY mcy NY mct (restL z0 z1) _ hily15 hilt15 (by omega)).mono ?_
      rintro e w16 ⟨rfl, hx16⟩
      have hb16 := hb15.trans (hx16.mono hb15.size)
      have hilp16 := hilp15.below hx16
      have hilm16 := hilm15.below hx16
      have hilx16 := hilx15.below hx16
      have hily16 := hily15.below hx16
      have hilq16 := hilq15.below hx16
      have hilr16 := hilr15.below hx16
      have hils16 := hils15.below hx16
      have hilt16 := hilt15.below hx16
      go_wp2
      go_ret
      exact ⟨rfl, hb16⟩

namespace itemsBothDone
open Go.ChangeShapes Go.WideShapes Go.ChangeAt
set_option maxRecDepth 100000 in
theorem lifted (os : Os) (started : os.Started) (H : Type) (enc : TypeId × Value → H) :
    ReturnsInHanded {} Try.checked os 4 .any (Rows.itemsBothSpec.pre6 enc Try.prog Try.f4 Rows.itemsBothRow.domain false) (Rows.itemsBothSpec.post enc Try.prog Try.f4 false true false false) := by
  refine returnsInHanded_of_change_sized (C := Try.checked) own started (by kernel_rfl) Try.func4
    (ChangeSpec.witness6 (enc := enc) (C := Try.checked) false ⟨#[], #[Value.slice none 0 0, Value.slice none 0 0], []⟩ 8 (by kernel_rfl) (by kernel_rfl) (by kernel_rfl) (by kernel_rfl)) ?_
  intro W base args ds gs before hval0 hW hcnd hsz0 _
  have hsz : (DataW.weightsEach Try.prog (Try.f4.params.toList ++ Rows.itemsBothSpec.plain.varTypes Try.prog) (ds ++ gs)).all (· ≤ reachBytes) = true := hsz0
  clear hsz0
  have hval : ∀ (j : Nat) t v, Try.f4.params[j]? = some t → args[j]? = some v → Value.okWide Try.prog W .any base t v := hval0
  have hW' := hW
  obtain ⟨p, q, hA0, hV, rfl, hfz, hnd⟩ := hW
  have hA : DataW.TrodAll enc Try.prog W 0 (fun _ => true) true Try.f4.params.toList args.toList ds p := hA0
  rw [Try.params4] at hA hval hsz
  obtain ⟨v0, vs0, d0, ds0, p0, q0, hargs, rfl, rfl, h0, r0⟩ := trodAll_cons hA
  obtain ⟨v1, vs1, d1, ds1, p1, q1, rfl, rfl, rfl, h1, r1⟩ := trodAll_cons r0
  obtain ⟨rfl, rfl, rfl⟩ := trodAll_nil r1
  obtain rfl : args = #[v0, v1] := by cases args; simp_all
  obtain ⟨rfl, rfl⟩ := trodVars_none hV
  obtain ⟨a0, len0, cap0, rfl⟩ := okWide_slice Try.underlying22 (hval 0 22 v0 rfl rfl)
  have k0 := h0
  have lt0 : ∀ x ∈ p0, x.block < W.heap.size := by obtain ⟨m, hm⟩ := k0; exact DataW.trod_lt m _ _ _ hm
  obtain ⟨z0, hr0, hw0, hc0, hm0, hd0⟩ := items_open h0
  have hl0 : cap0 * 24 ≤ 140737488351232 := by
    rcases hd0 with ⟨_, h⟩ | ⟨es, sp, rfl, h⟩
    · omega
    · have := sized_slice hsz (j := 0) (t := 22) (e := 28) rfl rfl Try.underlying22
      rw [bytes_item] at this
      simp only [reachBytes] at this
      omega
  obtain ⟨a1, len1, cap1, rfl⟩ := okWide_slice Try.underlying22 (hval 1 22 v1 rfl rfl)
  have k1 := h1
  have lt1 : ∀ x ∈ p1, x.block < W.heap.size := by obtain ⟨m, hm⟩ := k1; exact DataW.trod_lt m _ _ _ hm
  obtain ⟨z1, hr1, hw1, hc1, hm1, hd1⟩ := items_open h1
  have hl1 : cap1 * 24 ≤ 140737488351232 := by
    rcases hd1 with ⟨_, h⟩ | ⟨es, sp, rfl, h⟩
    · omega
    · have := sized_slice hsz (j := 1) (t := 22) (e := 28) rfl rfl Try.underlying22
      rw [bytes_item] at this
      simp only [reachBytes] at this
      omega
  clear hA0 hval0
  refine (itemsBoth_walk (w := W) a0 len0 cap0 z0 hr0 hw0 hc0 hm0 hl0 a1 len1 cap1 z1 hr1 hw1 hc1 hm1 hl1).mono fun e W' ⟨he, bel⟩ => ?_
  subst he
  exact ⟨_, rfl, _, _, _, [], _, [], hW', trodAll_mk1 (shut_bool Try.underlying4 _), (trodAll_cons_mk (Below.trod laidOut (by kernel_rfl) (of_decide_eq_true (by kernel_rfl)) k0 bel lt0) (trodAll_cons_mk (Below.trod laidOut (by kernel_rfl) (of_decide_eq_true (by kernel_rfl)) k1 bel lt1) trodAll_mk0)), rfl, bel.frame _, fun h => by cases h⟩

theorem over : Rows.itemsBothRow.holds Try.pinned (OpenSpec.ofChange Rows.itemsBothSpec) :=
  OpenClaim.holds_of_wide 4 Try.f4 rfl rfl rfl rfl rfl rfl rfl ⟨rfl, rfl, rfl, rfl, rfl⟩ rfl rfl rfl rfl rfl (by kernel_rfl) Try.func4 (by kernel_rfl)
    (of_decide_eq_true (by kernel_rfl)) (by unfold Func.isWrapper; first | (rw [if_pos (by decide +kernel)]; kernel_rfl) | (rw [if_neg (by decide +kernel)]; exact ⟨rfl, rfl⟩))
    (fun os started H enc _ => lifted os started H enc)

/-- The statement. -/
theorem proved : Rows.ItemsBothSaid := over
end itemsBothDone
end Go.Proofs.Yteebfnhapnjbjaa
