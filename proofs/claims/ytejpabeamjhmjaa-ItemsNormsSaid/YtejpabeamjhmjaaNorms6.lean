/- 'ItemsNorms' returns true for every input: the row of this law, proved. No condition. -/
import Derived.Test.YtejpabeamjhmjaaRNorm
import Derived.Test.YtejpabeamjhmjaaKept6
import Derived.ProofKit
import Derived.OpenShut
import Derived.ShutString
import Derived.ChangeOld
import Derived.SizedLaws
import Derived.ChangeMaps5
namespace Go.Proofs.Ytejpabeamjhmjaa
open Go.RowKit
set_option linter.unusedVariables false
set_option linter.unusedSimpArgs false
theorem totalL_take {l : List It} {k : Nat} {x : It} (hx : l[k]? = some x) : totalL (l.take (k + 1)) = wrap64 (totalL (l.take k) + x.2) := by
  rw [List.take_add_one, hx]
  exact totalL_snoc _ _
theorem same_self (A A' : Option Addr) (n c n' c' : Nat) (l : List It) (w : World) (hl : IL w A n l) (hl' : IL w A' n' l) (hn : n ≤ 9223372036854775807) :
    Calls Try.prog 16 #[.slice A n c, .slice A' n' c'] w fun e w' => e = .returned (.bool true) ∧ Below w.heap.size w w' :=
  (same_b A A' n c n' c' l l w hl hl' hn).mono fun e w' ⟨h, q⟩ => ⟨by rw [h, decide_eq_true rfl], q⟩
theorem norm_rows {l : List It} (h : normE l = 0) : MY (normR l) := by
  obtain ⟨h1, h2, h3⟩ := normE_zero h
  have hR : normR l = rowsN l := by
    unfold normR
    rw [h]
    rfl
  rw [hR]
  exact (MY.rows h1 h2 h3).1
theorem norm_may {l : List It} (h : mayL l = true) : normE l = 0 ∧ normR l = l := by
  have ha := MY.of_ h
  have hn : MY [] := MY.of_ rfl
  have h0 : ∀ g, ofL [] g = 0 := fun g => rfl
  have hm : meetL l [] = [] := (MY.meet ha hn).ext_of hn fun g => by
    rw [of_meet ha hn, h0]
    have := ha.nonneg g
    omega
  have hr : restL l [] = l := (MY.rest ha hn).ext_of ha fun g => by
    rw [of_rest ha hn, h0]
    have := ha.nonneg g
    omega
  have hp := parts_ok ha hn
  rw [hm, hr] at hp
  rw [plusE_norm hn ha, plusR_norm hn ha] at hp
  exact hp
theorem norm_long (l : List It) (h : l.length ≤ 100) : (normR l).length ≤ 100 := by
  unfold normR
  split
  case _ h0 =>
    have := (normE_zero h0).2.2
    omega
  case _ => simp
set_option maxRecDepth 100000 in
set_option maxHeartbeats 12800000 in
theorem itemsNorms_walk {w : World} (a0 : Option Addr) (len0 cap0 : Nat) (z0 : List It) (hr0 : IL w a0 len0 z0) (hw0 : WL z0) (hc0 : len0 ≤ cap0) (hm0 : cap0 ≤ 9223372036854775807) (hl0 : cap0 * 24 ≤ 140737488351232) (g1 : List UInt8) (hg1 : g1.length ≤ 9223372036854775807) :
    Calls Try.prog 3 #[.slice a0 len0 cap0, .string ⟨g1.toArray⟩] w fun e w' => e = .returned (.bool true) ∧ Below w.heap.size w w' := by
  have hb0 := below_same' w
  have hlen := hr0.len
  by_cases g0 : 100 < len0
  · have hz : (100 : Int) < (len0 : Int) := by omega
    go_enter Try.func3, Try.ntmps3
    go_wp2_with fail
    refine (lives_any _).mono ?_
    rintro e w1 ⟨rfl, hx1⟩
    have hb1 := hb0.trans (hx1.mono hb0.size)
    go_wp2
    go_ret
    exact ⟨rfl, hb1⟩
  have hz : ¬ (100 : Int) < (len0 : Int) := by omega
  obtain ⟨NN, hN⟩ : ∃ N, (normR z0).length = N := ⟨_, rfl⟩
  have hNN : NN ≤ 100 := by rw [← hN]; exact norm_long z0 (by omega)
  obtain ⟨tt, htt⟩ : ∃ t, totalL z0 = t := ⟨_, rfl⟩
  obtain ⟨gg, hg⟩ : ∃ t, gOK g1 = t := ⟨_, rfl⟩
  obtain ⟨oo, hof⟩ : ∃ t, ofL z0 g1 = t := ⟨_, rfl⟩
  by_cases h0 : normE z0 = 0
  case neg =>
    have hm : mayL z0 = false := by
      cases h : mayL z0 with
      | false => rfl
      | true => exact absurd (norm_may h).1 h0
    obtain ⟨E, hE⟩ : ∃ E, normE z0 = E := ⟨_, rfl⟩
    rw [hE] at h0
    have hEb : decide (E = 0) = false := decide_eq_false h0
    have hEb' : (E == 0) = false := beq_eq_false_iff_ne.2 h0
    go_enter Try.func3, Try.ntmps3
    go_wp2_with (at_builtin; refine wpAppI rfl _ _ rfl w.heap.size _ [] rfl (OI.made w.heap.size w (Nat.le_refl _)) a0 len0 cap0 z0 rfl ((hr0.below hb0).alloc _) hr0.none_zero (by simp; omega) (by simp) ?_; rintro va w1 hoa ka _; rw [List.nil_append] at hoa; have hx1 : Below w.heap.size w w1 := ((Below.refl w.heap.size w).alloc (Nat.le_refl _) (.cells #[] 28)).trans (ka.below (by simp) (own_lt rfl)); have hb1 := hb0.trans (hx1.mono hb0.size); obtain ⟨Mo, mco, hvo, hlco, hcmo, hilo1, _⟩ := hoa.form; rw [hlen] at hvo hilo1; subst hvo)
    go_wp2_with fail
    refine (norm_any Mo len0 mco z0 _ hilo1 (by omega) (fun x hx => (hw0 x hx).1)).mono ?_
    rintro e w2 ⟨va', rfl, hoa, hx2⟩
    have hb2 := hb1.trans (hx2.mono hb1.size)
    rw [hE]
    have hilo2 := hilo1.below hx2
    obtain ⟨Ma, mca, hva, hlca, hcma, hila2, _⟩ := hoa.form
    rw [hN] at hva hila2 hlca
    subst hva
    clear hoa hcma hlca
    go_wp2_with fail
    refine (refnorm_any a0 len0 cap0 z0 _ (hr0.below hb2) (by omega) hw0.long).mono ?_
    rintro e w3 ⟨vb, rfl, hob, hx3⟩
    have hb3 := hb2.trans (hx3.mono hb2.size)
    rw [hE]
    have hilo3 := hilo2.below hx3
    have hila3 := hila2.below hx3
    obtain ⟨Mb, mcb, hvb, hlcb, hcmb, hilb3, _⟩ := hob.form
    rw [hN] at hvb hilb3 hlcb
    subst hvb
    clear hob hcmb hlcb
    go_wp2
    go_loopw [10, 11] (fun s i wr => wr = w3 ∧ ∃ k : Nat, i = .int .i64 (k : Int) ∧ s = .int .i64 (totalL (z0.take k)) ∧ k ≤ len0) (fun _ i _ => len0 - (intOf i).toNat)
    case atStart => exact ⟨rfl, 0, by go_num, rfl, by omega⟩
    case round =>
      obtain ⟨rfl, k, rfl, rfl, hk⟩ := hrel
      by_cases hlt : k < len0
      · have hlz : (k : Int) < (len0 : Int) := by omega
        obtain ⟨b, off, ⟨s1, q1⟩, rfl, hx, c0, c1⟩ := (hr0.below hb3).place hlt
        dsimp only at c0 c1
        have htk := totalL_take hx
        dsimp only at htk
        go_wp2
        go_roundw
        case measure => simp [intOf]; omega
        case rel => exact ⟨trivial, k + 1, by go_num, by rw [htk], by omega⟩
      · have hlz : ¬ (k : Int) < (len0 : Int) := by omega
        rw [List.take_of_length_le (by omega), htt]
        go_wp2_with fail
        refine (lives_any _).mono ?_
        rintro e w4 ⟨rfl, hx4⟩
        have hb4 := hb3.trans (hx4.mono hb3.size)
        have hilo4 := hilo3.below hx4
        have hila4 := hila3.below hx4
        have hilb4 := hilb3.below hx4
        go_wp2_with fail
        refine (same_self Ma Mb NN mca NN mcb (normR z0) _ hila4 hilb4 (by omega)).mono ?_
        rintro e w5 ⟨rfl, hx5⟩
        have hb5 := hb4.trans (hx5.mono hb4.size)
        have hilo5 := hilo4.below hx5
        have hila5 := hila4.below hx5
        have hilb5 := hilb4.below hx5
        go_wp2_with fail
        refine (same_self Mo a0 len0 mco len0 cap0 z0 _ hilo5 (hr0.below hb5) (by omega)).mono ?_
        rintro e w6 ⟨rfl, hx6⟩
        have hb6 := hb5.trans (hx6.mono hb5.size)
        have hilo6 := hilo5.below hx6
        have hila6 := hila5.below hx6
        have hilb6 := hilb5.below hx6
        go_wp2_with fail
        refine (mayI_any a0 len0 cap0 z0 _ (hr0.below hb6) (by omega)).mono ?_
        rintro e w7 ⟨rfl, hx7⟩
        have hb7 := hb6.trans (hx7.mono hb6.size)
        rw [hm]
        have hilo7 := hilo6.below hx7
        have hila7 := hila6.below hx7
        have hilb7 := hilb6.below hx7
        go_wp2_with fail
        refine (refmay_b a0 len0 cap0 z0 _ (hr0.below hb7) (by omega) hw0.long).mono ?_
        rintro e w8 ⟨rfl, hx8⟩
        have hb8 := hb7.trans (hx8.mono hb7.size)
        rw [hm]
        have hilo8 := hilo7.below hx8
        have hila8 := hila7.below hx8
        have hilb8 := hilb7.below hx8
        go_wp2_with fail
        refine (good_any g1 _).mono ?_
        rintro e w9 ⟨rfl, hx9⟩
        have hb9 := hb8.trans (hx9.mono hb8.size)
        rw [hg]
        have hilo9 := hilo8.below hx9
        have hila9 := hila8.below hx9
        have hilb9 := hilb8.below hx9
        go_wp2_with fail
        refine (refgood_any g1 _ (by omega)).mono ?_
        rintro e w' ⟨rfl, hww⟩
        subst hww
        rw [hg]
        go_wp2_with fail
        refine (of_any a0 len0 cap0 z0 g1 _ (hr0.below hb9) (by omega)).mono ?_
        rintro e w10 ⟨rfl, hx10⟩
        have hb10 := hb9.trans (hx10.mono hb9.size)
        rw [hof]
        have hilo10 := hilo9.below hx10
        have hila10 := hila9.below hx10
        have hilb10 := hilb9.below hx10
        go_wp2_with fail
        refine (refof_any a0 len0 cap0 z0 g1 _ (hr0.below hb10) (by omega)).mono ?_
        rintro e w' ⟨rfl, hww⟩
        subst hww
        rw [hof]
        go_wp2_with fail
        refine (total_any a0 len0 cap0 z0 _ (hr0.below hb10) (by omega)).mono ?_
        rintro e w11 ⟨rfl, hx11⟩
        have hb11 := hb10.trans (hx11.mono hb10.size)
        rw [htt]
        have hilo11 := hilo10.below hx11
        have hila11 := hila10.below hx11
        have hilb11 := hilb10.below hx11
        go_wp2
        go_ret
        exact ⟨rfl, hb11⟩
  have hE := h0
  have hmn : mayL (normR z0) = true := (norm_rows h0).may
  cases hm : mayL z0 with
  | false =>
    go_enter Try.func3, Try.ntmps3
    go_wp2_with (at_builtin; refine wpAppI rfl _ _ rfl w.heap.size _ [] rfl (OI.made w.heap.size w (Nat.le_refl _)) a0 len0 cap0 z0 rfl ((hr0.below hb0).alloc _) hr0.none_zero (by simp; omega) (by simp) ?_; rintro va w1 hoa ka _; rw [List.nil_append] at hoa; have hx1 : Below w.heap.size w w1 := ((Below.refl w.heap.size w).alloc (Nat.le_refl _) (.cells #[] 28)).trans (ka.below (by simp) (own_lt rfl)); have hb1 := hb0.trans (hx1.mono hb0.size); obtain ⟨Mo, mco, hvo, hlco, hcmo, hilo1, _⟩ := hoa.form; rw [hlen] at hvo hilo1; subst hvo)
    go_wp2_with fail
    refine (norm_any Mo len0 mco z0 _ hilo1 (by omega) (fun x hx => (hw0 x hx).1)).mono ?_
    rintro e w2 ⟨va', rfl, hoa, hx2⟩
    have hb2 := hb1.trans (hx2.mono hb1.size)
    rw [hE]
    have hilo2 := hilo1.below hx2
    obtain ⟨Ma, mca, hva, hlca, hcma, hila2, _⟩ := hoa.form
    rw [hN] at hva hila2 hlca
    subst hva
    clear hoa hcma hlca
    go_wp2_with fail
    refine (refnorm_any a0 len0 cap0 z0 _ (hr0.below hb2) (by omega) hw0.long).mono ?_
    rintro e w3 ⟨vb, rfl, hob, hx3⟩
    have hb3 := hb2.trans (hx3.mono hb2.size)
    rw [hE]
    have hilo3 := hilo2.below hx3
    have hila3 := hila2.below hx3
    obtain ⟨Mb, mcb, hvb, hlcb, hcmb, hilb3, _⟩ := hob.form
    rw [hN] at hvb hilb3 hlcb
    subst hvb
    clear hob hcmb hlcb
    go_wp2
    go_loopw [10, 11] (fun s i wr => wr = w3 ∧ ∃ k : Nat, i = .int .i64 (k : Int) ∧ s = .int .i64 (totalL (z0.take k)) ∧ k ≤ len0) (fun _ i _ => len0 - (intOf i).toNat)
    case atStart => exact ⟨rfl, 0, by go_num, rfl, by omega⟩
    case round =>
      obtain ⟨rfl, k, rfl, rfl, hk⟩ := hrel
      by_cases hlt : k < len0
      · have hlz : (k : Int) < (len0 : Int) := by omega
        obtain ⟨b, off, ⟨s1, q1⟩, rfl, hx, c0, c1⟩ := (hr0.below hb3).place hlt
        dsimp only at c0 c1
        have htk := totalL_take hx
        dsimp only at htk
        go_wp2
        go_roundw
        case measure => simp [intOf]; omega
        case rel => exact ⟨trivial, k + 1, by go_num, by rw [htk], by omega⟩
      · have hlz : ¬ (k : Int) < (len0 : Int) := by omega
        rw [List.take_of_length_le (by omega), htt]
        go_wp2_with fail
        refine (lives_any _).mono ?_
        rintro e w4 ⟨rfl, hx4⟩
        have hb4 := hb3.trans (hx4.mono hb3.size)
        have hilo4 := hilo3.below hx4
        have hila4 := hila3.below hx4
        have hilb4 := hilb3.below hx4
        go_wp2_with fail
        refine (same_self Ma Mb NN mca NN mcb (normR z0) _ hila4 hilb4 (by omega)).mono ?_
        rintro e w5 ⟨rfl, hx5⟩
        have hb5 := hb4.trans (hx5.mono hb4.size)
        have hilo5 := hilo4.below hx5
        have hila5 := hila4.below hx5
        have hilb5 := hilb4.below hx5
        go_wp2_with fail
        refine (same_self Mo a0 len0 mco len0 cap0 z0 _ hilo5 (hr0.below hb5) (by omega)).mono ?_
        rintro e w6 ⟨rfl, hx6⟩
        have hb6 := hb5.trans (hx6.mono hb5.size)
        have hilo6 := hilo5.below hx6
        have hila6 := hila5.below hx6
        have hilb6 := hilb5.below hx6
        go_wp2_with fail
        refine (mayI_any a0 len0 cap0 z0 _ (hr0.below hb6) (by omega)).mono ?_
        rintro e w7 ⟨rfl, hx7⟩
        have hb7 := hb6.trans (hx7.mono hb6.size)
        rw [hm]
        have hilo7 := hilo6.below hx7
        have hila7 := hila6.below hx7
        have hilb7 := hilb6.below hx7
        go_wp2_with fail
        refine (refmay_b a0 len0 cap0 z0 _ (hr0.below hb7) (by omega) hw0.long).mono ?_
        rintro e w8 ⟨rfl, hx8⟩
        have hb8 := hb7.trans (hx8.mono hb7.size)
        rw [hm]
        have hilo8 := hilo7.below hx8
        have hila8 := hila7.below hx8
        have hilb8 := hilb7.below hx8
        go_wp2_with fail
        refine (good_any g1 _).mono ?_
        rintro e w9 ⟨rfl, hx9⟩
        have hb9 := hb8.trans (hx9.mono hb8.size)
        rw [hg]
        have hilo9 := hilo8.below hx9
        have hila9 := hila8.below hx9
        have hilb9 := hilb8.below hx9
        go_wp2_with fail
        refine (refgood_any g1 _ (by omega)).mono ?_
        rintro e w' ⟨rfl, hww⟩
        subst hww
        rw [hg]
        go_wp2_with fail
        refine (of_any a0 len0 cap0 z0 g1 _ (hr0.below hb9) (by omega)).mono ?_
        rintro e w10 ⟨rfl, hx10⟩
        have hb10 := hb9.trans (hx10.mono hb9.size)
        rw [hof]
        have hilo10 := hilo9.below hx10
        have hila10 := hila9.below hx10
        have hilb10 := hilb9.below hx10
        go_wp2_with fail
        refine (refof_any a0 len0 cap0 z0 g1 _ (hr0.below hb10) (by omega)).mono ?_
        rintro e w' ⟨rfl, hww⟩
        subst hww
        rw [hof]
        go_wp2_with fail
        refine (total_any a0 len0 cap0 z0 _ (hr0.below hb10) (by omega)).mono ?_
        rintro e w11 ⟨rfl, hx11⟩
        have hb11 := hb10.trans (hx11.mono hb10.size)
        rw [htt]
        have hilo11 := hilo10.below hx11
        have hila11 := hila10.below hx11
        have hilb11 := hilb10.below hx11
        go_wp2_with fail
        refine (mayI_any Ma NN mca (normR z0) _ hila11 (by omega)).mono ?_
        rintro e w12 ⟨rfl, hx12⟩
        have hb12 := hb11.trans (hx12.mono hb11.size)
        rw [hmn]
        have hilo12 := hilo11.below hx12
        have hila12 := hila11.below hx12
        have hilb12 := hilb11.below hx12
        go_wp2_with fail
        refine (refmay_b a0 len0 cap0 z0 _ (hr0.below hb12) (by omega) hw0.long).mono ?_
        rintro e w13 ⟨rfl, hx13⟩
        have hb13 := hb12.trans (hx13.mono hb12.size)
        rw [hm]
        have hilo13 := hilo12.below hx13
        have hila13 := hila12.below hx13
        have hilb13 := hilb12.below hx13
        go_wp2
        go_ret
        exact ⟨rfl, hb13⟩
  | true =>
    have hnz : decide (normR z0 = z0) = true := decide_eq_true (norm_may hm).2
    go_enter Try.func3, Try.ntmps3
    go_wp2_with (at_builtin; refine wpAppI rfl _ _ rfl w.heap.size _ [] rfl (OI.made w.heap.size w (Nat.le_refl _)) a0 len0 cap0 z0 rfl ((hr0.below hb0).alloc _) hr0.none_zero (by simp; omega) (by simp) ?_; rintro va w1 hoa ka _; rw [List.nil_append] at hoa; have hx1 : Below w.heap.size w w1 := ((Below.refl w.heap.size w).alloc (Nat.le_refl _) (.cells #[] 28)).trans (ka.below (by simp) (own_lt rfl)); have hb1 := hb0.trans (hx1.mono hb0.size); obtain ⟨Mo, mco, hvo, hlco, hcmo, hilo1, _⟩ := hoa.form; rw [hlen] at hvo hilo1; subst hvo)
    go_wp2_with fail
    refine (norm_any Mo len0 mco z0 _ hilo1 (by omega) (fun x hx => (hw0 x hx).1)).mono ?_
    rintro e w2 ⟨va', rfl, hoa, hx2⟩
    have hb2 := hb1.trans (hx2.mono hb1.size)
    rw [hE]
    have hilo2 := hilo1.below hx2
    obtain ⟨Ma, mca, hva, hlca, hcma, hila2, _⟩ := hoa.form
    rw [hN] at hva hila2 hlca
    subst hva
    clear hoa hcma hlca
    go_wp2_with fail
    refine (refnorm_any a0 len0 cap0 z0 _ (hr0.below hb2) (by omega) hw0.long).mono ?_
    rintro e w3 ⟨vb, rfl, hob, hx3⟩
    have hb3 := hb2.trans (hx3.mono hb2.size)
    rw [hE]
    have hilo3 := hilo2.below hx3
    have hila3 := hila2.below hx3
    obtain ⟨Mb, mcb, hvb, hlcb, hcmb, hilb3, _⟩ := hob.form
    rw [hN] at hvb hilb3 hlcb
    subst hvb
    clear hob hcmb hlcb
    go_wp2
    go_loopw [10, 11] (fun s i wr => wr = w3 ∧ ∃ k : Nat, i = .int .i64 (k : Int) ∧ s = .int .i64 (totalL (z0.take k)) ∧ k ≤ len0) (fun _ i _ => len0 - (intOf i).toNat)
    case atStart => exact ⟨rfl, 0, by go_num, rfl, by omega⟩
    case round =>
      obtain ⟨rfl, k, rfl, rfl, hk⟩ := hrel
      by_cases hlt : k < len0
      · have hlz : (k : Int) < (len0 : Int) := by omega
        obtain ⟨b, off, ⟨s1, q1⟩, rfl, hx, c0, c1⟩ := (hr0.below hb3).place hlt
        dsimp only at c0 c1
        have htk := totalL_take hx
        dsimp only at htk
        go_wp2
        go_roundw
        case measure => simp [intOf]; omega
        case rel => exact ⟨trivial, k + 1, by go_num, by rw [htk], by omega⟩
      · have hlz : ¬ (k : Int) < (len0 : Int) := by omega
        rw [List.take_of_length_le (by omega), htt]
        go_wp2_with fail
        refine (lives_any _).mono ?_
        rintro e w4 ⟨rfl, hx4⟩
        have hb4 := hb3.trans (hx4.mono hb3.size)
        have hilo4 := hilo3.below hx4
        have hila4 := hila3.below hx4
        have hilb4 := hilb3.below hx4
        go_wp2_with fail
        refine (same_self Ma Mb NN mca NN mcb (normR z0) _ hila4 hilb4 (by omega)).mono ?_
        rintro e w5 ⟨rfl, hx5⟩
        have hb5 := hb4.trans (hx5.mono hb4.size)
        have hilo5 := hilo4.below hx5
        have hila5 := hila4.below hx5
        have hilb5 := hilb4.below hx5
        go_wp2_with fail
        refine (same_self Mo a0 len0 mco len0 cap0 z0 _ hilo5 (hr0.below hb5) (by omega)).mono ?_
        rintro e w6 ⟨rfl, hx6⟩
        have hb6 := hb5.trans (hx6.mono hb5.size)
        have hilo6 := hilo5.below hx6
        have hila6 := hila5.below hx6
        have hilb6 := hilb5.below hx6
        go_wp2_with fail
        refine (mayI_any a0 len0 cap0 z0 _ (hr0.below hb6) (by omega)).mono ?_
        rintro e w7 ⟨rfl, hx7⟩
        have hb7 := hb6.trans (hx7.mono hb6.size)
        rw [hm]
        have hilo7 := hilo6.below hx7
        have hila7 := hila6.below hx7
        have hilb7 := hilb6.below hx7
        go_wp2_with fail
        refine (refmay_b a0 len0 cap0 z0 _ (hr0.below hb7) (by omega) hw0.long).mono ?_
        rintro e w8 ⟨rfl, hx8⟩
        have hb8 := hb7.trans (hx8.mono hb7.size)
        rw [hm]
        have hilo8 := hilo7.below hx8
        have hila8 := hila7.below hx8
        have hilb8 := hilb7.below hx8
        go_wp2_with fail
        refine (good_any g1 _).mono ?_
        rintro e w9 ⟨rfl, hx9⟩
        have hb9 := hb8.trans (hx9.mono hb8.size)
        rw [hg]
        have hilo9 := hilo8.below hx9
        have hila9 := hila8.below hx9
        have hilb9 := hilb8.below hx9
        go_wp2_with fail
        refine (refgood_any g1 _ (by omega)).mono ?_
        rintro e w' ⟨rfl, hww⟩
        subst hww
        rw [hg]
        go_wp2_with fail
        refine (of_any a0 len0 cap0 z0 g1 _ (hr0.below hb9) (by omega)).mono ?_
        rintro e w10 ⟨rfl, hx10⟩
        have hb10 := hb9.trans (hx10.mono hb9.size)
        rw [hof]
        have hilo10 := hilo9.below hx10
        have hila10 := hila9.below hx10
        have hilb10 := hilb9.below hx10
        go_wp2_with fail
        refine (refof_any a0 len0 cap0 z0 g1 _ (hr0.below hb10) (by omega)).mono ?_
        rintro e w' ⟨rfl, hww⟩
        subst hww
        rw [hof]
        go_wp2_with fail
        refine (total_any a0 len0 cap0 z0 _ (hr0.below hb10) (by omega)).mono ?_
        rintro e w11 ⟨rfl, hx11⟩
        have hb11 := hb10.trans (hx11.mono hb10.size)
        rw [htt]
        have hilo11 := hilo10.below hx11
        have hila11 := hila10.below hx11
        have hilb11 := hilb10.below hx11
        go_wp2_with fail
        refine (mayI_any Ma NN mca (normR z0) _ hila11 (by omega)).mono ?_
        rintro e w12 ⟨rfl, hx12⟩
        have hb12 := hb11.trans (hx12.mono hb11.size)
        rw [hmn]
        have hilo12 := hilo11.below hx12
        have hila12 := hila11.below hx12
        have hilb12 := hilb11.below hx12
        go_wp2_with fail
        refine (refmay_b a0 len0 cap0 z0 _ (hr0.below hb12) (by omega) hw0.long).mono ?_
        rintro e w13 ⟨rfl, hx13⟩
        have hb13 := hb12.trans (hx13.mono hb12.size)
        rw [hm]
        have hilo13 := hilo12.below hx13
        have hila13 := hila12.below hx13
        have hilb13 := hilb12.below hx13
        go_wp2_with fail
        refine (same_b Ma a0 NN mca len0 cap0 (normR z0) z0 _ hila13 (hr0.below hb13) (by omega)).mono ?_
        rintro e w14 ⟨rfl, hx14⟩
        have hb14 := hb13.trans (hx14.mono hb13.size)
        rw [hnz]
        have hilo14 := hilo13.below hx14
        have hila14 := hila13.below hx14
        have hilb14 := hilb13.below hx14
        go_wp2
        go_ret
        exact ⟨rfl, hb14⟩

namespace itemsNormsDone
open Go.ChangeShapes Go.WideShapes Go.ChangeAt
set_option maxRecDepth 100000 in
theorem lifted (os : Os) (started : os.Started) (H : Type) (enc : TypeId × Value → H) :
    ReturnsInHanded {} Try.checked os 3 .any (Rows.itemsNormsSpec.pre6 enc Try.prog Try.f3 Rows.itemsNormsRow.domain false) (Rows.itemsNormsSpec.post enc Try.prog Try.f3 false true false false) := by
  refine returnsInHanded_of_change_sized (C := Try.checked) own started (by kernel_rfl) Try.func3
    (ChangeSpec.witness6 (enc := enc) (C := Try.checked) false ⟨#[], #[Value.slice none 0 0, Value.string ⟨#[]⟩], []⟩ 8 (by kernel_rfl) (by kernel_rfl) (by kernel_rfl) (by kernel_rfl)) ?_
  intro W base args ds gs before hval0 hW hcnd hsz0 _
  have hsz : (DataW.weightsEach Try.prog (Try.f3.params.toList ++ Rows.itemsNormsSpec.plain.varTypes Try.prog) (ds ++ gs)).all (· ≤ reachBytes) = true := hsz0
  clear hsz0
  have hval : ∀ (j : Nat) t v, Try.f3.params[j]? = some t → args[j]? = some v → Value.okWide Try.prog W .any base t v := hval0
  have hW' := hW
  obtain ⟨p, q, hA0, hV, rfl, hfz, hnd⟩ := hW
  have hA : DataW.TrodAll enc Try.prog W 0 (fun _ => true) true Try.f3.params.toList args.toList ds p := hA0
  rw [Try.params3] at hA hval hsz
  obtain ⟨v0, vs0, d0, ds0, p0, q0, hargs, rfl, rfl, h0, r0⟩ := trodAll_cons hA
  obtain ⟨v1, vs1, d1, ds1, p1, q1, rfl, rfl, rfl, h1, r1⟩ := trodAll_cons r0
  obtain ⟨rfl, rfl, rfl⟩ := trodAll_nil r1
  obtain rfl : args = #[v0, v1] := by cases args; simp_all
  obtain ⟨rfl, rfl⟩ := trodVars_none hV
  obtain ⟨a0, len0, cap0, rfl⟩ := okWide_slice Try.underlying22 (hval 0 22 v0 rfl rfl)
  have k0 := h0
  have lt0 : ∀ x ∈ p0, x.block < W.heap.size := by obtain ⟨m, hm⟩ := k0; exact DataW.trod_lt m _ _ _ hm
  obtain ⟨z0, hr0, hw0, hc0, hm0, hd0⟩ := items_open h0
  have hl0 : cap0 * 24 ≤ 140737488351232 := by
    rcases hd0 with ⟨_, h⟩ | ⟨es, sp, rfl, h⟩
    · omega
    · have := sized_slice hsz (j := 0) (t := 22) (e := 28) rfl rfl Try.underlying22
      rw [bytes_item] at this
      simp only [reachBytes] at this
      omega
  obtain ⟨s1, rfl, rfl, rfl, ws1⟩ := Go.ChangeMaps.open_string Try.underlying9 (hval 1 9 v1 rfl rfl) h1
  have hs1 : s1 = ⟨s1.data.toList.toArray⟩ := rfl
  have hz1 : s1.data.toList.length ≤ 9223372036854775807 := by rw [Array.length_toList]; exact ws1
  clear hA0 hval0
  refine (itemsNorms_walk (w := W) a0 len0 cap0 z0 hr0 hw0 hc0 hm0 hl0 s1.data.toList hz1).mono fun e W' ⟨he, bel⟩ => ?_
  subst he
  exact ⟨_, rfl, _, _, _, [], _, [], hW', trodAll_mk1 (shut_bool Try.underlying4 _), (trodAll_cons_mk (Below.trod laidOut (by kernel_rfl) (of_decide_eq_true (by kernel_rfl)) k0 bel lt0) (trodAll_cons_mk (Go.ChangeMaps.shut_string Try.underlying9 ws1) trodAll_mk0)), rfl, bel.frame _, fun h => by cases h⟩

theorem over : Rows.itemsNormsRow.holds Try.pinned (OpenSpec.ofChange Rows.itemsNormsSpec) :=
  OpenClaim.holds_of_wide 3 Try.f3 rfl rfl rfl rfl rfl rfl rfl ⟨rfl, rfl, rfl, rfl, rfl⟩ rfl rfl rfl rfl rfl (by kernel_rfl) Try.func3 (by kernel_rfl)
    (of_decide_eq_true (by kernel_rfl)) (by unfold Func.isWrapper; first | (rw [if_pos (by decide +kernel)]; kernel_rfl) | (rw [if_neg (by decide +kernel)]; exact ⟨rfl, rfl⟩))
    (fun os started H enc _ => lifted os started H enc)

/-- The statement. -/
theorem proved : Rows.ItemsNormsSaid := over
end itemsNormsDone
end Go.Proofs.Ytejpabeamjhmjaa
