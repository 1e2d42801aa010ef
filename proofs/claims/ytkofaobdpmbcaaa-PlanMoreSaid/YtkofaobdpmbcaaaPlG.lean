/- The document's Fewest. No condition but that the lists are ones of memory that may be. -/
import Derived.Test.YtkofaobdpmbcaaaPlM
namespace Go.Proofs.Ytkofaobdpmbcaaa
open Go.RowKit Go.Maps Go.Shelf
set_option linter.unusedVariables false
set_option linter.unusedSimpArgs false

def enR (l : List It) (ls : List (List It)) (ps : List Nat) : Bool := decide ((leftO l (chosenO ls ps)).length = 0)
theorem tmod_bit (c k : Nat) : Int.tmod ((c : Int) / 2 ^ k) 2 = ((c / 2 ^ k % 2 : Nat) : Int) := by
  rw [shift_nat]
  rw [Int.tmod_eq_emod_of_nonneg (Int.natCast_nonneg _)]
  rfl
theorem natI_one (l : List Nat) (p : Nat) : natI l ++ [(p : Int)] = natI (l ++ [p]) := (natI_snoc l p).symm
set_option maxRecDepth 100000 in
set_option maxHeartbeats 6400000 in
theorem prfewest_any (A : Option Addr) (n c : Nat) (l : List It) (R : Option Addr) (m cm : Nat) (ls : List (List It)) (B : Nat) (w : World) (hl : IL w A n l) (hr : RL B w R m ls) (hB : B ≤ w.heap.size) (hmy : MY l) (hmys : MYs ls) (hm : m ≤ 8) (hpos : l.length ≠ 0) :
    Calls Try.prog 19 #[.slice A n c, .slice R m cm] w fun e w' => ∃ v, e = .returned v ∧ OJ w.heap.size w' v (natI (bestR m (enR l ls) (2 ^ m))) ∧ Below w.heap.size w w' := by
  have hlen := hr.1
  have hll := hl.len
  subst hll
  have h0b : ((l.length : Int) == 0) = false := beq_eq_false_iff_ne.2 (by omega)
  obtain ⟨NL, hNL⟩ : ∃ N, l.length = N := ⟨_, rfl⟩
  rw [hNL] at h0b hl ⊢
  obtain ⟨N, hN⟩ : ∃ N, 2 ^ m = N := ⟨_, rfl⟩
  have hN1 : 1 ≤ N := by rw [← hN]; exact Nat.one_le_two_pow
  have hN256 : N ≤ 256 := by
    rw [← hN]
    calc 2 ^ m ≤ 2 ^ 8 := Nat.pow_le_pow_right (by decide) hm
      _ = 256 := rfl
  have hzs : (2 : Int) ^ m = (N : Int) := by rw [← hN]; simp
  have hw1 : wrap64 ((2 : Int) ^ m) = (N : Int) := by rw [hzs]; unfold wrap64; omega
  rw [hN]
  clear hN
  go_enter Try.func19, Try.ntmps19
  go_wp2
  go_loopw [5, 6, 7, 8, 9, 10, 11] (fun v i s7 s8 s9 s10 s11 wr => ∃ k : Nat, i = .int .i64 (k : Int) ∧ k ≤ N ∧ OJ w.heap.size wr v (natI (bestR m (enR l ls) k)) ∧ Below w.heap.size w wr) (fun _ i _ _ _ _ _ _ => N - (intOf i).toNat)
  case atStart => exact ⟨0, by go_num, by omega, OJ.nil _ _, Below.refl _ _⟩
  case round =>
    obtain ⟨k, rfl, hk, hO, hbw⟩ := hrel
    by_cases hlt : k < N
    · have hlz : (k : Int) < (N : Int) := by omega
      have hsucc := Lib.hid (bestR_succ m (enR l ls) k)
      obtain ⟨T, hT⟩ : ∃ T, bestR m (enR l ls) k = T := ⟨_, rfl⟩
      have hTl : T.length ≤ m := by
        rw [← hT]
        clear hsucc hO hT hlz hlt hk
        induction k with
        | zero => simp [bestR]
        | succ k ih =>
          rw [bestR_succ]
          unfold stepR
          split
          · exact placesO_len _ _
          · exact ih
      rw [hT] at hO
      have hT := Lib.hid hT
      go_wp2
      clear hzs hw1
      obtain ⟨b0, hb0⟩ : ∃ b0, wr.heap.size = b0 := ⟨_, rfl⟩
      have hO5 : ∀ g, u5.ownBlock = some g → g < b0 := fun g hg => by rw [← hb0]; exact (hO.lt g hg).2
      have hb0w : w.heap.size ≤ b0 := by rw [← hb0]; exact hbw.size
      go_loopw [7, 8, 9] (fun lv pv i wq => ∃ j : Nat, i = .int .i64 (j : Int) ∧ j ≤ m ∧ OM B w.heap.size wq lv (chosenO ls (placesO j k)) ∧ OJ b0 wq pv (natI (placesO j k)) ∧ OJ w.heap.size wq u5 (natI T) ∧ b0 ≤ wq.heap.size ∧ Below w.heap.size w wq) (fun _ _ i _ => m - (intOf i).toNat)
      case atStart => exact ⟨0, by go_num, by omega, OM.nil _ _ _, OJ.nil _ _, hO, by omega, hbw⟩
      case round =>
        obtain ⟨j, rfl, hj, hL, hP, hO2, hbz, hbq⟩ := hrel
        by_cases hjm : j < m
        · have hjz : (j : Int) < (m : Int) := by omega
          have hps := placesO_succ j k
          have htb := tmod_bit k j
          obtain ⟨d, hd⟩ : ∃ d, k / 2 ^ j % 2 = d := ⟨_, rfl⟩
          have hd2 : d < 2 := by omega
          rw [hd] at htb hps
          have hwd : wrap64 (d : Int) = (d : Int) := by unfold wrap64; omega
          obtain ⟨b, off, x, Ai, ci, rfl, hx, hcell0, hil0, hlc, hcm, hwx, hbB⟩ := hr.place hjm
          have hcell := (hbq.cell (p := ⟨b, off + j, none⟩) (World.block_lt_of_cell? _ _ hcell0)).trans hcell0
          have hil := hil0.below hbq
          have hpl := placesO_len j k
          rw [← natI_len] at hpl
          have hcl : (chosenO ls (placesO j k)).length ≤ 8 := by
            unfold chosenO
            have h1 := List.length_filterMap_le (fun p => ls[p]?) (placesO j k)
            have h2 := placesO_len j k
            omega
          by_cases hd1 : d = 1
          · subst hd1
            rw [if_pos rfl] at hps
            have htc : chosenO ls (placesO (j + 1) k) = chosenO ls (placesO j k) ++ [x] := by rw [hps]; exact chosenO_snoc _ hx
            have htp : natI (placesO (j + 1) k) = natI (placesO j k) ++ [(j : Int)] := by rw [hps, natI_snoc]
            have hLa := hL.alloc (.cells #[.slice Ai x.length ci] 26)
            have hila := hil.alloc (.cells #[.slice Ai x.length ci] 26)
            have hPa := hP.alloc (.cells #[.slice Ai x.length ci] 26)
            have hOa := hO2.alloc (.cells #[.slice Ai x.length ci] 26)
            have hbqa := hbq.alloc hbq.size (.cells #[.slice Ai x.length ci] 26)
            have hza : b0 ≤ (wr.alloc (.cells #[.slice Ai x.length ci] 26)).heap.size := by simp only [World.size_alloc]; omega
            clear hd hps hcell0 hil0
            go_wp2_with (first | (at_builtin; refine wpAppM1 rfl _ _ rfl B w.heap.size _ _ rfl hLa wr.heap.size 1 x Ai ci rfl (by go_simp) hila hlc hcm hwx hbB hB (by omega) hbqa.size ?_; rintro v5 w5 hG5 hk5; have hP5 := (hPa.kept hk5 (fun g hg e => hLa.neJ hPa e hg)).alloc (.cells #[.int .i64 (j : Int)] 3); have hO5' := (hOa.kept hk5 (fun g hg e => hLa.neJ hOa e hg)).alloc (.cells #[.int .i64 (j : Int)] 3); have hG5a := hG5.alloc (.cells #[.int .i64 (j : Int)] 3); have hb5 := (hbqa.trans (hk5.below hbqa.size (fun q hq e => by have := (hLa.lt q e).1; omega))); have hb5a := hb5.alloc hb5.size (.cells #[.int .i64 (j : Int)] 3); have hz5 : b0 ≤ (w5.alloc (.cells #[.int .i64 (j : Int)] 3)).heap.size := (by have := hk5.size; simp only [World.size_alloc] at this ⊢; omega)) | (at_builtin; refine wpAppJ rfl _ _ rfl b0 _ _ rfl hP5 _ 1 1 [(j : Int)] rfl (IR.one_ w5 _ _) (by omega) hz5 ?_; rintro v6 w6 hP6 hk6 hl6))
            go_roundw
            case measure => simp [intOf]; omega
            case rel =>
              refine ⟨j + 1, by go_num, by omega, by rw [htc]; exact hG5a.kept hk6 (fun g hg e => hG5a.neJ hP5 hg e) (fun g hg e => by have := (hP5.lt g e).1; omega), by rw [htp]; exact hP6, hO5'.kept hk6 (fun g hg e => by have := (hP5.lt g e).1; have := hO5 g hg; omega), Nat.le_trans hz5 hk6.size, hb5a.trans (hk6.below hb5a.size (fun q hq e => by have := (hP5.lt q e).1; omega))⟩
          · have hd0 : d = 0 := match d, hd1, hd2 with
              | 0, _, _ => rfl
              | 1, h, _ => absurd rfl h
              | n + 2, _, h => absurd h (by simp)
            have htb0 : Int.tmod ((k : Int) / 2 ^ j) 2 = 0 := by rw [htb, hd0]; rfl
            have hw0 : wrap64 0 = 0 := by unfold wrap64; omega
            rw [if_neg hd1] at hps
            clear hd htb hwd hd1 hd0 hd2 hcell0 hil0 hcell hil hbB hlc hcm hwx hpl hcl
            go_wp2
            go_roundw
            case measure => simp [intOf]; omega
            case rel => exact ⟨j + 1, by go_num, by omega, by rw [hps]; exact hL, by rw [hps]; exact hP, hO2, hbz, hbq⟩
        · have hjz : ¬ (j : Int) < (m : Int) := by omega
          have hjm' : j = m := by omega
          subst hjm'
          have hLo := hL.ol hB
          obtain ⟨AL, cL, rfl, hL1, hL2, hLr⟩ := hLo.form
          have hcl : (chosenO ls (placesO j k)).length ≤ 8 := by
            unfold chosenO
            have h1 := List.length_filterMap_le (fun p => ls[p]?) (placesO j k)
            have h2 := placesO_len j k
            omega
          have hst : bestR j (enR l ls) (k + 1) = stepR j (enR l ls) T k := by rw [hsucc.out, hT.out]
          have hpl := placesO_len j k
          have henR : enR l ls (placesO j k) = decide ((leftO l (chosenO ls (placesO j k))).length = 0) := rfl
          obtain ⟨P, hPe⟩ : ∃ P, placesO j k = P := ⟨_, rfl⟩
          unfold stepR at hst
          rw [hPe] at hst henR hP hL1 hLr hcl hpl
          rw [hPe]
          clear hPe hL hLo
          replace hst := Lib.hid hst
          go_wp2_with fail
          refine (prsplit_any A NL c l AL (chosenO ls P).length cL (chosenO ls P) _ _ (hl.below hbq) hLr hmy (chosen_my hmys P) (by omega)).mono ?_
          rintro e w5 ⟨hx5, v5, u5', rfl, hG5, A5, c5, rfl, _⟩
          clear hG5
          have hb5 := hbq.trans (hx5.mono hbq.size)
          have hP5 := hP.below hx5
          have hO55 := hO2.below hx5
          obtain ⟨q, hq⟩ : ∃ q, (leftO l (chosenO ls P)).length = q := ⟨_, rfl⟩
          rw [hq] at henR
          rw [hq]
          by_cases hq0 : 0 < q
          · have hqz : (0 : Int) < (q : Int) := by omega
            have hfin := Lib.hid (show bestR j (enR l ls) (k + 1) = T by rw [hst.out, henR, decide_eq_false (by omega)]; rfl)
            go_wp2
            go_roundw
            case measure => simp [intOf]; omega
            case rel => exact ⟨k + 1, by go_num, by omega, by rw [hfin.out]; exact hO55, hb5⟩
          · have hqz : ¬ (0 : Int) < (q : Int) := by omega
            have hst2 := Lib.hid (show bestR j (enR l ls) (k + 1) = match (decide (T.length = 0) || fewB P T) with | true => P | false => T by rw [hst.out, henR, decide_eq_true (show q = 0 by omega)]; rfl)
            clear henR hst
            obtain ⟨AT, cT, rfl, hT1, hT2, hTr, _⟩ := hO55.form
            obtain ⟨AP, cP, rfl, hP1, hP2, hPr, _⟩ := hP5.form
            rw [natI_len] at hT1 hTr hP1 hPr hO55 hP5
            rw [natI_len, natI_len]
            obtain ⟨tl, htl⟩ : ∃ t, T.length = t := ⟨_, rfl⟩
            obtain ⟨pl, hpl'⟩ : ∃ t, P.length = t := ⟨_, rfl⟩
            rw [htl] at hT1 hTr hTl hO55 hst2
            rw [hpl'] at hP1 hPr hpl hP5
            rw [htl, hpl']
            by_cases ht0 : tl = 0
            · have ht0b : ((tl : Int) == 0) = true := beq_iff_eq.2 (by omega)
              have hfin := Lib.hid (show bestR j (enR l ls) (k + 1) = P by rw [hst2.out, decide_eq_true ht0]; rfl)
              clear ht0
              go_wp2
              go_roundw
              case measure => simp [intOf]; omega
              case rel => exact ⟨k + 1, by go_num, by omega, by rw [hfin.out]; exact hP5.mono hb0w, hb5⟩
            have ht0b : ((tl : Int) == 0) = false := beq_eq_false_iff_ne.2 (by omega)
            by_cases hpt : pl < tl
            · have hptz : (pl : Int) < (tl : Int) := by omega
              have hfin := Lib.hid (show bestR j (enR l ls) (k + 1) = P by rw [hst2.out, show fewB P T = true by unfold fewB; rw [htl, hpl', decide_eq_true hpt]; rfl, Bool.or_true])
              go_wp2
              go_roundw
              case measure => simp [intOf]; omega
              case rel => exact ⟨k + 1, by go_num, by omega, by rw [hfin.out]; exact hP5.mono hb0w, hb5⟩
            have hptz : ¬ (pl : Int) < (tl : Int) := by omega
            by_cases hpe : pl = tl
            · have hpeb : ((pl : Int) == (tl : Int)) = true := beq_iff_eq.2 (by omega)
              have hfe := Lib.hid (show fewB P T = decide (P < T) by unfold fewB; rw [htl, hpl', decide_eq_false hpt, decide_eq_true hpe]; rfl)
              subst hpe
              go_wp2_with fail
              refine (prahead_any AP AT pl cP cT P T _ hPr hTr (by omega)).mono ?_
              rintro e w6 ⟨rfl, hx6⟩
              have hb6 := hb5.trans (hx6.mono hb5.size)
              have hP6 := hP5.below hx6
              have hO6 := hO55.below hx6
              cases hlt2 : decide (P < T) with
              | true =>
                have hfin := Lib.hid (show bestR j (enR l ls) (k + 1) = P by rw [hst2.out, hfe.out, hlt2, Bool.or_true])
                go_wp2
                go_roundw
                case measure => simp [intOf]; omega
                case rel => exact ⟨k + 1, by go_num, by omega, by rw [hfin.out]; exact hP6.mono hb0w, hb6⟩
              | false =>
                have hfin := Lib.hid (show bestR j (enR l ls) (k + 1) = T by rw [hst2.out, hfe.out, hlt2, decide_eq_false ht0]; rfl)
                go_wp2
                go_roundw
                case measure => simp [intOf]; omega
                case rel => exact ⟨k + 1, by go_num, by omega, by rw [hfin.out]; exact hO6, hb6⟩
            · have hpeb : ((pl : Int) == (tl : Int)) = false := beq_eq_false_iff_ne.2 (by omega)
              have hfin := Lib.hid (show bestR j (enR l ls) (k + 1) = T by rw [hst2.out, show fewB P T = false by unfold fewB; rw [htl, hpl', decide_eq_false hpt, decide_eq_false hpe]; rfl, decide_eq_false ht0]; rfl)
              go_wp2
              go_roundw
              case measure => simp [intOf]; omega
              case rel => exact ⟨k + 1, by go_num, by omega, by rw [hfin.out]; exact hO55, hb5⟩
    · have hlz : ¬ (k : Int) < (N : Int) := by omega
      have hkN : k = N := by omega
      subst hkN
      go_wp2
      go_ret
      exact ⟨_, rfl, hO, hbw⟩
end Go.Proofs.Ytkofaobdpmbcaaa
