/- 'IdentMarks' returns true for every input: the row of this law, proved. No condition. -/
import Derived.Test.YtpendcaefjbomaaIdY
import Derived.Test.YtpendcaefjbomaaRgT
import Derived.Deep.CutBlock
import Derived.Deep.CutRange
import Derived.ProofKit
import Derived.OpenShut
import Derived.ShutString
import Derived.ChangeOld
import Derived.SizedLaws
namespace Go.Proofs.Ytpendcaefjbomaa
open Go.RowKit
set_option linter.unusedVariables false
set_option linter.unusedSimpArgs false
set_option maxRecDepth 100000 in
set_option maxHeartbeats 12800000 in
theorem identMarks_walk {w : World} (a : Option Addr) (len cap : Nat) (fo : Nat → OpX) (ho : OPX w a len fo) (hc : len ≤ cap) (hm0 : cap ≤ 9223372036854775807) :
    Calls Try.prog 8 #[.slice a len cap] w fun e w' => e = .returned (.bool true) ∧ Below w.heap.size w w' := by
  go_enter Try.func8, Try.ntmps8
  go_wp2_with fail
  refine (tnew_any _).mono ?_
  rintro e w1 ⟨p, b, rfl, hS, -, -, hb1⟩
  have hT1 := TI.of hS
  have hL1 : ∀ g, (w.heap.size ≤ g ∧ g < w1.heap.size) → w.heap.size ≤ g := fun g hg => hg.1
  clear hS
  go_wp2_with fail
  refine (lives_any _).mono ?_
  rintro e w2 ⟨rfl, hx2⟩
  have hT2 := hT1.below hx2
  have hb2 := hb1.trans (hx2.mono hb1.size)
  clear hT1 hb1 hx2
  go_wp2
  go_loopw [4, 5, 6, 7, 8, 9] (fun i s5 s6 s7 s8 s9 wr => ∃ (k : Nat) (F : Nat → Prop) (cl : Int → Cl) (cs : List Int), i = .int .i64 (k : Int) ∧ k ≤ len ∧ k ≤ 200 ∧ TI F wr p b k cl cs ∧ (∀ g, F g → w.heap.size ≤ g) ∧ Below w.heap.size w wr ∧ Hid (MInv cl k)) (fun i _ _ _ _ _ _ => 200 - (intOf i).toNat)
  case atStart => exact ⟨0, _, _, _, by go_num, by omega, by omega, hT2, hL1, hb2, Lib.hid MInv.start⟩
  case round =>
    clear hT2 hL1 hb2
    obtain ⟨k, F, cl, cs, rfl, hkl, hk2, hT, hL, hbr, hMI⟩ := hrel
    by_cases hlt : k < len
    · have hlz : (k : Int) < (len : Int) := by omega
      by_cases hlt2 : k < 200
      · have hlz2 : (k : Int) < 200 := by omega
        obtain ⟨rb, ro, rfl, hrb, hrow⟩ := ho (by omega)
        have hx := (hrow k hlt).below hbr
        generalize fo k = x at hx
        obtain ⟨⟨k0, k1, k2, l, a0, a1, a2, a3⟩, A, c⟩ := x
        obtain ⟨x0, x1, x2, x3, x4, x5, x6, x7, ⟨hl, hcap, hcapm, wk1, wk2, wk4, wk5⟩⟩ := hx
        dsimp only at x0 x1 x2 x3 x4 x5 x6 x7 hl hcap hcapm wk1 wk2 wk4 wk5
        clear hrow
        have hTa := hT.below ((Below.refl wr.heap.size wr).alloc (Nat.le_refl _) (.cells #[.int .i64 k0, .int .i64 k1, .int .i64 k2, .slice A l.length c, .int .i64 a0, .int .i64 a1, .int .i64 a2, .int .i64 a3] 37))
        have hba := hbr.alloc hbr.size (.cells #[.int .i64 k0, .int .i64 k1, .int .i64 k2, .slice A l.length c, .int .i64 a0, .int .i64 a1, .int .i64 a2, .int .i64 a3] 37)
        have hBa := Blk.new wr 37 #[.int .i64 k0, .int .i64 k1, .int .i64 k2, .slice A l.length c, .int .i64 a0, .int .i64 a1, .int .i64 a2, .int .i64 a3]
        have hla := hl.kept ((Keep.refl (fun _ => False) wr).alloc (.cells #[.int .i64 k0, .int .i64 k1, .int .i64 k2, .slice A l.length c, .int .i64 a0, .int .i64 a1, .int .i64 a2, .int .i64 a3] 37)) (fun _ _ => id)
        have hFo : ∀ g, F g → g ≠ wr.heap.size := fun g hg => by have := hT.2 g hg; omega
        obtain ⟨ob, hob⟩ : ∃ ob, wr.heap.size = ob := ⟨_, rfl⟩
        rw [hob] at hBa hFo
        have e1 := hBa.cell 1
        simp only [List.getElem?_toArray, List.getElem?_cons_succ, List.getElem?_cons_zero] at e1
        clear hT hbr hl
        have hmk : ∃ bf : Int, (Calls Try.prog 20 #[.pointer (some ⟨p, 0, none⟩), .int .i64 k1] (wr.alloc (.cells #[.int .i64 k0, .int .i64 k1, .int .i64 k2, .slice A l.length c, .int .i64 a0, .int .i64 a1, .int .i64 a2, .int .i64 a3] 37)) fun e w' => e = .returned (.int .i64 bf) ∧ Below (wr.alloc (.cells #[.int .i64 k0, .int .i64 k1, .int .i64 k2, .slice A l.length c, .int .i64 a0, .int .i64 a1, .int .i64 a2, .int .i64 a3] 37)).heap.size (wr.alloc (.cells #[.int .i64 k0, .int .i64 k1, .int .i64 k2, .slice A l.length c, .int .i64 a0, .int .i64 a1, .int .i64 a2, .int .i64 a3] 37)) w') ∧ ((mayC k1 ∧ bf = (cl k1).k) ∨ (¬ mayC k1 ∧ bf = 0)) := by
          by_cases hmc : mayC k1
          · exact ⟨_, mark_any hTa.1 k1 wk1 hmc, .inl ⟨hmc, rfl⟩⟩
          · exact ⟨0, (mark_no (some ⟨p, 0, none⟩) k1 _ (.inr hmc)).mono (fun e w' h => ⟨h.1, by rw [h.2]; exact Below.refl _ _⟩), .inr ⟨hmc, rfl⟩⟩
        obtain ⟨bf, hmk, hbf⟩ := hmk
        go_wp2_with fail
        try rw [hob]
        refine hmk.mono ?_
        rintro e w4 ⟨rfl, hx4⟩
        have hT := hTa.below hx4
        have hb0 := hba.trans (hx4.mono hba.size)
        have hB := hBa.kept (Keep.of_below hx4) (Nat.not_le.2 hBa.lt)
        have hl := hla.kept (Keep.ofB (S := fun _ => False) hx4) (fun _ _ => id)
        have hnob : ¬ F ob := fun e => hFo ob e rfl
        clear hmk hTa hba hBa hla e1 x0 x1 x2 x3 x4 x5 x6 x7 hx4
        have e0 := hB.cell 0
        have e1 := hB.cell 1
        have e2 := hB.cell 2
        have e3 := hB.cell 3
        have e4 := hB.cell 4
        have e5 := hB.cell 5
        have e6 := hB.cell 6
        have e7 := hB.cell 7
        simp only [List.getElem?_toArray, List.getElem?_cons_succ, List.getElem?_cons_zero] at e0 e1 e2 e3 e4 e5 e6 e7
        go_upto_block 2 with fail
        go_cut [7, 8, 9] from 37 to 101 (fun s7 s8 s9 wc => ∃ (F' : Nat → Prop) (cl' : Int → Cl) (cs' : List Int), TI F' wc p b (k + 1) cl' cs' ∧ (∀ g, F' g → w.heap.size ≤ g) ∧ Below w.heap.size w wc ∧ Hid (MInv cl' (k + 1)) ∧ (∀ i, (cl i).k ≤ (cl' i).k) ∧ Blk wc ob 37 #[.int .i64 k0, .int .i64 k1, .int .i64 k2, .slice A l.length c, .int .i64 a0, .int .i64 a1, .int .i64 a2, .int .i64 a3])
        case first =>
          by_cases h1 : k0 = 1
          · as_aux_lemma =>
              subst h1
              have hak := ask_i hT k1 k2 wk1 wk2 A l.length c l hl hcap hcapm (by unfold maxLen; omega)
              obtain ⟨V, hV⟩ : ∃ V, vd cl k1 k2 (mixOf 7 l : Int) = V := ⟨_, rfl⟩
              obtain ⟨R, hR⟩ : ∃ R, vr cl k1 k2 (mixOf 7 l : Int) = R := ⟨_, rfl⟩
              have hvc := vd_cases cl k1 k2 (mixOf 7 l : Int)
              rw [hV, hR] at hak
              rw [hV] at hvc
              clear hR
              obtain ⟨R0, R1, R2, R3, R4, R5⟩ := R
              change Calls _ _ _ _ (fun e w' => e = .returned (.tuple #[.int .i64 V, .agg #[.int .i64 R2, .int .i64 R3, .int .i64 R4, .int .i64 R5]]) ∧ _) at hak
              go_wp2_with fail
              refine hak.mono ?_
              rintro e w5 ⟨rfl, F5, cl5, cs5, hT5, hk5, hF5, hto⟩
              have hmi := hMI.out.ask hto
              have hb5 := hb0.trans (hk5.below (B := w.heap.size) hb0.size (fun j hj e => by have := hL j e; omega))
              have hL5 : ∀ g, F5 g → w.heap.size ≤ g := fun g hg => (hF5 g hg).elim (hL g) (fun e => by have := hb0.size; omega)
              have hB5 := hB.kept hk5 hnob
              have hT6 := hT5.below ((Below.refl w5.heap.size w5).alloc (Nat.le_refl _) (.cells #[.int .i64 R2, .int .i64 R3, .int .i64 R4, .int .i64 R5] 35))
              have hb6 := hb5.alloc hb5.size (.cells #[.int .i64 R2, .int .i64 R3, .int .i64 R4, .int .i64 R5] 35)
              have hB6 := hB5.alloc (.cells #[.int .i64 R2, .int .i64 R3, .int .i64 R4, .int .i64 R5] 35)
              have s2 := hB6.cell 2
              simp only [List.getElem?_toArray, List.getElem?_cons_succ, List.getElem?_cons_zero] at s2
              clear hak hT5 hb5 hto e1 e2 e3 hT
              replace hmi := Lib.hid hmi
              rcases hbf with ⟨hc, hbe⟩ | ⟨hc, hbe⟩
              · have g1 : decide (0 < bf) = true := decide_eq_true (by have := (hMI.out k1).1; omega)
                by_cases hn : k2 < (cl k1).k
                · by_cases h1n : 1 ≤ k2
                  · have hV5 : V = 5 := by
                      have := (hMI.out k1).2.1
                      rcases hvc with ⟨_, h9⟩ | ⟨_, _, ⟨h9, _⟩ | ⟨h9, _⟩⟩
                      · exact absurd ⟨hc, ⟨h1n, by omega⟩⟩ h9
                      · exact h9
                      · omega
                    subst hV5
                    have g2 : decide (1 ≤ k2) = true := decide_eq_true h1n
                    have g3 : decide (k2 < bf) = true := decide_eq_true (by omega)
                    have g4 : decide (bf ≤ k2) = false := decide_eq_false (by omega)
                    clear hvc h1n hn hV hbe
                    go_wp2
                    go_meet
                    exact ⟨F5, cl5, cs5, hT6, hL5, hb6, Lib.hid hmi.out.1, hmi.out.2, hB6⟩
                  · have hV0 : V = 0 := by
                      rcases hvc with ⟨h9, _⟩ | ⟨_, h9, _⟩
                      · exact h9
                      · exact absurd h9.1 h1n
                    subst hV0
                    have g2 : decide (1 ≤ k2) = false := decide_eq_false h1n
                    clear hvc h1n hn hV hbe
                    go_wp2
                    go_meet
                    exact ⟨F5, cl5, cs5, hT6, hL5, hb6, Lib.hid hmi.out.1, hmi.out.2, hB6⟩
                · have g5 : (V == 5) = false := beq_eq_false_iff_ne.2 (fun e => by
                    rcases hvc with ⟨h9, _⟩ | ⟨_, _, ⟨_, h9⟩ | ⟨_, h9⟩⟩
                    · omega
                    · omega
                    · rcases h9 with ⟨h9, _⟩ | ⟨h9, _⟩ | ⟨h9, _⟩ | ⟨h9, _⟩ | ⟨h9, _⟩ <;> omega)
                  have g3 : decide (k2 < bf) = false := decide_eq_false (by omega)
                  clear hvc hn hV hbe
                  by_cases h1n : 1 ≤ k2
                  · have g2 : decide (1 ≤ k2) = true := decide_eq_true h1n
                    clear h1n
                    go_wp2
                    go_meet
                    exact ⟨F5, cl5, cs5, hT6, hL5, hb6, Lib.hid hmi.out.1, hmi.out.2, hB6⟩
                  · have g2 : decide (1 ≤ k2) = false := decide_eq_false h1n
                    clear h1n
                    go_wp2
                    go_meet
                    exact ⟨F5, cl5, cs5, hT6, hL5, hb6, Lib.hid hmi.out.1, hmi.out.2, hB6⟩
              · have hV0 : V = 0 := by
                  rcases hvc with ⟨h9, _⟩ | ⟨h9, _⟩
                  · exact h9
                  · exact absurd h9 hc
                subst hV0
                have g1 : decide (0 < bf) = false := decide_eq_false (by omega)
                clear hvc hV hbe
                go_wp2
                go_meet
                exact ⟨F5, cl5, cs5, hT6, hL5, hb6, Lib.hid hmi.out.1, hmi.out.2, hB6⟩
          by_cases h2 : k0 = 2
          · as_aux_lemma =>
              subst h2
              have hak := tell_i hT a0 a1 a2 a3 wk4 wk5 (by unfold maxLen; omega)
              go_wp2_with fail
              refine hak.mono ?_
              rintro e w5 ⟨rfl, cl5, hT6, hk5, hto⟩
              have hmi := hMI.out.tell hto
              have hb5 := hb0.trans (hk5.below (B := w.heap.size) hb0.size (fun j hj e => by have := hL j e; omega))
              have hB6 := hB.kept hk5 hnob
              clear hak hto e1 e2 e3 e4 e5 e6 e7 hT
              replace hmi := Lib.hid hmi
              go_wp2
              go_meet
              exact ⟨F, cl5, cs, hT6, hL, hb5, Lib.hid hmi.out.1, hmi.out.2, hB6⟩
          by_cases h3 : k0 = 3
          · as_aux_lemma =>
              subst h3
              have hak := low_i hT k1 k2 wk1 (by have := (hMI.out k1).2.2.1; omega) (by unfold maxLen; omega)
              go_wp2_with fail
              refine hak.mono ?_
              rintro e w5 ⟨E, rfl, F5, cl5, cs5, hT5, hk5, hF5, hto⟩
              have hmi := hMI.out.low hto
              have hb5 := hb0.trans (hk5.below (B := w.heap.size) hb0.size (fun j hj e => by have := hL j e; omega))
              have hL5 : ∀ g, F5 g → w.heap.size ≤ g := fun g hg => (hF5 g hg).elim (hL g) (fun e => by have := hb0.size; omega)
              have hB5 := hB.kept hk5 hnob
              clear hak hto e1 e2 e3 hT
              go_upto_region 18 with fail
              have hT6 := hT5.below (Below.refl w5.heap.size w5).drew
              have hb6 := hb5.drew
              have hB6 := hB5.drew
              have m1 := hB6.cell 1
              have m2 := hB6.cell 2
              simp only [List.getElem?_toArray, List.getElem?_cons_succ, List.getElem?_cons_zero] at m1 m2
              have sd : (fun W => W.cell? ⟨ob, 1, none⟩ = some (.int .i64 k1) ∧ W.cell? ⟨ob, 2, none⟩ = some (.int .i64 k2)) w5.drew := ⟨m1, m2⟩
              clear hT5 hb5 hB5 m1 m2
              by_cases hE : E = 0
              · subst hE
                obtain ⟨hmc, hle⟩ := hmi.2 rfl
                have hmk := mark_any hT6.1 k1 wk1 hmc
                have g9 : decide ((cl5 k1).k < k2) = false := decide_eq_false (by omega)
                obtain ⟨kk, hkk⟩ : ∃ kk, (cl5 k1).k = kk := ⟨_, rfl⟩
                rw [hkk] at hmk g9
                clear hle hkk
                replace hmi := Lib.hid hmi.1
                refine wp_region_held_drew (S := (fun W => W.cell? ⟨ob, 1, none⟩ = some (.int .i64 k1) ∧ W.cell? ⟨ob, 2, none⟩ = some (.int .i64 k2))) (by kernel_rfl) sd (fun hHeld => ?_)
                generalize w5.drew = wz at *
                (refine tkI 0 (by (simp only [List.getElem?_toArray, List.getElem?_cons_succ, List.getElem?_cons_zero]; rfl)) (by kernel_rfl) (by kernel_rfl) (by kernel_rfl) (by exact fun _ _ _ h => h) (by rfl) (by (intro w hSw; (try dsimp only at hSw); go_simp <;> with_reducible rfl)) (by assumption) ?_; try simp only [Act.put, List.setIfInBounds_toArray, List.set_cons_zero, List.set_cons_succ])
                (refine tkI 1 (by (simp only [List.getElem?_toArray, List.getElem?_cons_succ, List.getElem?_cons_zero]; rfl)) (by kernel_rfl) (by kernel_rfl) (by kernel_rfl) (by exact fun _ _ _ h => h) (by rfl) (by (intro w hSw; (try dsimp only at hSw); go_simp <;> with_reducible rfl)) (by assumption) ?_; try simp only [Act.put, List.setIfInBounds_toArray, List.set_cons_zero, List.set_cons_succ])
                (refine tkI 2 (by (simp only [List.getElem?_toArray, List.getElem?_cons_succ, List.getElem?_cons_zero]; rfl)) (by kernel_rfl) (by kernel_rfl) (by kernel_rfl) (by exact fun _ _ _ h => h) (by rfl) (by (intro w hSw; (try dsimp only at hSw); go_simp <;> with_reducible rfl)) (by assumption) ?_; try simp only [Act.put, List.setIfInBounds_toArray, List.set_cons_zero, List.set_cons_succ])
                (refine tkI 3 (by (simp only [List.getElem?_toArray, List.getElem?_cons_succ, List.getElem?_cons_zero]; rfl)) (by kernel_rfl) (by kernel_rfl) (by kernel_rfl) (by exact fun _ _ _ h => h) (by rfl) (by (intro w hSw; (try dsimp only at hSw); go_simp <;> with_reducible rfl)) (by assumption) ?_; try simp only [Act.put, List.setIfInBounds_toArray, List.set_cons_zero, List.set_cons_succ])
                (refine tkI 4 (by (simp only [List.getElem?_toArray, List.getElem?_cons_succ, List.getElem?_cons_zero]; rfl)) (by kernel_rfl) (by kernel_rfl) (by kernel_rfl) (by exact fun _ _ _ h => h) (by rfl) (by (intro w hSw; (try dsimp only at hSw); go_simp <;> with_reducible rfl)) (by assumption) ?_; try simp only [Act.put, List.setIfInBounds_toArray, List.set_cons_zero, List.set_cons_succ])
                (refine tkI 5 (by (simp only [List.getElem?_toArray, List.getElem?_cons_succ, List.getElem?_cons_zero]; rfl)) (by kernel_rfl) (by kernel_rfl) (by kernel_rfl) (by exact fun _ _ _ h => h) (by rfl) (by (intro w hSw; (try dsimp only at hSw); go_simp <;> with_reducible rfl)) (by assumption) ?_; try simp only [Act.put, List.setIfInBounds_toArray, List.set_cons_zero, List.set_cons_succ])
                (refine tkI 7 (by (simp only [List.getElem?_toArray, List.getElem?_cons_succ, List.getElem?_cons_zero]; rfl)) (by kernel_rfl) (by kernel_rfl) (by kernel_rfl) (by exact fun _ _ _ h => h) (by rfl) (by (intro w hSw; (try dsimp only at hSw); go_simp <;> with_reducible rfl)) (by assumption) ?_; try simp only [Act.put, List.setIfInBounds_toArray, List.set_cons_zero, List.set_cons_succ])
                (refine tkI 8 (by (simp only [List.getElem?_toArray, List.getElem?_cons_succ, List.getElem?_cons_zero]; rfl)) (by kernel_rfl) (by kernel_rfl) (by kernel_rfl) (by exact fun _ _ _ h => h) (by rfl) (by (intro w hSw; (try dsimp only at hSw); go_simp <;> with_reducible rfl)) (by assumption) ?_; try simp only [Act.put, List.setIfInBounds_toArray, List.set_cons_zero, List.set_cons_succ])
                refine wpAnyH_ready (rs := [6]) (by kernel_rfl) (by simp) ?_
                refine AllReadyH.cons (by (simp only [List.getElem?_toArray, List.getElem?_cons_succ, List.getElem?_cons_zero]; rfl)) (fun K hK => ?_) AllReadyH.nil
                go_simp
                refine hmk.mono ?_
                rintro e w7 ⟨rfl, hx7⟩
                have hT7 := TI.below hT6 hx7
                have hb7 := hb6.trans (hx7.mono hb6.size)
                have hB7 := hB6.kept (Keep.of_below hx7) (Nat.not_le.2 hB6.lt)
                have m1 := hB7.cell 1
                have m2 := hB7.cell 2
                simp only [List.getElem?_toArray, List.getElem?_cons_succ, List.getElem?_cons_zero] at m1 m2
                refine hK.out _ _ ⟨m1, m2⟩ (fun hHeld2 => ?_)
                clear hK K hHeld
                have hHeld := hHeld2
                clear hHeld2
                try simp only [Act.put, List.setIfInBounds_toArray, List.set_cons_zero, List.set_cons_succ]
                (refine tkI 9 (by (simp only [List.getElem?_toArray, List.getElem?_cons_succ, List.getElem?_cons_zero]; rfl)) (by kernel_rfl) (by kernel_rfl) (by kernel_rfl) (by exact fun _ _ _ h => h) (by rfl) (by (intro w hSw; (try dsimp only at hSw); go_simp <;> with_reducible rfl)) (by assumption) ?_; try simp only [Act.put, List.setIfInBounds_toArray, List.set_cons_zero, List.set_cons_succ])
                (refine tkI 10 (by (simp only [List.getElem?_toArray, List.getElem?_cons_succ, List.getElem?_cons_zero]; rfl)) (by kernel_rfl) (by kernel_rfl) (by kernel_rfl) (by exact fun _ _ _ h => h) (by rfl) (by (intro w hSw; (try dsimp only at hSw); go_simp <;> with_reducible rfl)) (by assumption) ?_; try simp only [Act.put, List.setIfInBounds_toArray, List.set_cons_zero, List.set_cons_succ])
                refine wpAnyH_done (by kernel_rfl) ?_ _
                go_wp2
                go_meet
                exact ⟨F5, cl5, cs5, hT7, hL5, hb7, Lib.hid hmi.out.1, hmi.out.2, hB7⟩
              · have g9 : (E == 0) = false := beq_eq_false_iff_ne.2 hE
                replace hmi := Lib.hid hmi.1
                clear hE
                refine wp_region_held_drew (S := (fun W => W.cell? ⟨ob, 1, none⟩ = some (.int .i64 k1) ∧ W.cell? ⟨ob, 2, none⟩ = some (.int .i64 k2))) (by kernel_rfl) sd (fun hHeld => ?_)
                generalize w5.drew = wz at *
                (refine tkI 0 (by (simp only [List.getElem?_toArray, List.getElem?_cons_succ, List.getElem?_cons_zero]; rfl)) (by kernel_rfl) (by kernel_rfl) (by kernel_rfl) (by exact fun _ _ _ h => h) (by rfl) (by (intro w hSw; (try dsimp only at hSw); go_simp <;> with_reducible rfl)) (by assumption) ?_; try simp only [Act.put, List.setIfInBounds_toArray, List.set_cons_zero, List.set_cons_succ])
                (refine tkI 1 (by (simp only [List.getElem?_toArray, List.getElem?_cons_succ, List.getElem?_cons_zero]; rfl)) (by kernel_rfl) (by kernel_rfl) (by kernel_rfl) (by exact fun _ _ _ h => h) (by rfl) (by (intro w hSw; (try dsimp only at hSw); go_simp <;> with_reducible rfl)) (by assumption) ?_; try simp only [Act.put, List.setIfInBounds_toArray, List.set_cons_zero, List.set_cons_succ])
                (refine tkI 2 (by (simp only [List.getElem?_toArray, List.getElem?_cons_succ, List.getElem?_cons_zero]; rfl)) (by kernel_rfl) (by kernel_rfl) (by kernel_rfl) (by exact fun _ _ _ h => h) (by rfl) (by (intro w hSw; (try dsimp only at hSw); go_simp <;> with_reducible rfl)) (by assumption) ?_; try simp only [Act.put, List.setIfInBounds_toArray, List.set_cons_zero, List.set_cons_succ])
                (refine tkIN 3 (by (simp only [List.getElem?_toArray, List.getElem?_cons_succ, List.getElem?_cons_zero]; rfl)) (by kernel_rfl) (by kernel_rfl) (by kernel_rfl) (by exact fun _ _ _ h => h) (by rfl) (by assumption) ?_; try simp only [Act.put, List.setIfInBounds_toArray, List.set_cons_zero, List.set_cons_succ])
                (refine tkIN 4 (by (simp only [List.getElem?_toArray, List.getElem?_cons_succ, List.getElem?_cons_zero]; rfl)) (by kernel_rfl) (by kernel_rfl) (by kernel_rfl) (by exact fun _ _ _ h => h) (by rfl) (by assumption) ?_; try simp only [Act.put, List.setIfInBounds_toArray, List.set_cons_zero, List.set_cons_succ])
                (refine tkIN 5 (by (simp only [List.getElem?_toArray, List.getElem?_cons_succ, List.getElem?_cons_zero]; rfl)) (by kernel_rfl) (by kernel_rfl) (by kernel_rfl) (by exact fun _ _ _ h => h) (by rfl) (by assumption) ?_; try simp only [Act.put, List.setIfInBounds_toArray, List.set_cons_zero, List.set_cons_succ])
                (refine tkIN 6 (by (simp only [List.getElem?_toArray, List.getElem?_cons_succ, List.getElem?_cons_zero]; rfl)) (by kernel_rfl) (by kernel_rfl) (by kernel_rfl) (by exact fun _ _ _ h => h) (by rfl) (by assumption) ?_; try simp only [Act.put, List.setIfInBounds_toArray, List.set_cons_zero, List.set_cons_succ])
                (refine tkIN 7 (by (simp only [List.getElem?_toArray, List.getElem?_cons_succ, List.getElem?_cons_zero]; rfl)) (by kernel_rfl) (by kernel_rfl) (by kernel_rfl) (by exact fun _ _ _ h => h) (by rfl) (by assumption) ?_; try simp only [Act.put, List.setIfInBounds_toArray, List.set_cons_zero, List.set_cons_succ])
                (refine tkIN 8 (by (simp only [List.getElem?_toArray, List.getElem?_cons_succ, List.getElem?_cons_zero]; rfl)) (by kernel_rfl) (by kernel_rfl) (by kernel_rfl) (by exact fun _ _ _ h => h) (by rfl) (by assumption) ?_; try simp only [Act.put, List.setIfInBounds_toArray, List.set_cons_zero, List.set_cons_succ])
                (refine tkIN 9 (by (simp only [List.getElem?_toArray, List.getElem?_cons_succ, List.getElem?_cons_zero]; rfl)) (by kernel_rfl) (by kernel_rfl) (by kernel_rfl) (by exact fun _ _ _ h => h) (by rfl) (by assumption) ?_; try simp only [Act.put, List.setIfInBounds_toArray, List.set_cons_zero, List.set_cons_succ])
                (refine tkI 10 (by (simp only [List.getElem?_toArray, List.getElem?_cons_succ, List.getElem?_cons_zero]; rfl)) (by kernel_rfl) (by kernel_rfl) (by kernel_rfl) (by exact fun _ _ _ h => h) (by rfl) (by (intro w hSw; (try dsimp only at hSw); go_simp <;> with_reducible rfl)) (by assumption) ?_; try simp only [Act.put, List.setIfInBounds_toArray, List.set_cons_zero, List.set_cons_succ])
                refine wpAnyH_done (by kernel_rfl) ?_ _
                go_wp2
                go_meet
                exact ⟨F5, cl5, cs5, hT6, hL5, hb6, Lib.hid hmi.out.1, hmi.out.2, hB6⟩
          as_aux_lemma =>
            go_wp2
            go_meet
            exact ⟨F, cl, cs, hT.up (by omega), hL, hb0, Lib.hid (fun i => ⟨(hMI.out i).1, (hMI.out i).2.1, by have := (hMI.out i).2.2.1; omega, (hMI.out i).2.2.2⟩), fun i => Int.le_refl _, hB⟩
        case rest =>
          obtain ⟨F5, cl5, cs5, hT5, hL5, hb5, hMI5, hge, hB5⟩ := hcut
          clear hT hb0 hB hl e0 e1 e2 e3 e4 e5 e6 e7 hMI hL hnob hFo
          have e1 := hB5.cell 1
          simp only [List.getElem?_toArray, List.getElem?_cons_succ, List.getElem?_cons_zero] at e1
          rcases hbf with ⟨hmc, hbe⟩ | ⟨hmc, hbe⟩
          · have hmk := mark_any hT5.1 k1 wk1 hmc
            have g9 : decide ((cl5 k1).k < bf) = false := decide_eq_false (by have := hge k1; omega)
            clear hge hbe
            go_wp2_with fail
            refine hmk.mono ?_
            rintro e w9 ⟨rfl, hx9⟩
            have hT9 := hT5.below hx9
            have hb9 := hb5.trans (hx9.mono hb5.size)
            clear hmk
            go_wp2
            go_roundw
            case measure => simp [intOf]; omega
            case rel => exact ⟨k + 1, F5, cl5, cs5, by go_num, by omega, by omega, hT9, hL5, hb9, hMI5⟩
          · have g9 : decide ((0 : Int) < bf) = false := decide_eq_false (by omega)
            clear hbe
            go_wp2_with fail
            refine (mark_no (some ⟨p, 0, none⟩) k1 _ (.inr hmc)).mono ?_
            rintro e w9 ⟨rfl, hww⟩
            subst w9
            go_wp2
            go_roundw
            case measure => simp [intOf]; omega
            case rel => exact ⟨k + 1, F5, cl5, cs5, by go_num, by omega, by omega, hT5, hL5, hb5, hMI5⟩
      · have hlz2 : ¬ (k : Int) < 200 := by omega
        clear hT
        go_wp2
        go_ret
        exact ⟨rfl, hbr⟩
    · have hlz : ¬ (k : Int) < (len : Int) := by omega
      clear hT
      go_wp2
      go_ret
      exact ⟨rfl, hbr⟩

namespace identMarksDone
open Go.ChangeShapes Go.WideShapes Go.ChangeAt
set_option maxRecDepth 100000 in
theorem lifted (os : Os) (started : os.Started) (H : Type) (enc : TypeId × Value → H) :
    ReturnsInHanded {} Try.checked os 8 .any (Rows.identMarksSpec.pre6 enc Try.prog Try.f8 Rows.identMarksRow.domain false) (Rows.identMarksSpec.post enc Try.prog Try.f8 false true false false) := by
  refine returnsInHanded_of_change_sized (C := Try.checked) own started (by kernel_rfl) Try.func8
    (ChangeSpec.witness6 (enc := enc) (C := Try.checked) false ⟨#[], #[Value.slice none 0 0], []⟩ 8 (by kernel_rfl) (by kernel_rfl) (by kernel_rfl) (by kernel_rfl)) ?_
  intro W base args ds gs before hval0 hW hcnd hsz0 _
  have hsz : (DataW.weightsEach Try.prog (Try.f8.params.toList ++ Rows.identMarksSpec.plain.varTypes Try.prog) (ds ++ gs)).all (· ≤ reachBytes) = true := hsz0
  clear hsz0
  have hval : ∀ (j : Nat) t v, Try.f8.params[j]? = some t → args[j]? = some v → Value.okWide Try.prog W .any base t v := hval0
  have hW' := hW
  obtain ⟨p, q, hA0, hV, rfl, hfz, hnd⟩ := hW
  have hA : DataW.TrodAll enc Try.prog W 0 (fun _ => true) true Try.f8.params.toList args.toList ds p := hA0
  rw [Try.params8] at hA hval hsz
  obtain ⟨v0, vs0, d0, ds0, p0, q0, hargs, rfl, rfl, h0, r0⟩ := trodAll_cons hA
  obtain ⟨rfl, rfl, rfl⟩ := trodAll_nil r0
  obtain rfl : args = #[v0] := by cases args; simp_all
  obtain ⟨rfl, rfl⟩ := trodVars_none hV
  obtain ⟨a0, len0, cap0, rfl⟩ := okWide_slice Try.underlying22 (hval 0 22 v0 rfl rfl)
  have k0 := h0
  have lt0 : ∀ x ∈ p0, x.block < W.heap.size := by obtain ⟨m, hm⟩ := k0; exact DataW.trod_lt m _ _ _ hm
  obtain ⟨f0, ho0, hc0, hm0⟩ := ops_open h0
  clear hA0 hval0
  refine (identMarks_walk (w := W) a0 len0 cap0 f0 ho0 hc0 hm0).mono fun e W' ⟨he, bel⟩ => ?_
  subst he
  exact ⟨_, rfl, _, _, _, [], _, [], hW', trodAll_mk1 (shut_bool Try.underlying4 _), (trodAll_cons_mk (Below.trod laidOut (by kernel_rfl) (of_decide_eq_true (by kernel_rfl)) k0 bel lt0) trodAll_mk0), rfl, bel.frame _, fun h => by cases h⟩

theorem over : Rows.identMarksRow.holds Try.pinned (OpenSpec.ofChange Rows.identMarksSpec) :=
  OpenClaim.holds_of_wide 8 Try.f8 rfl rfl rfl rfl rfl rfl rfl ⟨rfl, rfl, rfl, rfl, rfl⟩ rfl rfl rfl rfl rfl (by kernel_rfl) Try.func8 (by kernel_rfl)
    (of_decide_eq_true (by kernel_rfl)) (by unfold Func.isWrapper; first | (rw [if_pos (by decide +kernel)]; kernel_rfl) | (rw [if_neg (by decide +kernel)]; exact ⟨rfl, rfl⟩))
    (fun os started H enc _ => lifted os started H enc)

/-- The statement. -/
theorem proved : Rows.IdentMarksSaid := over
end identMarksDone
end Go.Proofs.Ytpendcaefjbomaa
