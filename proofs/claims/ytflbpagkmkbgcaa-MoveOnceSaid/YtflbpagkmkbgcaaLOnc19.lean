/- 'MoveOnce' returns true for every input: the row of this law, proved. No condition. -/
import Derived.Test.YtflbpagkmkbgcaaMvI
import Derived.Test.YtflbpagkmkbgcaaRgT
import Derived.Test.YtflbpagkmkbgcaaROf
import Derived.ProofKit
import Derived.OpenShut
import Derived.ShutString
import Derived.ChangeOld
import Derived.SizedLaws
namespace Go.Proofs.Ytflbpagkmkbgcaa
open Go.RowKit
set_option linter.unusedVariables false
set_option linter.unusedSimpArgs false
open Go.Maps in
set_option maxRecDepth 100000 in
set_option maxHeartbeats 12800000 in
theorem moveOnce_walk {w : World} (a : Option Addr) (len cap : Nat) (fo : Nat → OpX) (ho : OPX w a len fo) (hc : len ≤ cap) (hm0 : cap ≤ 9223372036854775807) :
    Calls Try.prog 4 #[.slice a len cap] w fun e w' => e = .returned (.bool true) ∧ Below w.heap.size w w' := by
  go_enter Try.func4, Try.ntmps4
  go_wp2_with fail
  refine (pnew_any _).mono ?_
  rintro e w1 ⟨p, b, rfl, hP, hpw, hbw, hb⟩
  go_wp2_with fail
  refine (lives_any _).mono ?_
  rintro e w2 ⟨rfl, hl⟩
  replace hP := hP.below hl
  replace hb := hb.trans (hl.mono hb.size)
  clear hl
  have hmm := @run_makeMap Try.prog
  obtain ⟨m1, hm⟩ : ∃ m1, w2.heap.size = m1 := ⟨_, rfl⟩
  have hz3 : (w2.alloc (Obj.map #[] 0)).heap.size = m1 + 1 := by simp [hm]
  have hW0 : IM ((w2.alloc (Obj.map #[] 0)).alloc (Obj.map #[] 0)) m1 0 (fun _ => 0) := ⟨_, by rw [← hm]; exact (World.ownsMap_made w2 Try.prog 3 rR).alloc (Obj.map #[] 0), IP.start⟩
  have hS0 : BM ((w2.alloc (Obj.map #[] 0)).alloc (Obj.map #[] 0)) (m1 + 1) 0 (fun _ => false) := ⟨_, by rw [← hz3]; exact World.ownsMap_made (w2.alloc (Obj.map #[] 0)) Try.prog 3 rR, BP.start⟩
  have hlt := hP.lt
  obtain ⟨m2, hm2⟩ : ∃ m2, m1 + 1 = m2 := ⟨_, rfl⟩
  rw [hm2] at hS0 hz3
  have hP2 := ((hP.mono (G := fun k => w.heap.size ≤ k ∧ k ≠ m1 ∧ k ≠ m2) (fun k h1 h2 => ⟨h2, by omega, by omega⟩)).alloc (Obj.map #[] 0)).alloc (Obj.map #[] 0)
  have hb2 := (hb.alloc hb.size (Obj.map #[] 0)).alloc (Nat.le_trans hb.size (by simp)) (Obj.map #[] 0)
  have hb1 : b ≠ m1 := by omega
  have hb2' : b ≠ m2 := by omega
  have hm12 : m1 ≠ m2 := by omega
  have hmw : w.heap.size ≤ m1 := by rw [← hm]; exact hb.size
  have hm2w : w.heap.size ≤ m2 := by omega
  clear hP hb hlt
  obtain ⟨F, hF⟩ : ∃ F, F = fun k => w.heap.size ≤ k ∧ k ≠ m1 ∧ k ≠ m2 := ⟨_, rfl⟩
  have hFm : ∀ g, F g → ¬ g = m1 ∧ ¬ g = m2 := fun g h => by rw [hF] at h; exact h.2
  have hFn : ∀ W : World, m1 < W.heap.size → m2 < W.heap.size → ∀ k, F k ∨ W.heap.size ≤ k → F k := fun W hW hW2 k h => h.elim id (fun h => by rw [hF]; exact ⟨by omega, by omega, by omega⟩)
  rw [← hF] at hP2
  clear hF
  go_wp2
  try rw [hm]
  try rw [hz3]
  try rw [hm2]
  clear hm hz3 hmm
  generalize (w2.alloc (Obj.map #[] 0)).alloc (Obj.map #[] 0) = w3 at *
  clear hm2
  go_loopw [6, 7, 8, 9] (fun i s7 s8 s9 wr => ∃ k N N1 N2 : Nat, ∃ f ks gw go, i = .int .i64 (k : Int) ∧ k ≤ len ∧ k ≤ 200 ∧ PS F wr p b N f ks ∧ N ≤ k ∧ IM wr m1 N1 gw ∧ N1 ≤ k ∧ BM wr m2 N2 go ∧ N2 ≤ k ∧ JI f ks gw go ∧ Below w.heap.size w wr) (fun i _ _ _ _ => 200 - (intOf i).toNat)
  case atStart => exact ⟨0, 0, 0, 0, _, _, _, _, by go_num, by omega, by omega, hP2, Nat.le_refl _, hW0, Nat.le_refl _, hS0, Nat.le_refl _, JI.start, hb2⟩
  case round =>
    clear hP2 hW0 hS0 hb2
    obtain ⟨k, N, N1, N2, f, ks, gw, go, rfl, hkl, hk2, hP, hN, hW, hN1, hB, hN2, hI, hbw2⟩ := hrel
    replace hI := Lib.hid hI
    by_cases hlt : k < len
    · have hlz : (k : Int) < (len : Int) := by omega
      by_cases hlt2 : k < 200
      · have hlz2 : (k : Int) < 200 := by omega
        obtain ⟨rb, ro, rfl, hrb, hrow⟩ := ho (by omega)
        have hxw := hrow k hlt
        have hx := hxw.below hbw2
        generalize fo k = x at hx hxw
        obtain ⟨⟨k0, k1, k2, k3, l⟩, A, c⟩ := x
        obtain ⟨x0, x1, x2, x3, x4, ⟨hil, hwl, hcap, hcapm, wk0, wk1, wk2, wk3⟩⟩ := hx
        obtain ⟨-, -, -, -, -, ⟨hilw, -, -, -, -, -, -, -⟩⟩ := hxw
        dsimp only at hilw
        dsimp only at x0 x1 x2 x3 x4 hil hwl hcap hcapm wk0 wk1 wk2 wk3
        clear hrow
        have hl1 := hW.lt
        have hl2 := hB.lt
        have hl3 := hP.lt
        have xa := (Below.refl _ wr).alloc (Nat.le_refl _) (.cells #[.int .i64 k0, .int .i64 k1, .int .i64 k2, .int .i64 k3, .slice A l.length c] 32)
        have hPa := hP.alloc (.cells #[.int .i64 k0, .int .i64 k1, .int .i64 k2, .int .i64 k3, .slice A l.length c] 32)
        have hWa := hW.below xa
        have hBa := hB.below xa
        have hba := hbw2.alloc hbw2.size (.cells #[.int .i64 k0, .int .i64 k1, .int .i64 k2, .int .i64 k3, .slice A l.length c] 32)
        have hila := hil.alloc (.cells #[.int .i64 k0, .int .i64 k1, .int .i64 k2, .int .i64 k3, .slice A l.length c] 32)
        have eO := Blk.new wr 32 #[.int .i64 k0, .int .i64 k1, .int .i64 k2, .int .i64 k3, .slice A l.length c]
        have hNm : N < maxLen := by unfold maxLen; omega
        have hN1m : N1 < maxLen := by unfold maxLen; omega
        have hN2m : N2 < maxLen := by unfold maxLen; omega
        obtain ⟨nn, hnn⟩ : ∃ nn, ofL l [97] = nn := ⟨_, rfl⟩
        clear xa hP hW hB
        by_cases hll : 100 < l.length
        · have hlz3 : (100 : Int) < (l.length : Int) := by omega
          go_wp2
          go_roundw
          case measure => simp [intOf]; omega
          case rel => exact ⟨k + 1, N, N1, N2, _, _, _, _, by go_num, by omega, by omega, hPa, by omega, hWa, by omega, hBa, by omega, hI.out, hba⟩

        have hlz3 : ¬ (100 : Int) < (l.length : Int) := by omega
        have e0 := eO.cell 0
        simp only [List.getElem?_toArray, List.getElem?_cons_succ, List.getElem?_cons_zero] at e0
        by_cases h1 : k0 = 1
        · skip
          subst h1
          by_cases hE : goE ks k1 k2 k3 l = 0
          · have hkn := (goE_ok hE).2.2.2.2.1
            have key := go_ok hPa hNm k1 k2 k3 A c l hila hwl wk1 hE
            have hgf : go k1 = false := by
              cases hg : go k1
              · rfl
              · exact absurd ((hI.out.iff k1).1 hg).1 hkn
            clear hE
            go_wp2_with fail
            refine key.mono ?_
            rintro e w4 ⟨rfl, x, hx, hP4, hk⟩
            have tW := hWa.kept hk (fun e => hb1 e.symm)
            have tB := hBa.kept hk (fun e => hb2' e.symm)
            have tO := eO.kept hk (fun e => by omega)
            have tb := hba.trans (hk.below (B := w.heap.size) (Nat.le_trans hbw2.size (by simp)) (fun i hi e => by omega))
            have tP := hP4.mono (G := F) (fun i _ h => hFn _ (by simp; omega) (by simp; omega) i h)
            have hlk := tB.look wk1
            rw [hgf] at hlk
            obtain ⟨WN, hrun, tB', hk2⟩ := tB.upd hN2m wk1 true
            have hI2 := hI.out.gone (k := k1) (a := k2) (b := k3) hx hnn
            replace hI2 := Lib.hid hI2
            have y1 := tO.cell 1
            simp at y1
            clear key hP4 hx hgf
            go_upto_region 17 with fail
            replace tP := tP.kept hk2 (fun i hi e => (hFm i hi).2 e)
            replace tW := tW.kept hk2 (fun e => hm12 e)
            replace tO := tO.kept hk2 (fun e => by omega)
            replace tb := tb.trans (hk2.below (B := w.heap.size) tb.size (fun i hi e => by omega))
            replace tB := tB'
            clear tB' hrun hk hk2 y1 hlk hPa hWa hBa hba eO e0
            obtain ⟨ob, hob⟩ : ∃ ob, ob = wr.heap.size := ⟨_, rfl⟩
            rw [← hob] at tO ⊢
            have ho1 : ¬ ob = m1 := by omega
            have ho2 : ¬ ob = m2 := by omega
            replace hob := Lib.hid hob
            have s1 := tO.cell 1
            have s4 := tO.cell 4
            simp only [List.getElem?_toArray, List.getElem?_cons_succ, List.getElem?_cons_zero] at s1 s4
            have sd : (fun W => W.cell? ⟨ob, 1, none⟩ = some (.int .i64 k1) ∧ W.cell? ⟨ob, 4, none⟩ = some (.slice A l.length c)) WN.drew := ⟨s1, s4⟩
            have tP2 := tP.drew
            have tW2 := tW.below (Below.refl WN.heap.size WN).drew
            have tB2 := tB.below (Below.refl WN.heap.size WN).drew
            have tb2 := tb.drew
            have tO2 := tO.drew
            have tL := hilw.below tb2
            refine wp_region_held_drew (S := (fun W => W.cell? ⟨ob, 1, none⟩ = some (.int .i64 k1) ∧ W.cell? ⟨ob, 4, none⟩ = some (.slice A l.length c))) (by kernel_rfl) sd (fun hHeld => ?_)
            generalize WN.drew = wz at *
            obtain ⟨w6, hrun6, tW6, hk6⟩ := tW2.upd hN1m wk1 nn
            have tP6 := tP2.kept hk6 (fun i hi e => (hFm i hi).1 e)
            have tB6 := tB2.kept hk6 (fun e => hm12 e.symm)
            have tO6 := tO2.kept hk6 ho1
            have tb6 := tb2.trans (hk6.below (B := w.heap.size) tb2.size (fun i hi e => by omega))
            have z1 := tO6.cell 1
            have z4 := tO6.cell 4
            simp only [List.getElem?_toArray, List.getElem?_cons_succ, List.getElem?_cons_zero] at z1 z4
            have sd6 : (fun W => W.cell? ⟨ob, 1, none⟩ = some (.int .i64 k1) ∧ W.cell? ⟨ob, 4, none⟩ = some (.slice A l.length c)) w6 := ⟨z1, z4⟩
            clear s1 s4 z1 z4 tO tP tW tB tb
            (refine tkI 0 (by (simp only [List.getElem?_toArray, List.getElem?_cons_succ, List.getElem?_cons_zero]; rfl)) (by kernel_rfl) (by kernel_rfl) (by kernel_rfl) (by exact fun _ _ _ h => h) (by rfl) (by (intro w hSw; (try dsimp only at hSw); go_simp <;> with_reducible rfl)) (by assumption) ?_; try simp only [Act.put, List.setIfInBounds_toArray, List.set_cons_zero, List.set_cons_succ])
            (refine tkI 1 (by (simp only [List.getElem?_toArray, List.getElem?_cons_succ, List.getElem?_cons_zero]; rfl)) (by kernel_rfl) (by kernel_rfl) (by kernel_rfl) (by exact fun _ _ _ h => h) (by rfl) (by (intro w hSw; (try dsimp only at hSw); go_simp <;> with_reducible rfl)) (by assumption) ?_; try simp only [Act.put, List.setIfInBounds_toArray, List.set_cons_zero, List.set_cons_succ])
            (refine tkI 2 (by (simp only [List.getElem?_toArray, List.getElem?_cons_succ, List.getElem?_cons_zero]; rfl)) (by kernel_rfl) (by kernel_rfl) (by kernel_rfl) (by exact fun _ _ _ h => h) (by rfl) (by (intro w hSw; (try dsimp only at hSw); go_simp <;> with_reducible rfl)) (by assumption) ?_; try simp only [Act.put, List.setIfInBounds_toArray, List.set_cons_zero, List.set_cons_succ])
            (refine tkI 3 (by (simp only [List.getElem?_toArray, List.getElem?_cons_succ, List.getElem?_cons_zero]; rfl)) (by kernel_rfl) (by kernel_rfl) (by kernel_rfl) (by exact fun _ _ _ h => h) (by rfl) (by (intro w hSw; (try dsimp only at hSw); go_simp <;> with_reducible rfl)) (by assumption) ?_; try simp only [Act.put, List.setIfInBounds_toArray, List.set_cons_zero, List.set_cons_succ])
            (refine tkI 4 (by (simp only [List.getElem?_toArray, List.getElem?_cons_succ, List.getElem?_cons_zero]; rfl)) (by kernel_rfl) (by kernel_rfl) (by kernel_rfl) (by exact fun _ _ _ h => h) (by rfl) (by (intro w hSw; (try dsimp only at hSw); go_simp <;> with_reducible rfl)) (by assumption) ?_; try simp only [Act.put, List.setIfInBounds_toArray, List.set_cons_zero, List.set_cons_succ])
            refine wpAnyH_ready (rs := [5]) (by kernel_rfl) (by simp) ?_
            refine AllReadyH.cons (by (simp only [List.getElem?_toArray, List.getElem?_cons_succ, List.getElem?_cons_zero]; rfl)) (fun K hK => ?_) AllReadyH.nil
            go_simp
            refine (refof_any A l.length c l [97] _ tL (by omega)).mono ?_
            rw [hnn]
            rintro e w' ⟨rfl, hww⟩
            subst w'
            refine hK.out _ _ sd (fun hHeld2 => ?_)
            clear hK K hHeld
            have hHeld := hHeld2
            clear hHeld2
            try simp only [Act.put, List.setIfInBounds_toArray, List.set_cons_zero, List.set_cons_succ]
            refine wpAnyH_ready (rs := [6]) (by kernel_rfl) (by simp) ?_
            refine AllReadyH.cons (by (simp only [List.getElem?_toArray, List.getElem?_cons_succ, List.getElem?_cons_zero]; rfl)) (fun K hK => ?_) AllReadyH.nil
            go_simp
            refine hK.out _ _ sd6 (fun hHeld2 => ?_)
            clear hK K hHeld
            clear hHeld2
            try simp only [Act.put, List.setIfInBounds_toArray, List.set_cons_zero, List.set_cons_succ]
            refine wpAnyH_done (by kernel_rfl) ?_ _
            go_wp2
            go_roundw
            case measure => simp [intOf]; omega
            case rel => exact ⟨k + 1, N + 1, N1 + 1, N2 + 1, _, _, _, _, by go_num, by omega, by omega, tP6, by omega, tW6, by omega, tB6, by omega, hI2.out, tb6⟩
          · have key := go_no hPa k1 k2 k3 A c l hila wk1 (by omega) hE
            have hEb : (goE ks k1 k2 k3 l == 0) = false := beq_eq_false_iff_ne.2 hE
            generalize goE ks k1 k2 k3 l = E at key hEb
            clear hE
            go_wp2_with fail
            refine key.mono ?_
            rintro e w4 ⟨rfl, hx⟩
            have tP := hPa.below hx
            have tW := hWa.below hx
            have tB := hBa.below hx
            have tb := hba.trans (hx.mono hba.size)
            clear key hx hPa hWa hBa hba eO e0
            go_wp2
            go_roundw
            case measure => simp [intOf]; omega
            case rel => exact ⟨k + 1, N, N1, N2, _, _, _, _, by go_num, by omega, by omega, tP, by omega, tW, by omega, tB, by omega, hI.out, tb⟩

        have hk1 : (k0 == 1) = false := beq_eq_false_iff_ne.2 h1
        by_cases h2 : k0 = 2
        · skip
          subst h2
          by_cases hin : k1 ∈ ks
          · by_cases hcc : (f k1).c = true
            · have hnot : ¬ (k1 ∈ ks ∧ (f k1).c = false) := fun h => by rw [hcc] at h; exact absurd h.2 (by decide)
              have key := come_twice hPa k1 wk1 hin hcc
              have hI2 := hI.out.shut (k := k1) hnot
              have hgo : go k1 = false := by
                cases hg : go k1
                · rfl
                · exact absurd ((hI.out.iff k1).1 hg) hnot
              replace hI2 := Lib.hid hI2
              go_wp2_with fail
              refine key.mono ?_
              rintro e w4 ⟨rfl, hx⟩
              have tP := hPa.below hx
              have tW := hWa.below hx
              have tB := hBa.below hx
              have tO := eO.kept (Keep.of_below hx) (Nat.not_le.2 eO.lt)
              have tb := hba.trans (hx.mono hba.size)
              clear key hx hPa hWa hBa hba eO e0 hI hila
              go_upto_region 20 with fail
              obtain ⟨ob, hob⟩ : ∃ ob, ob = wr.heap.size := ⟨_, rfl⟩
              rw [← hob] at tO ⊢
              have ho1 : ¬ ob = m1 := by omega
              have ho2 : ¬ ob = m2 := by omega
              replace hob := Lib.hid hob
              have s1 := tO.cell 1
              simp only [List.getElem?_toArray, List.getElem?_cons_succ, List.getElem?_cons_zero] at s1
              have tP2 := tP.drew
              have tW2 := tW.below (Below.refl w4.heap.size w4).drew
              have tB2 := tB.below (Below.refl w4.heap.size w4).drew
              have tb2 := tb.drew
              have tO2 := tO.drew
              have s2 := tB2.look wk1
              rw [hgo] at s2
              have sd : (fun W => W.cell? ⟨ob, 1, none⟩ = some (.int .i64 k1) ∧ (Instr.lookup 51 (.map (some m2)) (.int .i64 k1) false).run Try.prog W = .ok (.bool false) W) w4.drew := ⟨s1, s2⟩
              refine wp_region_held_drew (S := (fun W => W.cell? ⟨ob, 1, none⟩ = some (.int .i64 k1) ∧ (Instr.lookup 51 (.map (some m2)) (.int .i64 k1) false).run Try.prog W = .ok (.bool false) W)) (by kernel_rfl) sd (fun hHeld => ?_)
              clear s1 s2  tO tP tW tB tb
              generalize w4.drew = wz at *
              (refine tkI 0 (by (simp only [List.getElem?_toArray, List.getElem?_cons_succ, List.getElem?_cons_zero]; rfl)) (by kernel_rfl) (by kernel_rfl) (by kernel_rfl) (by exact fun _ _ _ h => h) (by rfl) (by (intro w hSw; (try dsimp only at hSw); go_simp <;> with_reducible rfl)) (by assumption) ?_; try simp only [Act.put, List.setIfInBounds_toArray, List.set_cons_zero, List.set_cons_succ])
              (refine tkI 1 (by (simp only [List.getElem?_toArray, List.getElem?_cons_succ, List.getElem?_cons_zero]; rfl)) (by kernel_rfl) (by kernel_rfl) (by kernel_rfl) (by exact fun _ _ _ h => h) (by rfl) (by (intro w hSw; (try dsimp only at hSw); go_simp <;> with_reducible rfl)) (by assumption) ?_; try simp only [Act.put, List.setIfInBounds_toArray, List.set_cons_zero, List.set_cons_succ])
              (refine tkI 2 (by (simp only [List.getElem?_toArray, List.getElem?_cons_succ, List.getElem?_cons_zero]; rfl)) (by kernel_rfl) (by kernel_rfl) (by kernel_rfl) (by exact fun _ _ _ h => h) (by rfl) (by (intro w hSw; (try dsimp only at hSw); go_simp <;> with_reducible rfl)) (by assumption) ?_; try simp only [Act.put, List.setIfInBounds_toArray, List.set_cons_zero, List.set_cons_succ])
              (refine tkI 3 (by (simp only [List.getElem?_toArray, List.getElem?_cons_succ, List.getElem?_cons_zero]; rfl)) (by kernel_rfl) (by kernel_rfl) (by kernel_rfl) (by exact fun _ _ _ h => h) (by rfl) (by (intro w hSw; (try dsimp only at hSw); go_simp <;> with_reducible rfl)) (by assumption) ?_; try simp only [Act.put, List.setIfInBounds_toArray, List.set_cons_zero, List.set_cons_succ])
              (refine tkI 4 (by (simp only [List.getElem?_toArray, List.getElem?_cons_succ, List.getElem?_cons_zero]; rfl)) (by kernel_rfl) (by kernel_rfl) (by kernel_rfl) (by exact fun _ _ _ h => h) (by rfl) (by (intro w hSw; (try dsimp only at hSw); go_simp <;> with_reducible rfl)) (by assumption) ?_; try simp only [Act.put, List.setIfInBounds_toArray, List.set_cons_zero, List.set_cons_succ])
              (refine tkI 5 (by (simp only [List.getElem?_toArray, List.getElem?_cons_succ, List.getElem?_cons_zero]; rfl)) (by kernel_rfl) (by kernel_rfl) (by kernel_rfl) (by exact fun _ _ _ h => h) (by rfl) (by (intro w hSw; (try dsimp only at hSw); go_simp <;> with_reducible rfl)) (by assumption) ?_; try simp only [Act.put, List.setIfInBounds_toArray, List.set_cons_zero, List.set_cons_succ])
              (refine tkI 6 (by (simp only [List.getElem?_toArray, List.getElem?_cons_succ, List.getElem?_cons_zero]; rfl)) (by kernel_rfl) (by kernel_rfl) (by kernel_rfl) (by exact fun _ _ _ h => h) (by rfl) (by (intro w hSw; (try dsimp only at hSw); go_simp <;> with_reducible rfl)) (by assumption) ?_; try simp only [Act.put, List.setIfInBounds_toArray, List.set_cons_zero, List.set_cons_succ])
              (refine tkI 7 (by (simp only [List.getElem?_toArray, List.getElem?_cons_succ, List.getElem?_cons_zero]; rfl)) (by kernel_rfl) (by kernel_rfl) (by kernel_rfl) (by exact fun _ _ _ h => h) (by rfl) (by (intro w hSw; (try dsimp only at hSw); go_simp <;> with_reducible rfl)) (by assumption) ?_; try simp only [Act.put, List.setIfInBounds_toArray, List.set_cons_zero, List.set_cons_succ])
              (refine tkI 8 (by (simp only [List.getElem?_toArray, List.getElem?_cons_succ, List.getElem?_cons_zero]; rfl)) (by kernel_rfl) (by kernel_rfl) (by kernel_rfl) (by exact fun _ _ _ h => h) (by rfl) (by (intro w hSw; (try dsimp only at hSw); go_simp <;> with_reducible rfl)) (by assumption) ?_; try simp only [Act.put, List.setIfInBounds_toArray, List.set_cons_zero, List.set_cons_succ])
              (refine tkI 9 (by (simp only [List.getElem?_toArray, List.getElem?_cons_succ, List.getElem?_cons_zero]; rfl)) (by kernel_rfl) (by kernel_rfl) (by kernel_rfl) (by exact fun _ _ _ h => h) (by rfl) (by (intro w hSw; (try dsimp only at hSw); go_simp <;> with_reducible rfl)) (by assumption) ?_; try simp only [Act.put, List.setIfInBounds_toArray, List.set_cons_zero, List.set_cons_succ])
              (refine tkI 10 (by (simp only [List.getElem?_toArray, List.getElem?_cons_succ, List.getElem?_cons_zero]; rfl)) (by kernel_rfl) (by kernel_rfl) (by kernel_rfl) (by exact fun _ _ _ h => h) (by rfl) (by (intro w hSw; (try dsimp only at hSw); go_simp <;> with_reducible rfl)) (by assumption) ?_; try simp only [Act.put, List.setIfInBounds_toArray, List.set_cons_zero, List.set_cons_succ])
              (refine tkIN 11 (by (simp only [List.getElem?_toArray, List.getElem?_cons_succ, List.getElem?_cons_zero]; rfl)) (by kernel_rfl) (by kernel_rfl) (by kernel_rfl) (by exact fun _ _ _ h => h) (by rfl) (by assumption) ?_; try simp only [Act.put, List.setIfInBounds_toArray, List.set_cons_zero, List.set_cons_succ])
              (refine tkIN 12 (by (simp only [List.getElem?_toArray, List.getElem?_cons_succ, List.getElem?_cons_zero]; rfl)) (by kernel_rfl) (by kernel_rfl) (by kernel_rfl) (by exact fun _ _ _ h => h) (by rfl) (by assumption) ?_; try simp only [Act.put, List.setIfInBounds_toArray, List.set_cons_zero, List.set_cons_succ])
              (refine tkIN 13 (by (simp only [List.getElem?_toArray, List.getElem?_cons_succ, List.getElem?_cons_zero]; rfl)) (by kernel_rfl) (by kernel_rfl) (by kernel_rfl) (by exact fun _ _ _ h => h) (by rfl) (by assumption) ?_; try simp only [Act.put, List.setIfInBounds_toArray, List.set_cons_zero, List.set_cons_succ])
              (refine tkIN 14 (by (simp only [List.getElem?_toArray, List.getElem?_cons_succ, List.getElem?_cons_zero]; rfl)) (by kernel_rfl) (by kernel_rfl) (by kernel_rfl) (by exact fun _ _ _ h => h) (by rfl) (by assumption) ?_; try simp only [Act.put, List.setIfInBounds_toArray, List.set_cons_zero, List.set_cons_succ])
              (refine tkIN 15 (by (simp only [List.getElem?_toArray, List.getElem?_cons_succ, List.getElem?_cons_zero]; rfl)) (by kernel_rfl) (by kernel_rfl) (by kernel_rfl) (by exact fun _ _ _ h => h) (by rfl) (by assumption) ?_; try simp only [Act.put, List.setIfInBounds_toArray, List.set_cons_zero, List.set_cons_succ])
              (refine tkIN 16 (by (simp only [List.getElem?_toArray, List.getElem?_cons_succ, List.getElem?_cons_zero]; rfl)) (by kernel_rfl) (by kernel_rfl) (by kernel_rfl) (by exact fun _ _ _ h => h) (by rfl) (by assumption) ?_; try simp only [Act.put, List.setIfInBounds_toArray, List.set_cons_zero, List.set_cons_succ])
              (refine tkIN 17 (by (simp only [List.getElem?_toArray, List.getElem?_cons_succ, List.getElem?_cons_zero]; rfl)) (by kernel_rfl) (by kernel_rfl) (by kernel_rfl) (by exact fun _ _ _ h => h) (by rfl) (by assumption) ?_; try simp only [Act.put, List.setIfInBounds_toArray, List.set_cons_zero, List.set_cons_succ])
              (refine tkI 18 (by (simp only [List.getElem?_toArray, List.getElem?_cons_succ, List.getElem?_cons_zero]; rfl)) (by kernel_rfl) (by kernel_rfl) (by kernel_rfl) (by exact fun _ _ _ h => h) (by rfl) (by (intro w hSw; (try dsimp only at hSw); go_simp <;> with_reducible rfl)) (by assumption) ?_; try simp only [Act.put, List.setIfInBounds_toArray, List.set_cons_zero, List.set_cons_succ])
              (refine tkI 19 (by (simp only [List.getElem?_toArray, List.getElem?_cons_succ, List.getElem?_cons_zero]; rfl)) (by kernel_rfl) (by kernel_rfl) (by kernel_rfl) (by exact fun _ _ _ h => h) (by rfl) (by (intro w hSw; (try dsimp only at hSw); go_simp <;> with_reducible rfl)) (by assumption) ?_; try simp only [Act.put, List.setIfInBounds_toArray, List.set_cons_zero, List.set_cons_succ])
              refine wpAnyH_done (by kernel_rfl) ?_ _
              obtain ⟨w6, hrun6, tB6, hk6⟩ := tB2.upd hN2m wk1 false
              have tP6 := tP2.kept hk6 (fun i hi e => (hFm i hi).2 e)
              have tW6 := tW2.kept hk6 (fun e => hm12 e)
              have tb6 := tb2.trans (hk6.below (B := w.heap.size) tb2.size (fun i hi e => by omega))
              have y1 := tO2.cell 1
              simp at y1
              clear sd hHeld
              go_wp2
              go_roundw
              case measure => simp [intOf]; omega
              case rel => exact ⟨k + 1, N, N1, N2 + 1, _, _, _, _, by go_num, by omega, by omega, tP6, by omega, tW6, by omega, tB6, by omega, hI2.out, tb6⟩
            · have hcf : (f k1).c = false := by simpa using hcc
              have key := come_ok hPa hNm k1 wk1 hin hcf
              have hgo : go k1 = true := (hI.out.iff k1).2 ⟨hin, hcf⟩
              have hgv := hI.out.val k1 hgo
              have hI2 := hI.out.came (k := k1) (r := ⟨(f k1).m, (f k1).f, (f k1).t, (f k1).l, true⟩) rfl
              replace hI2 := Lib.hid hI2
              obtain ⟨lv, hlv⟩ : ∃ lv, (f k1).l.l = lv := ⟨_, rfl⟩
              have hlv16 : lv.length ≤ 16 := by
                rw [← hlv]
                exact (hPa.rc k1).1.few
              rw [hlv] at key hgv
              obtain ⟨nv, hnv⟩ : ∃ nv, ofL lv [97] = nv := ⟨_, rfl⟩
              rw [hnv] at hgv
              clear hcc hlv
              go_wp2_with fail
              refine key.mono ?_
              rintro e w4 ⟨v4, rfl, hO4, hP4, hk⟩
              obtain ⟨A8, c8, rfl, -, -, tL0, -⟩ := hO4.form
              have tW := hWa.kept hk (fun e => hb1 e.symm)
              have tB := hBa.kept hk (fun e => hb2' e.symm)
              have tO := eO.kept hk (fun e => by omega)
              have tb := hba.trans (hk.below (B := w.heap.size) (Nat.le_trans hbw2.size (by simp)) (fun i hi e => by omega))
              have tP := hP4
              clear key hO4 hP4 hk hPa hWa hBa hba eO e0 hI hila hcf
              go_upto_region 20 with fail
              obtain ⟨ob, hob⟩ : ∃ ob, ob = wr.heap.size := ⟨_, rfl⟩
              rw [← hob] at tO ⊢
              have ho1 : ¬ ob = m1 := by omega
              have ho2 : ¬ ob = m2 := by omega
              replace hob := Lib.hid hob
              have s1 := tO.cell 1
              simp only [List.getElem?_toArray, List.getElem?_cons_succ, List.getElem?_cons_zero] at s1
              have tP2 := tP.drew
              have tW2 := tW.below (Below.refl w4.heap.size w4).drew
              have tB2 := tB.below (Below.refl w4.heap.size w4).drew
              have tb2 := tb.drew
              have tO2 := tO.drew
              have s2 := tB2.look wk1
              rw [hgo] at s2
              have tL := tL0.drew
              have s3 := tW2.look wk1
              rw [hgv] at s3
              have hdn : (nv == nv) = true := beq_self_eq_true nv
              have sd : (fun W => W.cell? ⟨ob, 1, none⟩ = some (.int .i64 k1) ∧ (Instr.lookup 51 (.map (some m2)) (.int .i64 k1) false).run Try.prog W = .ok (.bool true) W ∧ (Instr.lookup 50 (.map (some m1)) (.int .i64 k1) false).run Try.prog W = .ok (.int .i64 nv) W) w4.drew := ⟨s1, s2, s3⟩
              refine wp_region_held_drew (S := (fun W => W.cell? ⟨ob, 1, none⟩ = some (.int .i64 k1) ∧ (Instr.lookup 51 (.map (some m2)) (.int .i64 k1) false).run Try.prog W = .ok (.bool true) W ∧ (Instr.lookup 50 (.map (some m1)) (.int .i64 k1) false).run Try.prog W = .ok (.int .i64 nv) W)) (by kernel_rfl) sd (fun hHeld => ?_)
              clear s1 s2 s3 tO tP tW tB tb
              generalize w4.drew = wz at *
              (refine tkI 0 (by (simp only [List.getElem?_toArray, List.getElem?_cons_succ, List.getElem?_cons_zero]; rfl)) (by kernel_rfl) (by kernel_rfl) (by kernel_rfl) (by exact fun _ _ _ h => h) (by rfl) (by (intro w hSw; (try dsimp only at hSw); go_simp <;> with_reducible rfl)) (by assumption) ?_; try simp only [Act.put, List.setIfInBounds_toArray, List.set_cons_zero, List.set_cons_succ])
              (refine tkI 1 (by (simp only [List.getElem?_toArray, List.getElem?_cons_succ, List.getElem?_cons_zero]; rfl)) (by kernel_rfl) (by kernel_rfl) (by kernel_rfl) (by exact fun _ _ _ h => h) (by rfl) (by (intro w hSw; (try dsimp only at hSw); go_simp <;> with_reducible rfl)) (by assumption) ?_; try simp only [Act.put, List.setIfInBounds_toArray, List.set_cons_zero, List.set_cons_succ])
              (refine tkI 2 (by (simp only [List.getElem?_toArray, List.getElem?_cons_succ, List.getElem?_cons_zero]; rfl)) (by kernel_rfl) (by kernel_rfl) (by kernel_rfl) (by exact fun _ _ _ h => h) (by rfl) (by (intro w hSw; (try dsimp only at hSw); go_simp <;> with_reducible rfl)) (by assumption) ?_; try simp only [Act.put, List.setIfInBounds_toArray, List.set_cons_zero, List.set_cons_succ])
              (refine tkI 3 (by (simp only [List.getElem?_toArray, List.getElem?_cons_succ, List.getElem?_cons_zero]; rfl)) (by kernel_rfl) (by kernel_rfl) (by kernel_rfl) (by exact fun _ _ _ h => h) (by rfl) (by (intro w hSw; (try dsimp only at hSw); go_simp <;> with_reducible rfl)) (by assumption) ?_; try simp only [Act.put, List.setIfInBounds_toArray, List.set_cons_zero, List.set_cons_succ])
              (refine tkI 4 (by (simp only [List.getElem?_toArray, List.getElem?_cons_succ, List.getElem?_cons_zero]; rfl)) (by kernel_rfl) (by kernel_rfl) (by kernel_rfl) (by exact fun _ _ _ h => h) (by rfl) (by (intro w hSw; (try dsimp only at hSw); go_simp <;> with_reducible rfl)) (by assumption) ?_; try simp only [Act.put, List.setIfInBounds_toArray, List.set_cons_zero, List.set_cons_succ])
              (refine tkI 5 (by (simp only [List.getElem?_toArray, List.getElem?_cons_succ, List.getElem?_cons_zero]; rfl)) (by kernel_rfl) (by kernel_rfl) (by kernel_rfl) (by exact fun _ _ _ h => h) (by rfl) (by (intro w hSw; (try dsimp only at hSw); go_simp <;> with_reducible rfl)) (by assumption) ?_; try simp only [Act.put, List.setIfInBounds_toArray, List.set_cons_zero, List.set_cons_succ])
              (refine tkI 6 (by (simp only [List.getElem?_toArray, List.getElem?_cons_succ, List.getElem?_cons_zero]; rfl)) (by kernel_rfl) (by kernel_rfl) (by kernel_rfl) (by exact fun _ _ _ h => h) (by rfl) (by (intro w hSw; (try dsimp only at hSw); go_simp <;> with_reducible rfl)) (by assumption) ?_; try simp only [Act.put, List.setIfInBounds_toArray, List.set_cons_zero, List.set_cons_succ])
              (refine tkI 7 (by (simp only [List.getElem?_toArray, List.getElem?_cons_succ, List.getElem?_cons_zero]; rfl)) (by kernel_rfl) (by kernel_rfl) (by kernel_rfl) (by exact fun _ _ _ h => h) (by rfl) (by (intro w hSw; (try dsimp only at hSw); go_simp <;> with_reducible rfl)) (by assumption) ?_; try simp only [Act.put, List.setIfInBounds_toArray, List.set_cons_zero, List.set_cons_succ])
              (refine tkI 8 (by (simp only [List.getElem?_toArray, List.getElem?_cons_succ, List.getElem?_cons_zero]; rfl)) (by kernel_rfl) (by kernel_rfl) (by kernel_rfl) (by exact fun _ _ _ h => h) (by rfl) (by (intro w hSw; (try dsimp only at hSw); go_simp <;> with_reducible rfl)) (by assumption) ?_; try simp only [Act.put, List.setIfInBounds_toArray, List.set_cons_zero, List.set_cons_succ])
              (refine tkI 9 (by (simp only [List.getElem?_toArray, List.getElem?_cons_succ, List.getElem?_cons_zero]; rfl)) (by kernel_rfl) (by kernel_rfl) (by kernel_rfl) (by exact fun _ _ _ h => h) (by rfl) (by (intro w hSw; (try dsimp only at hSw); go_simp <;> with_reducible rfl)) (by assumption) ?_; try simp only [Act.put, List.setIfInBounds_toArray, List.set_cons_zero, List.set_cons_succ])
              (refine tkI 10 (by (simp only [List.getElem?_toArray, List.getElem?_cons_succ, List.getElem?_cons_zero]; rfl)) (by kernel_rfl) (by kernel_rfl) (by kernel_rfl) (by exact fun _ _ _ h => h) (by rfl) (by (intro w hSw; (try dsimp only at hSw); go_simp <;> with_reducible rfl)) (by assumption) ?_; try simp only [Act.put, List.setIfInBounds_toArray, List.set_cons_zero, List.set_cons_succ])
              (refine tkI 11 (by (simp only [List.getElem?_toArray, List.getElem?_cons_succ, List.getElem?_cons_zero]; rfl)) (by kernel_rfl) (by kernel_rfl) (by kernel_rfl) (by exact fun _ _ _ h => h) (by rfl) (by (intro w hSw; (try dsimp only at hSw); go_simp <;> with_reducible rfl)) (by assumption) ?_; try simp only [Act.put, List.setIfInBounds_toArray, List.set_cons_zero, List.set_cons_succ])
              (refine tkI 13 (by (simp only [List.getElem?_toArray, List.getElem?_cons_succ, List.getElem?_cons_zero]; rfl)) (by kernel_rfl) (by kernel_rfl) (by kernel_rfl) (by exact fun _ _ _ h => h) (by rfl) (by (intro w hSw; (try dsimp only at hSw); go_simp <;> with_reducible rfl)) (by assumption) ?_; try simp only [Act.put, List.setIfInBounds_toArray, List.set_cons_zero, List.set_cons_succ])
              (refine tkI 14 (by (simp only [List.getElem?_toArray, List.getElem?_cons_succ, List.getElem?_cons_zero]; rfl)) (by kernel_rfl) (by kernel_rfl) (by kernel_rfl) (by exact fun _ _ _ h => h) (by rfl) (by (intro w hSw; (try dsimp only at hSw); go_simp <;> with_reducible rfl)) (by assumption) ?_; try simp only [Act.put, List.setIfInBounds_toArray, List.set_cons_zero, List.set_cons_succ])
              (refine tkI 15 (by (simp only [List.getElem?_toArray, List.getElem?_cons_succ, List.getElem?_cons_zero]; rfl)) (by kernel_rfl) (by kernel_rfl) (by kernel_rfl) (by exact fun _ _ _ h => h) (by rfl) (by (intro w hSw; (try dsimp only at hSw); go_simp <;> with_reducible rfl)) (by assumption) ?_; try simp only [Act.put, List.setIfInBounds_toArray, List.set_cons_zero, List.set_cons_succ])
              (refine tkI 16 (by (simp only [List.getElem?_toArray, List.getElem?_cons_succ, List.getElem?_cons_zero]; rfl)) (by kernel_rfl) (by kernel_rfl) (by kernel_rfl) (by exact fun _ _ _ h => h) (by rfl) (by (intro w hSw; (try dsimp only at hSw); go_simp <;> with_reducible rfl)) (by assumption) ?_; try simp only [Act.put, List.setIfInBounds_toArray, List.set_cons_zero, List.set_cons_succ])
              refine wpAnyH_ready (rs := [12]) (by kernel_rfl) (by simp) ?_
              refine AllReadyH.cons (by (simp only [List.getElem?_toArray, List.getElem?_cons_succ, List.getElem?_cons_zero]; rfl)) (fun K hK => ?_) AllReadyH.nil
              go_simp
              refine (refof_any A8 lv.length c8 lv [97] _ tL (by omega)).mono ?_
              rw [hnv]
              rintro e w' ⟨rfl, hww⟩
              subst w'
              refine hK.out _ _ sd (fun hHeld2 => ?_)
              clear hK K hHeld
              have hHeld := hHeld2
              clear hHeld2
              try simp only [Act.put, List.setIfInBounds_toArray, List.set_cons_zero, List.set_cons_succ]
              (refine tkI 17 (by (simp only [List.getElem?_toArray, List.getElem?_cons_succ, List.getElem?_cons_zero]; rfl)) (by kernel_rfl) (by kernel_rfl) (by kernel_rfl) (by exact fun _ _ _ h => h) (by rfl) (by (intro w hSw; (try dsimp only at hSw); go_simp <;> with_reducible rfl)) (by assumption) ?_; try simp only [Act.put, List.setIfInBounds_toArray, List.set_cons_zero, List.set_cons_succ])
              (refine tkI 18 (by (simp only [List.getElem?_toArray, List.getElem?_cons_succ, List.getElem?_cons_zero]; rfl)) (by kernel_rfl) (by kernel_rfl) (by kernel_rfl) (by exact fun _ _ _ h => h) (by rfl) (by (intro w hSw; (try dsimp only at hSw); go_simp <;> with_reducible rfl)) (by assumption) ?_; try simp only [Act.put, List.setIfInBounds_toArray, List.set_cons_zero, List.set_cons_succ])
              (refine tkI 19 (by (simp only [List.getElem?_toArray, List.getElem?_cons_succ, List.getElem?_cons_zero]; rfl)) (by kernel_rfl) (by kernel_rfl) (by kernel_rfl) (by exact fun _ _ _ h => h) (by rfl) (by (intro w hSw; (try dsimp only at hSw); go_simp <;> with_reducible rfl)) (by assumption) ?_; try simp only [Act.put, List.setIfInBounds_toArray, List.set_cons_zero, List.set_cons_succ])
              refine wpAnyH_done (by kernel_rfl) ?_ _
              obtain ⟨w6, hrun6, tB6, hk6⟩ := tB2.upd hN2m wk1 false
              have tP6 := tP2.kept hk6 (fun i hi e => (hFm i hi).2 e)
              have tW6 := tW2.kept hk6 (fun e => hm12 e)
              have tb6 := tb2.trans (hk6.below (B := w.heap.size) tb2.size (fun i hi e => by omega))
              have y1 := tO2.cell 1
              simp at y1
              clear sd hHeld
              go_wp2
              go_roundw
              case measure => simp [intOf]; omega
              case rel => exact ⟨k + 1, N + 1, N1, N2 + 1, _, _, _, _, by go_num, by omega, by omega, tP6, by omega, tW6, by omega, tB6, by omega, hI2.out, tb6⟩
          · have hnot : ¬ (k1 ∈ ks ∧ (f k1).c = false) := fun h => hin h.1
            have key := come_no hPa k1 wk1 hin
            have hI2 := hI.out.shut (k := k1) hnot
            have hgo : go k1 = false := by
              cases hg : go k1
              · rfl
              · exact absurd ((hI.out.iff k1).1 hg) hnot
            replace hI2 := Lib.hid hI2
            go_wp2_with fail
            refine key.mono ?_
            rintro e w4 ⟨rfl, hx⟩
            have tP := hPa.below hx
            have tW := hWa.below hx
            have tB := hBa.below hx
            have tO := eO.kept (Keep.of_below hx) (Nat.not_le.2 eO.lt)
            have tb := hba.trans (hx.mono hba.size)
            clear key hx hPa hWa hBa hba eO e0 hI hila
            go_upto_region 20 with fail
            obtain ⟨ob, hob⟩ : ∃ ob, ob = wr.heap.size := ⟨_, rfl⟩
            rw [← hob] at tO ⊢
            have ho1 : ¬ ob = m1 := by omega
            have ho2 : ¬ ob = m2 := by omega
            replace hob := Lib.hid hob
            have s1 := tO.cell 1
            simp only [List.getElem?_toArray, List.getElem?_cons_succ, List.getElem?_cons_zero] at s1
            have tP2 := tP.drew
            have tW2 := tW.below (Below.refl w4.heap.size w4).drew
            have tB2 := tB.below (Below.refl w4.heap.size w4).drew
            have tb2 := tb.drew
            have tO2 := tO.drew
            have s2 := tB2.look wk1
            rw [hgo] at s2
            have sd : (fun W => W.cell? ⟨ob, 1, none⟩ = some (.int .i64 k1) ∧ (Instr.lookup 51 (.map (some m2)) (.int .i64 k1) false).run Try.prog W = .ok (.bool false) W) w4.drew := ⟨s1, s2⟩
            refine wp_region_held_drew (S := (fun W => W.cell? ⟨ob, 1, none⟩ = some (.int .i64 k1) ∧ (Instr.lookup 51 (.map (some m2)) (.int .i64 k1) false).run Try.prog W = .ok (.bool false) W)) (by kernel_rfl) sd (fun hHeld => ?_)
            clear s1 s2  tO tP tW tB tb
            generalize w4.drew = wz at *
            (refine tkI 0 (by (simp only [List.getElem?_toArray, List.getElem?_cons_succ, List.getElem?_cons_zero]; rfl)) (by kernel_rfl) (by kernel_rfl) (by kernel_rfl) (by exact fun _ _ _ h => h) (by rfl) (by (intro w hSw; (try dsimp only at hSw); go_simp <;> with_reducible rfl)) (by assumption) ?_; try simp only [Act.put, List.setIfInBounds_toArray, List.set_cons_zero, List.set_cons_succ])
            (refine tkI 1 (by (simp only [List.getElem?_toArray, List.getElem?_cons_succ, List.getElem?_cons_zero]; rfl)) (by kernel_rfl) (by kernel_rfl) (by kernel_rfl) (by exact fun _ _ _ h => h) (by rfl) (by (intro w hSw; (try dsimp only at hSw); go_simp <;> with_reducible rfl)) (by assumption) ?_; try simp only [Act.put, List.setIfInBounds_toArray, List.set_cons_zero, List.set_cons_succ])
            (refine tkI 2 (by (simp only [List.getElem?_toArray, List.getElem?_cons_succ, List.getElem?_cons_zero]; rfl)) (by kernel_rfl) (by kernel_rfl) (by kernel_rfl) (by exact fun _ _ _ h => h) (by rfl) (by (intro w hSw; (try dsimp only at hSw); go_simp <;> with_reducible rfl)) (by assumption) ?_; try simp only [Act.put, List.setIfInBounds_toArray, List.set_cons_zero, List.set_cons_succ])
            (refine tkI 3 (by (simp only [List.getElem?_toArray, List.getElem?_cons_succ, List.getElem?_cons_zero]; rfl)) (by kernel_rfl) (by kernel_rfl) (by kernel_rfl) (by exact fun _ _ _ h => h) (by rfl) (by (intro w hSw; (try dsimp only at hSw); go_simp <;> with_reducible rfl)) (by assumption) ?_; try simp only [Act.put, List.setIfInBounds_toArray, List.set_cons_zero, List.set_cons_succ])
            (refine tkI 4 (by (simp only [List.getElem?_toArray, List.getElem?_cons_succ, List.getElem?_cons_zero]; rfl)) (by kernel_rfl) (by kernel_rfl) (by kernel_rfl) (by exact fun _ _ _ h => h) (by rfl) (by (intro w hSw; (try dsimp only at hSw); go_simp <;> with_reducible rfl)) (by assumption) ?_; try simp only [Act.put, List.setIfInBounds_toArray, List.set_cons_zero, List.set_cons_succ])
            (refine tkI 5 (by (simp only [List.getElem?_toArray, List.getElem?_cons_succ, List.getElem?_cons_zero]; rfl)) (by kernel_rfl) (by kernel_rfl) (by kernel_rfl) (by exact fun _ _ _ h => h) (by rfl) (by (intro w hSw; (try dsimp only at hSw); go_simp <;> with_reducible rfl)) (by assumption) ?_; try simp only [Act.put, List.setIfInBounds_toArray, List.set_cons_zero, List.set_cons_succ])
            (refine tkI 6 (by (simp only [List.getElem?_toArray, List.getElem?_cons_succ, List.getElem?_cons_zero]; rfl)) (by kernel_rfl) (by kernel_rfl) (by kernel_rfl) (by exact fun _ _ _ h => h) (by rfl) (by (intro w hSw; (try dsimp only at hSw); go_simp <;> with_reducible rfl)) (by assumption) ?_; try simp only [Act.put, List.setIfInBounds_toArray, List.set_cons_zero, List.set_cons_succ])
            (refine tkI 7 (by (simp only [List.getElem?_toArray, List.getElem?_cons_succ, List.getElem?_cons_zero]; rfl)) (by kernel_rfl) (by kernel_rfl) (by kernel_rfl) (by exact fun _ _ _ h => h) (by rfl) (by (intro w hSw; (try dsimp only at hSw); go_simp <;> with_reducible rfl)) (by assumption) ?_; try simp only [Act.put, List.setIfInBounds_toArray, List.set_cons_zero, List.set_cons_succ])
            (refine tkI 8 (by (simp only [List.getElem?_toArray, List.getElem?_cons_succ, List.getElem?_cons_zero]; rfl)) (by kernel_rfl) (by kernel_rfl) (by kernel_rfl) (by exact fun _ _ _ h => h) (by rfl) (by (intro w hSw; (try dsimp only at hSw); go_simp <;> with_reducible rfl)) (by assumption) ?_; try simp only [Act.put, List.setIfInBounds_toArray, List.set_cons_zero, List.set_cons_succ])
            (refine tkI 9 (by (simp only [List.getElem?_toArray, List.getElem?_cons_succ, List.getElem?_cons_zero]; rfl)) (by kernel_rfl) (by kernel_rfl) (by kernel_rfl) (by exact fun _ _ _ h => h) (by rfl) (by (intro w hSw; (try dsimp only at hSw); go_simp <;> with_reducible rfl)) (by assumption) ?_; try simp only [Act.put, List.setIfInBounds_toArray, List.set_cons_zero, List.set_cons_succ])
            (refine tkI 10 (by (simp only [List.getElem?_toArray, List.getElem?_cons_succ, List.getElem?_cons_zero]; rfl)) (by kernel_rfl) (by kernel_rfl) (by kernel_rfl) (by exact fun _ _ _ h => h) (by rfl) (by (intro w hSw; (try dsimp only at hSw); go_simp <;> with_reducible rfl)) (by assumption) ?_; try simp only [Act.put, List.setIfInBounds_toArray, List.set_cons_zero, List.set_cons_succ])
            (refine tkIN 11 (by (simp only [List.getElem?_toArray, List.getElem?_cons_succ, List.getElem?_cons_zero]; rfl)) (by kernel_rfl) (by kernel_rfl) (by kernel_rfl) (by exact fun _ _ _ h => h) (by rfl) (by assumption) ?_; try simp only [Act.put, List.setIfInBounds_toArray, List.set_cons_zero, List.set_cons_succ])
            (refine tkIN 12 (by (simp only [List.getElem?_toArray, List.getElem?_cons_succ, List.getElem?_cons_zero]; rfl)) (by kernel_rfl) (by kernel_rfl) (by kernel_rfl) (by exact fun _ _ _ h => h) (by rfl) (by assumption) ?_; try simp only [Act.put, List.setIfInBounds_toArray, List.set_cons_zero, List.set_cons_succ])
            (refine tkIN 13 (by (simp only [List.getElem?_toArray, List.getElem?_cons_succ, List.getElem?_cons_zero]; rfl)) (by kernel_rfl) (by kernel_rfl) (by kernel_rfl) (by exact fun _ _ _ h => h) (by rfl) (by assumption) ?_; try simp only [Act.put, List.setIfInBounds_toArray, List.set_cons_zero, List.set_cons_succ])
            (refine tkIN 14 (by (simp only [List.getElem?_toArray, List.getElem?_cons_succ, List.getElem?_cons_zero]; rfl)) (by kernel_rfl) (by kernel_rfl) (by kernel_rfl) (by exact fun _ _ _ h => h) (by rfl) (by assumption) ?_; try simp only [Act.put, List.setIfInBounds_toArray, List.set_cons_zero, List.set_cons_succ])
            (refine tkIN 15 (by (simp only [List.getElem?_toArray, List.getElem?_cons_succ, List.getElem?_cons_zero]; rfl)) (by kernel_rfl) (by kernel_rfl) (by kernel_rfl) (by exact fun _ _ _ h => h) (by rfl) (by assumption) ?_; try simp only [Act.put, List.setIfInBounds_toArray, List.set_cons_zero, List.set_cons_succ])
            (refine tkIN 16 (by (simp only [List.getElem?_toArray, List.getElem?_cons_succ, List.getElem?_cons_zero]; rfl)) (by kernel_rfl) (by kernel_rfl) (by kernel_rfl) (by exact fun _ _ _ h => h) (by rfl) (by assumption) ?_; try simp only [Act.put, List.setIfInBounds_toArray, List.set_cons_zero, List.set_cons_succ])
            (refine tkIN 17 (by (simp only [List.getElem?_toArray, List.getElem?_cons_succ, List.getElem?_cons_zero]; rfl)) (by kernel_rfl) (by kernel_rfl) (by kernel_rfl) (by exact fun _ _ _ h => h) (by rfl) (by assumption) ?_; try simp only [Act.put, List.setIfInBounds_toArray, List.set_cons_zero, List.set_cons_succ])
            (refine tkI 18 (by (simp only [List.getElem?_toArray, List.getElem?_cons_succ, List.getElem?_cons_zero]; rfl)) (by kernel_rfl) (by kernel_rfl) (by kernel_rfl) (by exact fun _ _ _ h => h) (by rfl) (by (intro w hSw; (try dsimp only at hSw); go_simp <;> with_reducible rfl)) (by assumption) ?_; try simp only [Act.put, List.setIfInBounds_toArray, List.set_cons_zero, List.set_cons_succ])
            (refine tkI 19 (by (simp only [List.getElem?_toArray, List.getElem?_cons_succ, List.getElem?_cons_zero]; rfl)) (by kernel_rfl) (by kernel_rfl) (by kernel_rfl) (by exact fun _ _ _ h => h) (by rfl) (by (intro w hSw; (try dsimp only at hSw); go_simp <;> with_reducible rfl)) (by assumption) ?_; try simp only [Act.put, List.setIfInBounds_toArray, List.set_cons_zero, List.set_cons_succ])
            refine wpAnyH_done (by kernel_rfl) ?_ _
            obtain ⟨w6, hrun6, tB6, hk6⟩ := tB2.upd hN2m wk1 false
            have tP6 := tP2.kept hk6 (fun i hi e => (hFm i hi).2 e)
            have tW6 := tW2.kept hk6 (fun e => hm12 e)
            have tb6 := tb2.trans (hk6.below (B := w.heap.size) tb2.size (fun i hi e => by omega))
            have y1 := tO2.cell 1
            simp at y1
            clear sd hHeld
            go_wp2
            go_roundw
            case measure => simp [intOf]; omega
            case rel => exact ⟨k + 1, N, N1, N2 + 1, _, _, _, _, by go_num, by omega, by omega, tP6, by omega, tW6, by omega, tB6, by omega, hI2.out, tb6⟩

        have hk2' : (k0 == 2) = false := beq_eq_false_iff_ne.2 h2
        by_cases h3 : k0 = 3
        · skip
          subst h3
          by_cases hin : k1 ∈ ks
          · by_cases hcc : (f k1).c = true
            · have key := forget_ok hPa k1 wk1 hin hcc
              have hgo : go k1 = false := by
                cases hg : go k1
                · rfl
                · exact absurd ((hI.out.iff k1).1 hg).2 (by rw [hcc]; decide)
              have hI2 := hI.out.forgot (k := k1) hPa.nd hcc
              replace hI2 := Lib.hid hI2
              go_wp2_with fail
              refine key.mono ?_
              rintro e w4 ⟨rfl, tP, hk⟩
              have tW := hWa.kept hk (fun e => hb1 e.symm)
              have tB := hBa.kept hk (fun e => hb2' e.symm)
              have tO := eO.kept hk (fun e => by omega)
              have tb := hba.trans (hk.below (B := w.heap.size) (Nat.le_trans hbw2.size (by simp)) (fun i hi e => by omega))
              have hlk := tB.look wk1
              rw [hgo] at hlk
              have y1 := tO.cell 1
              simp at y1
              clear key hk hPa hWa hBa hba eO e0
              go_wp2
              go_roundw
              case measure => simp [intOf]; omega
              case rel => exact ⟨k + 1, N, N1, N2, _, _, _, _, by go_num, by omega, by omega, tP, by omega, tW, by omega, tB, by omega, hI2.out, tb⟩
            · have hcf : (f k1).c = false := by simpa using hcc
              have key := forget_state hPa k1 wk1 hin hcf
              go_wp2_with fail
              refine key.mono ?_
              rintro e w4 ⟨rfl, hx⟩
              have tP := hPa.below hx
              have tW := hWa.below hx
              have tB := hBa.below hx
              have tb := hba.trans (hx.mono hba.size)
              clear key hx hPa hWa hBa hba eO e0
              go_wp2
              go_roundw
              case measure => simp [intOf]; omega
              case rel => exact ⟨k + 1, N, N1, N2, _, _, _, _, by go_num, by omega, by omega, tP, by omega, tW, by omega, tB, by omega, hI.out, tb⟩
          · skip
            have key := forget_no hPa k1 wk1 hin
            go_wp2_with fail
            refine key.mono ?_
            rintro e w4 ⟨rfl, hx⟩
            have tP := hPa.below hx
            have tW := hWa.below hx
            have tB := hBa.below hx
            have tb := hba.trans (hx.mono hba.size)
            clear key hx hPa hWa hBa hba eO e0
            go_wp2
            go_roundw
            case measure => simp [intOf]; omega
            case rel => exact ⟨k + 1, N, N1, N2, _, _, _, _, by go_num, by omega, by omega, tP, by omega, tW, by omega, tB, by omega, hI.out, tb⟩

        have hk3 : (k0 == 3) = false := beq_eq_false_iff_ne.2 h3
        go_wp2
        go_roundw
        case measure => simp [intOf]; omega
        case rel => exact ⟨k + 1, N, N1, N2, _, _, _, _, by go_num, by omega, by omega, hPa, by omega, hWa, by omega, hBa, by omega, hI.out, hba⟩

      · have hlz2 : ¬ (k : Int) < 200 := by omega
        go_wp2
        go_ret
        exact ⟨rfl, hbw2⟩
    · have hlz : ¬ (k : Int) < (len : Int) := by omega
      go_wp2
      go_ret
      exact ⟨rfl, hbw2⟩

namespace moveOnceDone
open Go.ChangeShapes Go.WideShapes Go.ChangeAt
set_option maxRecDepth 100000 in
theorem lifted (os : Os) (started : os.Started) (H : Type) (enc : TypeId × Value → H) :
    ReturnsInHanded {} Try.checked os 4 .any (Rows.moveOnceSpec.pre6 enc Try.prog Try.f4 Rows.moveOnceRow.domain false) (Rows.moveOnceSpec.post enc Try.prog Try.f4 false true false false) := by
  refine returnsInHanded_of_change_sized (C := Try.checked) own started (by kernel_rfl) Try.func4
    (ChangeSpec.witness6 (enc := enc) (C := Try.checked) false ⟨#[], #[Value.slice none 0 0], []⟩ 8 (by kernel_rfl) (by kernel_rfl) (by kernel_rfl) (by kernel_rfl)) ?_
  intro W base args ds gs before hval0 hW hcnd hsz0 _
  have hsz : (DataW.weightsEach Try.prog (Try.f4.params.toList ++ Rows.moveOnceSpec.plain.varTypes Try.prog) (ds ++ gs)).all (· ≤ reachBytes) = true := hsz0
  clear hsz0
  have hval : ∀ (j : Nat) t v, Try.f4.params[j]? = some t → args[j]? = some v → Value.okWide Try.prog W .any base t v := hval0
  have hW' := hW
  obtain ⟨p, q, hA0, hV, rfl, hfz, hnd⟩ := hW
  have hA : DataW.TrodAll enc Try.prog W 0 (fun _ => true) true Try.f4.params.toList args.toList ds p := hA0
  rw [Try.params4] at hA hval hsz
  obtain ⟨v0, vs0, d0, ds0, p0, q0, hargs, rfl, rfl, h0, r0⟩ := trodAll_cons hA
  obtain ⟨rfl, rfl, rfl⟩ := trodAll_nil r0
  obtain rfl : args = #[v0] := by cases args; simp_all
  obtain ⟨rfl, rfl⟩ := trodVars_none hV
  obtain ⟨a0, len0, cap0, rfl⟩ := okWide_slice Try.underlying22 (hval 0 22 v0 rfl rfl)
  have k0 := h0
  have lt0 : ∀ x ∈ p0, x.block < W.heap.size := by obtain ⟨m, hm⟩ := k0; exact DataW.trod_lt m _ _ _ hm
  obtain ⟨f0, ho0, hc0, hm0⟩ := ops_open h0
  clear hA0 hval0
  refine (moveOnce_walk (w := W) a0 len0 cap0 f0 ho0 hc0 hm0).mono fun e W' ⟨he, bel⟩ => ?_
  subst he
  exact ⟨_, rfl, _, _, _, [], _, [], hW', trodAll_mk1 (shut_bool Try.underlying4 _), (trodAll_cons_mk (Below.trod laidOut (by kernel_rfl) (of_decide_eq_true (by kernel_rfl)) k0 bel lt0) trodAll_mk0), rfl, bel.frame _, fun h => by cases h⟩

theorem over : Rows.moveOnceRow.holds Try.pinned (OpenSpec.ofChange Rows.moveOnceSpec) :=
  OpenClaim.holds_of_wide 4 Try.f4 rfl rfl rfl rfl rfl rfl rfl ⟨rfl, rfl, rfl, rfl, rfl⟩ rfl rfl rfl rfl rfl (by kernel_rfl) Try.func4 (by kernel_rfl)
    (of_decide_eq_true (by kernel_rfl)) (by unfold Func.isWrapper; first | (rw [if_pos (by decide +kernel)]; kernel_rfl) | (rw [if_neg (by decide +kernel)]; exact ⟨rfl, rfl⟩))
    (fun os started H enc _ => lifted os started H enc)

/-- The statement. -/
theorem proved : Rows.MoveOnceSaid := over
end moveOnceDone
end Go.Proofs.Ytflbpagkmkbgcaa
