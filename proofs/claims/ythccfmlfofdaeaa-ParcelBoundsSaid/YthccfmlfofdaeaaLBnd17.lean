/- 'ParcelBounds' returns true for every input: the row of this law, proved. No condition. -/
import Derived.Test.YthccfmlfofdaeaaPdD
import Derived.Test.YthccfmlfofdaeaaRgT
import Derived.ProofKit
import Derived.OpenShut
import Derived.ShutString
import Derived.ChangeOld
import Derived.SizedLaws
namespace Go.Proofs.Ythccfmlfofdaeaa
open Go.RowKit
set_option linter.unusedVariables false
set_option linter.unusedSimpArgs false
theorem plusE_may {a b : List It} (h : plusE a b = 0) : mayL b = true := by
  unfold plusE at h
  cases hb : mayL b
  · rw [hb, Bool.and_false] at h
    cases h
  · rfl
open Go.Maps in
set_option maxRecDepth 100000 in
set_option maxHeartbeats 12800000 in
theorem parcelBounds_walk {w : World} (a : Option Addr) (len cap : Nat) (fo : Nat → OpX) (ho : OPX w a len fo) (hc : len ≤ cap) (hm0 : cap ≤ 9223372036854775807) :
    Calls Try.prog 3 #[.slice a len cap] w fun e w' => e = .returned (.bool true) ∧ Below w.heap.size w w' := by
  go_enter Try.func3, Try.ntmps3
  go_wp2_with fail
  refine (pnew_any _).mono ?_
  rintro e w1 ⟨p, b, rfl, hP, hpw, hbw, hb⟩
  go_wp2_with fail
  refine (lives_any _).mono ?_
  rintro e w2 ⟨rfl, hl⟩
  replace hP := hP.below hl
  replace hb := hb.trans (hl.mono hb.size)
  clear hl
  have hmm := @run_makeMap Try.prog
  obtain ⟨m1, hm⟩ : ∃ m1, w2.heap.size = m1 := ⟨_, rfl⟩
  have hz3 : (w2.alloc (Obj.map #[] 0)).heap.size = m1 + 1 := by simp [hm]
  have hW0 : IM ((w2.alloc (Obj.map #[] 0)).alloc (Obj.map #[] 0)) m1 0 (fun _ => 0) := ⟨_, by rw [← hm]; exact (World.ownsMap_made w2 Try.prog 3 rR).alloc (Obj.map #[] 0), IP.start⟩
  have hS0 : IM ((w2.alloc (Obj.map #[] 0)).alloc (Obj.map #[] 0)) (m1 + 1) 0 (fun _ => 0) := ⟨_, by rw [← hz3]; exact World.ownsMap_made (w2.alloc (Obj.map #[] 0)) Try.prog 3 rR, IP.start⟩
  have hlt := hP.lt
  obtain ⟨m2, hm2⟩ : ∃ m2, m1 + 1 = m2 := ⟨_, rfl⟩
  rw [hm2] at hS0 hz3
  have hP2 := ((hP.mono (G := fun k => w.heap.size ≤ k ∧ k ≠ m1 ∧ k ≠ m2) (fun k h1 h2 => ⟨h2, by omega, by omega⟩)).alloc (Obj.map #[] 0)).alloc (Obj.map #[] 0)
  have hb2 := (hb.alloc hb.size (Obj.map #[] 0)).alloc (Nat.le_trans hb.size (by simp)) (Obj.map #[] 0)
  have hb1 : b ≠ m1 := by omega
  have hb2' : b ≠ m2 := by omega
  have hm12 : m1 ≠ m2 := by omega
  have hmw : w.heap.size ≤ m1 := by rw [← hm]; exact hb.size
  have hm2w : w.heap.size ≤ m2 := by omega
  clear hP hb hlt
  obtain ⟨F, hF⟩ : ∃ F, F = fun k => w.heap.size ≤ k ∧ k ≠ m1 ∧ k ≠ m2 := ⟨_, rfl⟩
  have hFm : ∀ g, F g → ¬ g = m1 ∧ ¬ g = m2 := fun g h => by rw [hF] at h; exact h.2
  have hFn : ∀ W : World, m1 < W.heap.size → m2 < W.heap.size → ∀ k, F k ∨ W.heap.size ≤ k → F k := fun W hW hW2 k h => h.elim id (fun h => by rw [hF]; exact ⟨by omega, by omega, by omega⟩)
  rw [← hF] at hP2
  clear hF
  go_wp2
  try rw [hm]
  try rw [hz3]
  try rw [hm2]
  clear hm hz3 hmm
  generalize (w2.alloc (Obj.map #[] 0)).alloc (Obj.map #[] 0) = w3 at *
  clear hm2
  go_loopw [6, 7, 8, 9, 10] (fun i s7 s8 s9 s10 wr => ∃ k N N1 N2 : Nat, ∃ f ks gw gs, i = .int .i64 (k : Int) ∧ k ≤ len ∧ k ≤ 200 ∧ PS F wr p b N f ks ∧ N ≤ k ∧ IM wr m1 N1 gw ∧ N1 ≤ k ∧ IM wr m2 N2 gs ∧ N2 ≤ k ∧ BI f gw gs ∧ Below w.heap.size w wr) (fun i _ _ _ _ _ => 200 - (intOf i).toNat)
  case atStart => exact ⟨0, 0, 0, 0, _, _, _, _, by go_num, by omega, by omega, hP2, Nat.le_refl _, hW0, Nat.le_refl _, hS0, Nat.le_refl _, BI.start, hb2⟩
  case round =>
    clear hP2 hW0 hS0 hb2
    obtain ⟨k, N, N1, N2, f, ks, gw, gs, rfl, hkl, hk2, hP, hN, hW, hN1, hS, hN2, hI, hbw2⟩ := hrel
    replace hI := Lib.hid hI
    by_cases hlt : k < len
    · have hlz : (k : Int) < (len : Int) := by omega
      by_cases hlt2 : k < 200
      · have hlz2 : (k : Int) < 200 := by omega
        obtain ⟨rb, ro, rfl, hrb, hrow⟩ := ho.below hbw2 (by omega)
        have hx := hrow k hlt
        generalize fo k = x at hx
        obtain ⟨⟨k0, k1, k2, l⟩, A, c⟩ := x
        obtain ⟨x0, x1, x2, x3, ⟨hil, hwl, hcap, hcapm, wk0, wk1, wk2⟩⟩ := hx
        dsimp only at x0 x1 x2 x3 hil hwl hcap hcapm wk0 wk1 wk2
        clear hrow
        have hl1 := hW.lt
        have hl2 := hS.lt
        have hl3 := hP.lt
        have xa := (Below.refl _ wr).alloc (Nat.le_refl _) (.cells #[.int .i64 k0, .int .i64 k1, .int .i64 k2, .slice A l.length c] 29)
        have hPa := hP.alloc (.cells #[.int .i64 k0, .int .i64 k1, .int .i64 k2, .slice A l.length c] 29)
        have hWa := hW.below xa
        have hSa := hS.below xa
        have hba := hbw2.alloc hbw2.size (.cells #[.int .i64 k0, .int .i64 k1, .int .i64 k2, .slice A l.length c] 29)
        have hila := hil.alloc (.cells #[.int .i64 k0, .int .i64 k1, .int .i64 k2, .slice A l.length c] 29)
        have eO := Blk.new wr 29 #[.int .i64 k0, .int .i64 k1, .int .i64 k2, .slice A l.length c]
        have hNm : N < maxLen := by unfold maxLen; omega
        have hN1m : N1 < maxLen := by unfold maxLen; omega
        have hN2m : N2 < maxLen := by unfold maxLen; omega
        obtain ⟨nn, hnn⟩ : ∃ nn, ofL l [97] = nn := ⟨_, rfl⟩
        clear xa hP hW hS
        by_cases hll : 100 < l.length
        · have hlz3 : (100 : Int) < (l.length : Int) := by omega
          go_wp2
          go_roundw
          case measure => simp [intOf]; omega
          case rel => exact ⟨k + 1, N, N1, N2, _, _, _, _, by go_num, by omega, by omega, hPa, by omega, hWa, by omega, hSa, by omega, hI.out, hba⟩

        have hlz3 : ¬ (100 : Int) < (l.length : Int) := by omega
        have e0 := eO.cell 0
        have e1 := eO.cell 1
        have e3 := eO.cell 3
        simp only [List.getElem?_toArray, List.getElem?_cons_succ, List.getElem?_cons_zero] at e0 e1 e3
        by_cases h1 : k0 = 1
        · skip
          subst h1
          go_wp2_with fail
          refine (refof_any A l.length c l [97] _ hila (by omega)).mono ?_
          rw [hnn]
          rintro e w' ⟨rfl, hww⟩
          subst w'
          by_cases hE : openE ks k1 l = 0
          · obtain ⟨q1, q2, q3, q4, q5⟩ := openE_zero hE
            have key := popen_ok hPa hNm k1 A c l hila hwl wk1 q1 q2 q3 q4 q5
            go_wp2_with fail
            refine key.mono ?_
            rintro e WM ⟨rfl, xs, hxs, hP', hk⟩
            have tW := hWa.kept hk (fun e => hb1 e.symm)
            have tS := hSa.kept hk (fun e => hb2' e.symm)
            have tO := eO.kept hk (fun e => by omega)
            have tb := hba.trans (hk.below (B := w.heap.size) (Nat.le_trans hbw2.size (by simp)) (fun i hi e => by omega))
            have hP2 := hP'.mono (G := F) (fun i _ h => hFn _ (by simp; omega) (by simp; omega) i h)
            obtain ⟨WN, hrun, tW2, hk2⟩ := tW.upd hN1m wk1 nn
            have hI2 := hI.out.opened (hPa.no k1 q5) (MY.of_ q3) xs hxs hnn
            replace hI2 := Lib.hid hI2
            have y1 := tO.cell 1
            simp at y1
            clear key hE hxs hP'
            go_upto_region 23 with fail
            replace tP := hP2.kept hk2 (fun i hi e => (hFm i hi).1 e)
            replace tS := tS.kept hk2 (fun e => hm12 e.symm)
            replace tO := tO.kept hk2 (fun e => by omega)
            replace tb := tb.trans (hk2.below (B := w.heap.size) tb.size (fun i hi e => by omega))
            have T : ∃ M M1 M2 fN ksN gwN gsN, M ≤ k + 1 ∧ M1 ≤ k + 1 ∧ M2 ≤ k + 1 ∧ PS F WN p b M fN ksN ∧ IM WN m1 M1 gwN ∧ IM WN m2 M2 gsN ∧ BI fN gwN gsN := ⟨N + 1, N1 + 1, N2, _, _, _, _, by omega, by omega, by omega, tP, tW2, tS, hI2.out⟩
            obtain ⟨M, M1, M2, fN, ksN, gwN, gsN, tM, tM1, tM2, tP, tW, tS, tI⟩ := T
            clear hI2 hP2 tW2 hrun hk hk2 hI hPa hWa hSa hba eO hila y1 e0 e1 e3
            have hpa := parcel_any tP k1 wk1
            have hmyS := MY.of_ (tP.rc k1).s_.may
            have hmyB := MY.of_ (tP.rc k1).b_.may
            have he1 := tI.ew k1 wk1
            have he2 := tI.es k1 wk1
            have hl1 := tI.le1 k1 [97]
            have hl2 := tI.le2 k1 [97]
            obtain ⟨wl, hwl9⟩ : ∃ x, (fN k1).w.l = x := ⟨_, rfl⟩
            obtain ⟨sl, hsl9⟩ : ∃ x, (fN k1).s.l = x := ⟨_, rfl⟩
            obtain ⟨bl, hbl9⟩ : ∃ x, (fN k1).b.l = x := ⟨_, rfl⟩
            obtain ⟨oo, hoo9⟩ : ∃ x, (fN k1).o = x := ⟨_, rfl⟩
            rw [hwl9, hsl9, hbl9, hoo9] at hpa
            rw [hwl9] at he1 hl1
            rw [hsl9] at he2 hl1 hl2 hmyS
            rw [hbl9] at hl2 hmyB
            have hsl16 := hmyS.len
            have hbl16 := hmyB.len
            clear hwl9 hsl9 hbl9 hoo9 hmyS hmyB
            have hlk2 := fun (W : World) (h : IM W m2 M2 gsN) => h.look wk1
            have hlk1 := fun (W : World) (h : IM W m1 M1 gwN) => h.look wk1
            rw [he2] at hlk2
            rw [he1] at hlk1
            clear he1 he2
            replace hlk1 := Lib.hid hlk1
            replace hlk2 := Lib.hid hlk2
            replace tI := Lib.hid tI
            obtain ⟨ob, hob⟩ : ∃ ob, ob = wr.heap.size := ⟨_, rfl⟩
            rw [← hob] at tO ⊢
            replace hob := Lib.hid hob
            have o1 := tO.cell 1
            simp at o1
            generalize decide (k1 ∈ ksN) = I at hpa
            go_wp2_with fail
            refine hpa.mono ?_
            rintro e wq ⟨u, rfl, ⟨A6, c6, A10, c10, A14, c14, rfl, -, os, obk⟩, hxq⟩
            have tPq := tP.below hxq
            have tWq := tW.below hxq
            have tSq := tS.below hxq
            have tbq := tb.trans (hxq.mono tb.size)
            have tOq := tO.kept (Keep.of_below hxq) (Nat.not_le.2 tO.lt)
            clear hpa hxq o1
            go_upto_region 24 with fail
            have hilS := hil_of_form os
            have hilB := hil_of_form obk
            clear os obk
            have xa := (Below.refl wq.heap.size wq).alloc (Nat.le_refl _) (.cells #[.int .i64 oo, .slice A6 wl.length c6, .slice A10 sl.length c10, .slice A14 bl.length c14] 35)
            have zE := Blk.new wq 35 #[.int .i64 oo, .slice A6 wl.length c6, .slice A10 sl.length c10, .slice A14 bl.length c14]
            have tPz := (tPq.below xa).drew
            have tWz := tWq.below (xa.drew)
            have tSz := tSq.below (xa.drew)
            have tbz := (tbq.trans (xa.mono tbq.size)).drew
            have tOz := (tOq.kept (Keep.of_below xa) (Nat.not_le.2 tOq.lt)).drew
            have ilS := (hilS.below xa).drew
            have ilB := (hilB.below xa).drew
            replace zE := zE.drew
            obtain ⟨zb, hzb⟩ : ∃ zb, wq.heap.size = zb := ⟨_, rfl⟩
            rw [hzb] at zE ⊢
            clear hzb xa tPq tWq tSq tbq tOq hilS hilB
            have s1 := tOz.cell 1
            have s2 := zE.cell 2
            have s3 := zE.cell 3
            simp only [List.getElem?_toArray, List.getElem?_cons_succ, List.getElem?_cons_zero] at s1 s2 s3
            have s4 := hlk2.out _ tSz
            have s5 := hlk1.out _ tWz
            obtain ⟨sn, hsn⟩ : ∃ sn, ofL sl [97] = sn := ⟨_, rfl⟩
            obtain ⟨wn, hwn⟩ : ∃ wn, ofL wl [97] = wn := ⟨_, rfl⟩
            obtain ⟨bn, hbn⟩ : ∃ bn, ofL bl [97] = bn := ⟨_, rfl⟩
            have cSh := refof_any A10 sl.length c10 sl [97] _ ilS (by omega)
            have cBk := refof_any A14 bl.length c14 bl [97] _ ilB (by omega)
            rw [hsn] at s4 hl1 hl2 cSh
            rw [hwn] at s5 hl1
            rw [hbn] at hl2 cBk
            have sd : (fun W => W.cell? ⟨ob, 1, none⟩ = some (.int .i64 k1) ∧ W.cell? ⟨zb, 2, none⟩ = some (.slice A10 sl.length c10) ∧ W.cell? ⟨zb, 3, none⟩ = some (.slice A14 bl.length c14) ∧ (Instr.lookup 26 (.map (some m2)) (.int .i64 k1) false).run Try.prog W = .ok (.int .i64 sn) W ∧ (Instr.lookup 26 (.map (some m1)) (.int .i64 k1) false).run Try.prog W = .ok (.int .i64 wn) W) (wq.alloc (.cells #[.int .i64 oo, .slice A6 wl.length c6, .slice A10 sl.length c10, .slice A14 bl.length c14] 35)).drew := ⟨s1, s2, s3, s4, s5⟩
            have hd1 : decide (wn < sn) = false := decide_eq_false (by omega)
            have hd2 : decide (sn < bn) = false := decide_eq_false (by omega)
            have hd3 : (sn == sn) = true := beq_self_eq_true sn
            clear hsn hwn hbn hl1 hl2 s1 s2 s3 s4 s5 hlk1 hlk2 tOz tO tP tW tS tb zE
            refine wp_region_held_drew (S := (fun W => W.cell? ⟨ob, 1, none⟩ = some (.int .i64 k1) ∧ W.cell? ⟨zb, 2, none⟩ = some (.slice A10 sl.length c10) ∧ W.cell? ⟨zb, 3, none⟩ = some (.slice A14 bl.length c14) ∧ (Instr.lookup 26 (.map (some m2)) (.int .i64 k1) false).run Try.prog W = .ok (.int .i64 sn) W ∧ (Instr.lookup 26 (.map (some m1)) (.int .i64 k1) false).run Try.prog W = .ok (.int .i64 wn) W)) (by kernel_rfl) sd (fun hHeld => ?_)
            generalize (wq.alloc (.cells #[.int .i64 oo, .slice A6 wl.length c6, .slice A10 sl.length c10, .slice A14 bl.length c14] 35)).drew = wz at *
            (refine tkI 0 (by (simp only [List.getElem?_toArray, List.getElem?_cons_succ, List.getElem?_cons_zero]; rfl)) (by kernel_rfl) (by kernel_rfl) (by kernel_rfl) (by exact fun _ _ _ h => h) (by rfl) (by (intro w hSw; (try dsimp only at hSw); go_simp <;> with_reducible rfl)) (by assumption) ?_; try simp only [Act.put, List.setIfInBounds_toArray, List.set_cons_zero, List.set_cons_succ])
            (refine tkI 1 (by (simp only [List.getElem?_toArray, List.getElem?_cons_succ, List.getElem?_cons_zero]; rfl)) (by kernel_rfl) (by kernel_rfl) (by kernel_rfl) (by exact fun _ _ _ h => h) (by rfl) (by (intro w hSw; (try dsimp only at hSw); go_simp <;> with_reducible rfl)) (by assumption) ?_; try simp only [Act.put, List.setIfInBounds_toArray, List.set_cons_zero, List.set_cons_succ])
            (refine tkI 2 (by (simp only [List.getElem?_toArray, List.getElem?_cons_succ, List.getElem?_cons_zero]; rfl)) (by kernel_rfl) (by kernel_rfl) (by kernel_rfl) (by exact fun _ _ _ h => h) (by rfl) (by (intro w hSw; (try dsimp only at hSw); go_simp <;> with_reducible rfl)) (by assumption) ?_; try simp only [Act.put, List.setIfInBounds_toArray, List.set_cons_zero, List.set_cons_succ])
            (refine tkI 3 (by (simp only [List.getElem?_toArray, List.getElem?_cons_succ, List.getElem?_cons_zero]; rfl)) (by kernel_rfl) (by kernel_rfl) (by kernel_rfl) (by exact fun _ _ _ h => h) (by rfl) (by (intro w hSw; (try dsimp only at hSw); go_simp <;> with_reducible rfl)) (by assumption) ?_; try simp only [Act.put, List.setIfInBounds_toArray, List.set_cons_zero, List.set_cons_succ])
            (refine tkI 4 (by (simp only [List.getElem?_toArray, List.getElem?_cons_succ, List.getElem?_cons_zero]; rfl)) (by kernel_rfl) (by kernel_rfl) (by kernel_rfl) (by exact fun _ _ _ h => h) (by rfl) (by (intro w hSw; (try dsimp only at hSw); go_simp <;> with_reducible rfl)) (by assumption) ?_; try simp only [Act.put, List.setIfInBounds_toArray, List.set_cons_zero, List.set_cons_succ])
            (refine tkI 5 (by (simp only [List.getElem?_toArray, List.getElem?_cons_succ, List.getElem?_cons_zero]; rfl)) (by kernel_rfl) (by kernel_rfl) (by kernel_rfl) (by exact fun _ _ _ h => h) (by rfl) (by (intro w hSw; (try dsimp only at hSw); go_simp <;> with_reducible rfl)) (by assumption) ?_; try simp only [Act.put, List.setIfInBounds_toArray, List.set_cons_zero, List.set_cons_succ])
            (refine tkI 6 (by (simp only [List.getElem?_toArray, List.getElem?_cons_succ, List.getElem?_cons_zero]; rfl)) (by kernel_rfl) (by kernel_rfl) (by kernel_rfl) (by exact fun _ _ _ h => h) (by rfl) (by (intro w hSw; (try dsimp only at hSw); go_simp <;> with_reducible rfl)) (by assumption) ?_; try simp only [Act.put, List.setIfInBounds_toArray, List.set_cons_zero, List.set_cons_succ])
            (refine tkI 7 (by (simp only [List.getElem?_toArray, List.getElem?_cons_succ, List.getElem?_cons_zero]; rfl)) (by kernel_rfl) (by kernel_rfl) (by kernel_rfl) (by exact fun _ _ _ h => h) (by rfl) (by (intro w hSw; (try dsimp only at hSw); go_simp <;> with_reducible rfl)) (by assumption) ?_; try simp only [Act.put, List.setIfInBounds_toArray, List.set_cons_zero, List.set_cons_succ])
            (refine tkI 8 (by (simp only [List.getElem?_toArray, List.getElem?_cons_succ, List.getElem?_cons_zero]; rfl)) (by kernel_rfl) (by kernel_rfl) (by kernel_rfl) (by exact fun _ _ _ h => h) (by rfl) (by (intro w hSw; (try dsimp only at hSw); go_simp <;> with_reducible rfl)) (by assumption) ?_; try simp only [Act.put, List.setIfInBounds_toArray, List.set_cons_zero, List.set_cons_succ])
            (refine tkI 9 (by (simp only [List.getElem?_toArray, List.getElem?_cons_succ, List.getElem?_cons_zero]; rfl)) (by kernel_rfl) (by kernel_rfl) (by kernel_rfl) (by exact fun _ _ _ h => h) (by rfl) (by (intro w hSw; (try dsimp only at hSw); go_simp <;> with_reducible rfl)) (by assumption) ?_; try simp only [Act.put, List.setIfInBounds_toArray, List.set_cons_zero, List.set_cons_succ])
            (refine tkI 10 (by (simp only [List.getElem?_toArray, List.getElem?_cons_succ, List.getElem?_cons_zero]; rfl)) (by kernel_rfl) (by kernel_rfl) (by kernel_rfl) (by exact fun _ _ _ h => h) (by rfl) (by (intro w hSw; (try dsimp only at hSw); go_simp <;> with_reducible rfl)) (by assumption) ?_; try simp only [Act.put, List.setIfInBounds_toArray, List.set_cons_zero, List.set_cons_succ])
            (refine tkI 11 (by (simp only [List.getElem?_toArray, List.getElem?_cons_succ, List.getElem?_cons_zero]; rfl)) (by kernel_rfl) (by kernel_rfl) (by kernel_rfl) (by exact fun _ _ _ h => h) (by rfl) (by (intro w hSw; (try dsimp only at hSw); go_simp <;> with_reducible rfl)) (by assumption) ?_; try simp only [Act.put, List.setIfInBounds_toArray, List.set_cons_zero, List.set_cons_succ])
            (refine tkI 13 (by (simp only [List.getElem?_toArray, List.getElem?_cons_succ, List.getElem?_cons_zero]; rfl)) (by kernel_rfl) (by kernel_rfl) (by kernel_rfl) (by exact fun _ _ _ h => h) (by rfl) (by (intro w hSw; (try dsimp only at hSw); go_simp <;> with_reducible rfl)) (by assumption) ?_; try simp only [Act.put, List.setIfInBounds_toArray, List.set_cons_zero, List.set_cons_succ])
            (refine tkI 14 (by (simp only [List.getElem?_toArray, List.getElem?_cons_succ, List.getElem?_cons_zero]; rfl)) (by kernel_rfl) (by kernel_rfl) (by kernel_rfl) (by exact fun _ _ _ h => h) (by rfl) (by (intro w hSw; (try dsimp only at hSw); go_simp <;> with_reducible rfl)) (by assumption) ?_; try simp only [Act.put, List.setIfInBounds_toArray, List.set_cons_zero, List.set_cons_succ])
            (refine tkI 15 (by (simp only [List.getElem?_toArray, List.getElem?_cons_succ, List.getElem?_cons_zero]; rfl)) (by kernel_rfl) (by kernel_rfl) (by kernel_rfl) (by exact fun _ _ _ h => h) (by rfl) (by (intro w hSw; (try dsimp only at hSw); go_simp <;> with_reducible rfl)) (by assumption) ?_; try simp only [Act.put, List.setIfInBounds_toArray, List.set_cons_zero, List.set_cons_succ])
            (refine tkI 16 (by (simp only [List.getElem?_toArray, List.getElem?_cons_succ, List.getElem?_cons_zero]; rfl)) (by kernel_rfl) (by kernel_rfl) (by kernel_rfl) (by exact fun _ _ _ h => h) (by rfl) (by (intro w hSw; (try dsimp only at hSw); go_simp <;> with_reducible rfl)) (by assumption) ?_; try simp only [Act.put, List.setIfInBounds_toArray, List.set_cons_zero, List.set_cons_succ])
            refine wpAnyH_ready (rs := [12]) (by kernel_rfl) (by simp) ?_
            refine AllReadyH.cons (by (simp only [List.getElem?_toArray, List.getElem?_cons_succ, List.getElem?_cons_zero]; rfl)) (fun K hK => ?_) AllReadyH.nil
            go_simp
            refine (cSh).mono ?_
            rintro e w' ⟨rfl, hww⟩
            subst w'
            refine hK.out _ _ sd (fun hHeld2 => ?_)
            clear hK K hHeld
            have hHeld := hHeld2
            clear hHeld2
            try simp only [Act.put, List.setIfInBounds_toArray, List.set_cons_zero, List.set_cons_succ]
            (refine tkI 17 (by (simp only [List.getElem?_toArray, List.getElem?_cons_succ, List.getElem?_cons_zero]; rfl)) (by kernel_rfl) (by kernel_rfl) (by kernel_rfl) (by exact fun _ _ _ h => h) (by rfl) (by (intro w hSw; (try dsimp only at hSw); go_simp <;> with_reducible rfl)) (by assumption) ?_; try simp only [Act.put, List.setIfInBounds_toArray, List.set_cons_zero, List.set_cons_succ])
            (refine tkI 18 (by (simp only [List.getElem?_toArray, List.getElem?_cons_succ, List.getElem?_cons_zero]; rfl)) (by kernel_rfl) (by kernel_rfl) (by kernel_rfl) (by exact fun _ _ _ h => h) (by rfl) (by (intro w hSw; (try dsimp only at hSw); go_simp <;> with_reducible rfl)) (by assumption) ?_; try simp only [Act.put, List.setIfInBounds_toArray, List.set_cons_zero, List.set_cons_succ])
            (refine tkI 19 (by (simp only [List.getElem?_toArray, List.getElem?_cons_succ, List.getElem?_cons_zero]; rfl)) (by kernel_rfl) (by kernel_rfl) (by kernel_rfl) (by exact fun _ _ _ h => h) (by rfl) (by (intro w hSw; (try dsimp only at hSw); go_simp <;> with_reducible rfl)) (by assumption) ?_; try simp only [Act.put, List.setIfInBounds_toArray, List.set_cons_zero, List.set_cons_succ])
            (refine tkI 20 (by (simp only [List.getElem?_toArray, List.getElem?_cons_succ, List.getElem?_cons_zero]; rfl)) (by kernel_rfl) (by kernel_rfl) (by kernel_rfl) (by exact fun _ _ _ h => h) (by rfl) (by (intro w hSw; (try dsimp only at hSw); go_simp <;> with_reducible rfl)) (by assumption) ?_; try simp only [Act.put, List.setIfInBounds_toArray, List.set_cons_zero, List.set_cons_succ])
            (refine tkI 21 (by (simp only [List.getElem?_toArray, List.getElem?_cons_succ, List.getElem?_cons_zero]; rfl)) (by kernel_rfl) (by kernel_rfl) (by kernel_rfl) (by exact fun _ _ _ h => h) (by rfl) (by (intro w hSw; (try dsimp only at hSw); go_simp <;> with_reducible rfl)) (by assumption) ?_; try simp only [Act.put, List.setIfInBounds_toArray, List.set_cons_zero, List.set_cons_succ])
            (refine tkI 23 (by (simp only [List.getElem?_toArray, List.getElem?_cons_succ, List.getElem?_cons_zero]; rfl)) (by kernel_rfl) (by kernel_rfl) (by kernel_rfl) (by exact fun _ _ _ h => h) (by rfl) (by (intro w hSw; (try dsimp only at hSw); go_simp <;> with_reducible rfl)) (by assumption) ?_; try simp only [Act.put, List.setIfInBounds_toArray, List.set_cons_zero, List.set_cons_succ])
            (refine tkI 24 (by (simp only [List.getElem?_toArray, List.getElem?_cons_succ, List.getElem?_cons_zero]; rfl)) (by kernel_rfl) (by kernel_rfl) (by kernel_rfl) (by exact fun _ _ _ h => h) (by rfl) (by (intro w hSw; (try dsimp only at hSw); go_simp <;> with_reducible rfl)) (by assumption) ?_; try simp only [Act.put, List.setIfInBounds_toArray, List.set_cons_zero, List.set_cons_succ])
            (refine tkI 25 (by (simp only [List.getElem?_toArray, List.getElem?_cons_succ, List.getElem?_cons_zero]; rfl)) (by kernel_rfl) (by kernel_rfl) (by kernel_rfl) (by exact fun _ _ _ h => h) (by rfl) (by (intro w hSw; (try dsimp only at hSw); go_simp <;> with_reducible rfl)) (by assumption) ?_; try simp only [Act.put, List.setIfInBounds_toArray, List.set_cons_zero, List.set_cons_succ])
            (refine tkI 26 (by (simp only [List.getElem?_toArray, List.getElem?_cons_succ, List.getElem?_cons_zero]; rfl)) (by kernel_rfl) (by kernel_rfl) (by kernel_rfl) (by exact fun _ _ _ h => h) (by rfl) (by (intro w hSw; (try dsimp only at hSw); go_simp <;> with_reducible rfl)) (by assumption) ?_; try simp only [Act.put, List.setIfInBounds_toArray, List.set_cons_zero, List.set_cons_succ])
            refine wpAnyH_ready (rs := [22]) (by kernel_rfl) (by simp) ?_
            refine AllReadyH.cons (by (simp only [List.getElem?_toArray, List.getElem?_cons_succ, List.getElem?_cons_zero]; rfl)) (fun K hK => ?_) AllReadyH.nil
            go_simp
            refine (cBk).mono ?_
            rintro e w' ⟨rfl, hww⟩
            subst w'
            refine hK.out _ _ sd (fun hHeld2 => ?_)
            clear hK K hHeld
            have hHeld := hHeld2
            clear hHeld2
            try simp only [Act.put, List.setIfInBounds_toArray, List.set_cons_zero, List.set_cons_succ]
            (refine tkI 27 (by (simp only [List.getElem?_toArray, List.getElem?_cons_succ, List.getElem?_cons_zero]; rfl)) (by kernel_rfl) (by kernel_rfl) (by kernel_rfl) (by exact fun _ _ _ h => h) (by rfl) (by (intro w hSw; (try dsimp only at hSw); go_simp <;> with_reducible rfl)) (by assumption) ?_; try simp only [Act.put, List.setIfInBounds_toArray, List.set_cons_zero, List.set_cons_succ])
            (refine tkI 28 (by (simp only [List.getElem?_toArray, List.getElem?_cons_succ, List.getElem?_cons_zero]; rfl)) (by kernel_rfl) (by kernel_rfl) (by kernel_rfl) (by exact fun _ _ _ h => h) (by rfl) (by (intro w hSw; (try dsimp only at hSw); go_simp <;> with_reducible rfl)) (by assumption) ?_; try simp only [Act.put, List.setIfInBounds_toArray, List.set_cons_zero, List.set_cons_succ])
            refine wpAnyH_done (by kernel_rfl) ?_ _
            go_wp2
            go_roundw
            case measure => simp [intOf]; omega
            case rel => exact ⟨k + 1, _, _, _, _, _, _, _, by go_num, by omega, by omega, tPz, by omega, tWz, by omega, tSz, by omega, tI.out, tbz⟩
          · have key := popen_no hPa k1 A c l hila wk1 (by omega) hE
            have hEb : (openE ks k1 l == 0) = false := beq_eq_false_iff_ne.2 hE
            generalize openE ks k1 l = E at key hEb
            clear hE
            go_wp2_with fail
            refine key.mono ?_
            rintro e WN ⟨rfl, hx⟩
            have tO := eO.kept (Keep.of_below hx) (Nat.not_le.2 eO.lt)
            have tb := hba.trans (hx.mono hba.size)
            have T : ∃ M M1 M2 fN ksN gwN gsN, M ≤ k + 1 ∧ M1 ≤ k + 1 ∧ M2 ≤ k + 1 ∧ PS F WN p b M fN ksN ∧ IM WN m1 M1 gwN ∧ IM WN m2 M2 gsN ∧ BI fN gwN gsN := ⟨N, N1, N2, _, _, _, _, by omega, by omega, by omega, hPa.below hx, hWa.below hx, hSa.below hx, hI.out⟩
            obtain ⟨M, M1, M2, fN, ksN, gwN, gsN, tM, tM1, tM2, tP, tW, tS, tI⟩ := T
            clear key hx hI hPa hWa hSa hba eO hila e0 e1 e3
            go_upto_region 23 with fail
            have hpa := parcel_any tP k1 wk1
            have hmyS := MY.of_ (tP.rc k1).s_.may
            have hmyB := MY.of_ (tP.rc k1).b_.may
            have he1 := tI.ew k1 wk1
            have he2 := tI.es k1 wk1
            have hl1 := tI.le1 k1 [97]
            have hl2 := tI.le2 k1 [97]
            obtain ⟨wl, hwl9⟩ : ∃ x, (fN k1).w.l = x := ⟨_, rfl⟩
            obtain ⟨sl, hsl9⟩ : ∃ x, (fN k1).s.l = x := ⟨_, rfl⟩
            obtain ⟨bl, hbl9⟩ : ∃ x, (fN k1).b.l = x := ⟨_, rfl⟩
            obtain ⟨oo, hoo9⟩ : ∃ x, (fN k1).o = x := ⟨_, rfl⟩
            rw [hwl9, hsl9, hbl9, hoo9] at hpa
            rw [hwl9] at he1 hl1
            rw [hsl9] at he2 hl1 hl2 hmyS
            rw [hbl9] at hl2 hmyB
            have hsl16 := hmyS.len
            have hbl16 := hmyB.len
            clear hwl9 hsl9 hbl9 hoo9 hmyS hmyB
            have hlk2 := fun (W : World) (h : IM W m2 M2 gsN) => h.look wk1
            have hlk1 := fun (W : World) (h : IM W m1 M1 gwN) => h.look wk1
            rw [he2] at hlk2
            rw [he1] at hlk1
            clear he1 he2
            replace hlk1 := Lib.hid hlk1
            replace hlk2 := Lib.hid hlk2
            replace tI := Lib.hid tI
            obtain ⟨ob, hob⟩ : ∃ ob, ob = wr.heap.size := ⟨_, rfl⟩
            rw [← hob] at tO ⊢
            replace hob := Lib.hid hob
            have o1 := tO.cell 1
            simp at o1
            generalize decide (k1 ∈ ksN) = I at hpa
            go_wp2_with fail
            refine hpa.mono ?_
            rintro e wq ⟨u, rfl, ⟨A6, c6, A10, c10, A14, c14, rfl, -, os, obk⟩, hxq⟩
            have tPq := tP.below hxq
            have tWq := tW.below hxq
            have tSq := tS.below hxq
            have tbq := tb.trans (hxq.mono tb.size)
            have tOq := tO.kept (Keep.of_below hxq) (Nat.not_le.2 tO.lt)
            clear hpa hxq o1
            go_upto_region 24 with fail
            have hilS := hil_of_form os
            have hilB := hil_of_form obk
            clear os obk
            have xa := (Below.refl wq.heap.size wq).alloc (Nat.le_refl _) (.cells #[.int .i64 oo, .slice A6 wl.length c6, .slice A10 sl.length c10, .slice A14 bl.length c14] 35)
            have zE := Blk.new wq 35 #[.int .i64 oo, .slice A6 wl.length c6, .slice A10 sl.length c10, .slice A14 bl.length c14]
            have tPz := (tPq.below xa).drew
            have tWz := tWq.below (xa.drew)
            have tSz := tSq.below (xa.drew)
            have tbz := (tbq.trans (xa.mono tbq.size)).drew
            have tOz := (tOq.kept (Keep.of_below xa) (Nat.not_le.2 tOq.lt)).drew
            have ilS := (hilS.below xa).drew
            have ilB := (hilB.below xa).drew
            replace zE := zE.drew
            obtain ⟨zb, hzb⟩ : ∃ zb, wq.heap.size = zb := ⟨_, rfl⟩
            rw [hzb] at zE ⊢
            clear hzb xa tPq tWq tSq tbq tOq hilS hilB
            have s1 := tOz.cell 1
            have s2 := zE.cell 2
            have s3 := zE.cell 3
            simp only [List.getElem?_toArray, List.getElem?_cons_succ, List.getElem?_cons_zero] at s1 s2 s3
            have s4 := hlk2.out _ tSz
            have s5 := hlk1.out _ tWz
            obtain ⟨sn, hsn⟩ : ∃ sn, ofL sl [97] = sn := ⟨_, rfl⟩
            obtain ⟨wn, hwn⟩ : ∃ wn, ofL wl [97] = wn := ⟨_, rfl⟩
            obtain ⟨bn, hbn⟩ : ∃ bn, ofL bl [97] = bn := ⟨_, rfl⟩
            have cSh := refof_any A10 sl.length c10 sl [97] _ ilS (by omega)
            have cBk := refof_any A14 bl.length c14 bl [97] _ ilB (by omega)
            rw [hsn] at s4 hl1 hl2 cSh
            rw [hwn] at s5 hl1
            rw [hbn] at hl2 cBk
            have sd : (fun W => W.cell? ⟨ob, 1, none⟩ = some (.int .i64 k1) ∧ W.cell? ⟨zb, 2, none⟩ = some (.slice A10 sl.length c10) ∧ W.cell? ⟨zb, 3, none⟩ = some (.slice A14 bl.length c14) ∧ (Instr.lookup 26 (.map (some m2)) (.int .i64 k1) false).run Try.prog W = .ok (.int .i64 sn) W ∧ (Instr.lookup 26 (.map (some m1)) (.int .i64 k1) false).run Try.prog W = .ok (.int .i64 wn) W) (wq.alloc (.cells #[.int .i64 oo, .slice A6 wl.length c6, .slice A10 sl.length c10, .slice A14 bl.length c14] 35)).drew := ⟨s1, s2, s3, s4, s5⟩
            have hd1 : decide (wn < sn) = false := decide_eq_false (by omega)
            have hd2 : decide (sn < bn) = false := decide_eq_false (by omega)
            have hd3 : (sn == sn) = true := beq_self_eq_true sn
            clear hsn hwn hbn hl1 hl2 s1 s2 s3 s4 s5 hlk1 hlk2 tOz tO tP tW tS tb zE
            refine wp_region_held_drew (S := (fun W => W.cell? ⟨ob, 1, none⟩ = some (.int .i64 k1) ∧ W.cell? ⟨zb, 2, none⟩ = some (.slice A10 sl.length c10) ∧ W.cell? ⟨zb, 3, none⟩ = some (.slice A14 bl.length c14) ∧ (Instr.lookup 26 (.map (some m2)) (.int .i64 k1) false).run Try.prog W = .ok (.int .i64 sn) W ∧ (Instr.lookup 26 (.map (some m1)) (.int .i64 k1) false).run Try.prog W = .ok (.int .i64 wn) W)) (by kernel_rfl) sd (fun hHeld => ?_)
            generalize (wq.alloc (.cells #[.int .i64 oo, .slice A6 wl.length c6, .slice A10 sl.length c10, .slice A14 bl.length c14] 35)).drew = wz at *
            (refine tkI 0 (by (simp only [List.getElem?_toArray, List.getElem?_cons_succ, List.getElem?_cons_zero]; rfl)) (by kernel_rfl) (by kernel_rfl) (by kernel_rfl) (by exact fun _ _ _ h => h) (by rfl) (by (intro w hSw; (try dsimp only at hSw); go_simp <;> with_reducible rfl)) (by assumption) ?_; try simp only [Act.put, List.setIfInBounds_toArray, List.set_cons_zero, List.set_cons_succ])
            (refine tkI 1 (by (simp only [List.getElem?_toArray, List.getElem?_cons_succ, List.getElem?_cons_zero]; rfl)) (by kernel_rfl) (by kernel_rfl) (by kernel_rfl) (by exact fun _ _ _ h => h) (by rfl) (by (intro w hSw; (try dsimp only at hSw); go_simp <;> with_reducible rfl)) (by assumption) ?_; try simp only [Act.put, List.setIfInBounds_toArray, List.set_cons_zero, List.set_cons_succ])
            (refine tkI 2 (by (simp only [List.getElem?_toArray, List.getElem?_cons_succ, List.getElem?_cons_zero]; rfl)) (by kernel_rfl) (by kernel_rfl) (by kernel_rfl) (by exact fun _ _ _ h => h) (by rfl) (by (intro w hSw; (try dsimp only at hSw); go_simp <;> with_reducible rfl)) (by assumption) ?_; try simp only [Act.put, List.setIfInBounds_toArray, List.set_cons_zero, List.set_cons_succ])
            (refine tkI 3 (by (simp only [List.getElem?_toArray, List.getElem?_cons_succ, List.getElem?_cons_zero]; rfl)) (by kernel_rfl) (by kernel_rfl) (by kernel_rfl) (by exact fun _ _ _ h => h) (by rfl) (by (intro w hSw; (try dsimp only at hSw); go_simp <;> with_reducible rfl)) (by assumption) ?_; try simp only [Act.put, List.setIfInBounds_toArray, List.set_cons_zero, List.set_cons_succ])
            (refine tkI 4 (by (simp only [List.getElem?_toArray, List.getElem?_cons_succ, List.getElem?_cons_zero]; rfl)) (by kernel_rfl) (by kernel_rfl) (by kernel_rfl) (by exact fun _ _ _ h => h) (by rfl) (by (intro w hSw; (try dsimp only at hSw); go_simp <;> with_reducible rfl)) (by assumption) ?_; try simp only [Act.put, List.setIfInBounds_toArray, List.set_cons_zero, List.set_cons_succ])
            (refine tkI 5 (by (simp only [List.getElem?_toArray, List.getElem?_cons_succ, List.getElem?_cons_zero]; rfl)) (by kernel_rfl) (by kernel_rfl) (by kernel_rfl) (by exact fun _ _ _ h => h) (by rfl) (by (intro w hSw; (try dsimp only at hSw); go_simp <;> with_reducible rfl)) (by assumption) ?_; try simp only [Act.put, List.setIfInBounds_toArray, List.set_cons_zero, List.set_cons_succ])
            (refine tkI 6 (by (simp only [List.getElem?_toArray, List.getElem?_cons_succ, List.getElem?_cons_zero]; rfl)) (by kernel_rfl) (by kernel_rfl) (by kernel_rfl) (by exact fun _ _ _ h => h) (by rfl) (by (intro w hSw; (try dsimp only at hSw); go_simp <;> with_reducible rfl)) (by assumption) ?_; try simp only [Act.put, List.setIfInBounds_toArray, List.set_cons_zero, List.set_cons_succ])
            (refine tkI 7 (by (simp only [List.getElem?_toArray, List.getElem?_cons_succ, List.getElem?_cons_zero]; rfl)) (by kernel_rfl) (by kernel_rfl) (by kernel_rfl) (by exact fun _ _ _ h => h) (by rfl) (by (intro w hSw; (try dsimp only at hSw); go_simp <;> with_reducible rfl)) (by assumption) ?_; try simp only [Act.put, List.setIfInBounds_toArray, List.set_cons_zero, List.set_cons_succ])
            (refine tkI 8 (by (simp only [List.getElem?_toArray, List.getElem?_cons_succ, List.getElem?_cons_zero]; rfl)) (by kernel_rfl) (by kernel_rfl) (by kernel_rfl) (by exact fun _ _ _ h => h) (by rfl) (by (intro w hSw; (try dsimp only at hSw); go_simp <;> with_reducible rfl)) (by assumption) ?_; try simp only [Act.put, List.setIfInBounds_toArray, List.set_cons_zero, List.set_cons_succ])
            (refine tkI 9 (by (simp only [List.getElem?_toArray, List.getElem?_cons_succ, List.getElem?_cons_zero]; rfl)) (by kernel_rfl) (by kernel_rfl) (by kernel_rfl) (by exact fun _ _ _ h => h) (by rfl) (by (intro w hSw; (try dsimp only at hSw); go_simp <;> with_reducible rfl)) (by assumption) ?_; try simp only [Act.put, List.setIfInBounds_toArray, List.set_cons_zero, List.set_cons_succ])
            (refine tkI 10 (by (simp only [List.getElem?_toArray, List.getElem?_cons_succ, List.getElem?_cons_zero]; rfl)) (by kernel_rfl) (by kernel_rfl) (by kernel_rfl) (by exact fun _ _ _ h => h) (by rfl) (by (intro w hSw; (try dsimp only at hSw); go_simp <;> with_reducible rfl)) (by assumption) ?_; try simp only [Act.put, List.setIfInBounds_toArray, List.set_cons_zero, List.set_cons_succ])
            (refine tkI 11 (by (simp only [List.getElem?_toArray, List.getElem?_cons_succ, List.getElem?_cons_zero]; rfl)) (by kernel_rfl) (by kernel_rfl) (by kernel_rfl) (by exact fun _ _ _ h => h) (by rfl) (by (intro w hSw; (try dsimp only at hSw); go_simp <;> with_reducible rfl)) (by assumption) ?_; try simp only [Act.put, List.setIfInBounds_toArray, List.set_cons_zero, List.set_cons_succ])
            (refine tkI 13 (by (simp only [List.getElem?_toArray, List.getElem?_cons_succ, List.getElem?_cons_zero]; rfl)) (by kernel_rfl) (by kernel_rfl) (by kernel_rfl) (by exact fun _ _ _ h => h) (by rfl) (by (intro w hSw; (try dsimp only at hSw); go_simp <;> with_reducible rfl)) (by assumption) ?_; try simp only [Act.put, List.setIfInBounds_toArray, List.set_cons_zero, List.set_cons_succ])
            (refine tkI 14 (by (simp only [List.getElem?_toArray, List.getElem?_cons_succ, List.getElem?_cons_zero]; rfl)) (by kernel_rfl) (by kernel_rfl) (by kernel_rfl) (by exact fun _ _ _ h => h) (by rfl) (by (intro w hSw; (try dsimp only at hSw); go_simp <;> with_reducible rfl)) (by assumption) ?_; try simp only [Act.put, List.setIfInBounds_toArray, List.set_cons_zero, List.set_cons_succ])
            (refine tkI 15 (by (simp only [List.getElem?_toArray, List.getElem?_cons_succ, List.getElem?_cons_zero]; rfl)) (by kernel_rfl) (by kernel_rfl) (by kernel_rfl) (by exact fun _ _ _ h => h) (by rfl) (by (intro w hSw; (try dsimp only at hSw); go_simp <;> with_reducible rfl)) (by assumption) ?_; try simp only [Act.put, List.setIfInBounds_toArray, List.set_cons_zero, List.set_cons_succ])
            (refine tkI 16 (by (simp only [List.getElem?_toArray, List.getElem?_cons_succ, List.getElem?_cons_zero]; rfl)) (by kernel_rfl) (by kernel_rfl) (by kernel_rfl) (by exact fun _ _ _ h => h) (by rfl) (by (intro w hSw; (try dsimp only at hSw); go_simp <;> with_reducible rfl)) (by assumption) ?_; try simp only [Act.put, List.setIfInBounds_toArray, List.set_cons_zero, List.set_cons_succ])
            refine wpAnyH_ready (rs := [12]) (by kernel_rfl) (by simp) ?_
            refine AllReadyH.cons (by (simp only [List.getElem?_toArray, List.getElem?_cons_succ, List.getElem?_cons_zero]; rfl)) (fun K hK => ?_) AllReadyH.nil
            go_simp
            refine (cSh).mono ?_
            rintro e w' ⟨rfl, hww⟩
            subst w'
            refine hK.out _ _ sd (fun hHeld2 => ?_)
            clear hK K hHeld
            have hHeld := hHeld2
            clear hHeld2
            try simp only [Act.put, List.setIfInBounds_toArray, List.set_cons_zero, List.set_cons_succ]
            (refine tkI 17 (by (simp only [List.getElem?_toArray, List.getElem?_cons_succ, List.getElem?_cons_zero]; rfl)) (by kernel_rfl) (by kernel_rfl) (by kernel_rfl) (by exact fun _ _ _ h => h) (by rfl) (by (intro w hSw; (try dsimp only at hSw); go_simp <;> with_reducible rfl)) (by assumption) ?_; try simp only [Act.put, List.setIfInBounds_toArray, List.set_cons_zero, List.set_cons_succ])
            (refine tkI 18 (by (simp only [List.getElem?_toArray, List.getElem?_cons_succ, List.getElem?_cons_zero]; rfl)) (by kernel_rfl) (by kernel_rfl) (by kernel_rfl) (by exact fun _ _ _ h => h) (by rfl) (by (intro w hSw; (try dsimp only at hSw); go_simp <;> with_reducible rfl)) (by assumption) ?_; try simp only [Act.put, List.setIfInBounds_toArray, List.set_cons_zero, List.set_cons_succ])
            (refine tkI 19 (by (simp only [List.getElem?_toArray, List.getElem?_cons_succ, List.getElem?_cons_zero]; rfl)) (by kernel_rfl) (by kernel_rfl) (by kernel_rfl) (by exact fun _ _ _ h => h) (by rfl) (by (intro w hSw; (try dsimp only at hSw); go_simp <;> with_reducible rfl)) (by assumption) ?_; try simp only [Act.put, List.setIfInBounds_toArray, List.set_cons_zero, List.set_cons_succ])
            (refine tkI 20 (by (simp only [List.getElem?_toArray, List.getElem?_cons_succ, List.getElem?_cons_zero]; rfl)) (by kernel_rfl) (by kernel_rfl) (by kernel_rfl) (by exact fun _ _ _ h => h) (by rfl) (by (intro w hSw; (try dsimp only at hSw); go_simp <;> with_reducible rfl)) (by assumption) ?_; try simp only [Act.put, List.setIfInBounds_toArray, List.set_cons_zero, List.set_cons_succ])
            (refine tkI 21 (by (simp only [List.getElem?_toArray, List.getElem?_cons_succ, List.getElem?_cons_zero]; rfl)) (by kernel_rfl) (by kernel_rfl) (by kernel_rfl) (by exact fun _ _ _ h => h) (by rfl) (by (intro w hSw; (try dsimp only at hSw); go_simp <;> with_reducible rfl)) (by assumption) ?_; try simp only [Act.put, List.setIfInBounds_toArray, List.set_cons_zero, List.set_cons_succ])
            (refine tkI 23 (by (simp only [List.getElem?_toArray, List.getElem?_cons_succ, List.getElem?_cons_zero]; rfl)) (by kernel_rfl) (by kernel_rfl) (by kernel_rfl) (by exact fun _ _ _ h => h) (by rfl) (by (intro w hSw; (try dsimp only at hSw); go_simp <;> with_reducible rfl)) (by assumption) ?_; try simp only [Act.put, List.setIfInBounds_toArray, List.set_cons_zero, List.set_cons_succ])
            (refine tkI 24 (by (simp only [List.getElem?_toArray, List.getElem?_cons_succ, List.getElem?_cons_zero]; rfl)) (by kernel_rfl) (by kernel_rfl) (by kernel_rfl) (by exact fun _ _ _ h => h) (by rfl) (by (intro w hSw; (try dsimp only at hSw); go_simp <;> with_reducible rfl)) (by assumption) ?_; try simp only [Act.put, List.setIfInBounds_toArray, List.set_cons_zero, List.set_cons_succ])
            (refine tkI 25 (by (simp only [List.getElem?_toArray, List.getElem?_cons_succ, List.getElem?_cons_zero]; rfl)) (by kernel_rfl) (by kernel_rfl) (by kernel_rfl) (by exact fun _ _ _ h => h) (by rfl) (by (intro w hSw; (try dsimp only at hSw); go_simp <;> with_reducible rfl)) (by assumption) ?_; try simp only [Act.put, List.setIfInBounds_toArray, List.set_cons_zero, List.set_cons_succ])
            (refine tkI 26 (by (simp only [List.getElem?_toArray, List.getElem?_cons_succ, List.getElem?_cons_zero]; rfl)) (by kernel_rfl) (by kernel_rfl) (by kernel_rfl) (by exact fun _ _ _ h => h) (by rfl) (by (intro w hSw; (try dsimp only at hSw); go_simp <;> with_reducible rfl)) (by assumption) ?_; try simp only [Act.put, List.setIfInBounds_toArray, List.set_cons_zero, List.set_cons_succ])
            refine wpAnyH_ready (rs := [22]) (by kernel_rfl) (by simp) ?_
            refine AllReadyH.cons (by (simp only [List.getElem?_toArray, List.getElem?_cons_succ, List.getElem?_cons_zero]; rfl)) (fun K hK => ?_) AllReadyH.nil
            go_simp
            refine (cBk).mono ?_
            rintro e w' ⟨rfl, hww⟩
            subst w'
            refine hK.out _ _ sd (fun hHeld2 => ?_)
            clear hK K hHeld
            have hHeld := hHeld2
            clear hHeld2
            try simp only [Act.put, List.setIfInBounds_toArray, List.set_cons_zero, List.set_cons_succ]
            (refine tkI 27 (by (simp only [List.getElem?_toArray, List.getElem?_cons_succ, List.getElem?_cons_zero]; rfl)) (by kernel_rfl) (by kernel_rfl) (by kernel_rfl) (by exact fun _ _ _ h => h) (by rfl) (by (intro w hSw; (try dsimp only at hSw); go_simp <;> with_reducible rfl)) (by assumption) ?_; try simp only [Act.put, List.setIfInBounds_toArray, List.set_cons_zero, List.set_cons_succ])
            (refine tkI 28 (by (simp only [List.getElem?_toArray, List.getElem?_cons_succ, List.getElem?_cons_zero]; rfl)) (by kernel_rfl) (by kernel_rfl) (by kernel_rfl) (by exact fun _ _ _ h => h) (by rfl) (by (intro w hSw; (try dsimp only at hSw); go_simp <;> with_reducible rfl)) (by assumption) ?_; try simp only [Act.put, List.setIfInBounds_toArray, List.set_cons_zero, List.set_cons_succ])
            refine wpAnyH_done (by kernel_rfl) ?_ _
            go_wp2
            go_roundw
            case measure => simp [intOf]; omega
            case rel => exact ⟨k + 1, _, _, _, _, _, _, _, by go_num, by omega, by omega, tPz, by omega, tWz, by omega, tSz, by omega, tI.out, tbz⟩

        have hk1 : (k0 == 1) = false := beq_eq_false_iff_ne.2 h1
        by_cases h2 : k0 = 2
        · skip
          subst h2
          go_wp2_with fail
          refine (refof_any A l.length c l [97] _ hila (by omega)).mono ?_
          rw [hnn]
          rintro e w' ⟨rfl, hww⟩
          subst w'
          have key := ship_all hPa hNm k1 k2 wk1 A c l hila hwl (by omega)
          go_wp2_with fail
          refine key.mono ?_
          rintro e WM ⟨x, rfl, hxE, hk, hP4⟩
          have tW := hWa.kept hk (fun e => hb1 e.symm)
          have tS := hSa.kept hk (fun e => hb2' e.symm)
          have tO := eO.kept hk (fun e => by omega)
          have tb := hba.trans (hk.below (B := w.heap.size) (Nat.le_trans hbw2.size (by simp)) (fun i hi e => by omega))
          have y1 := tO.cell 1
          simp at y1
          clear key
          rcases hP4 with ⟨rfl, q1, q2, q3, q4, q5, q6, s, hs, hP4⟩ | ⟨hne, hP4⟩
          · have hrc := hPa.rc k1
            have hmyl := MY.of_ (plusE_may q5)
            have hI2 := hI.out.shipped (rg := k2) wk1 (MY.of_ hrc.w_.may) (MY.of_ hrc.s_.may) hmyl q5 q6 s hs hnn
            have hgb := hI.out.es k1 wk1
            have hgn := (MY.of_ hrc.s_.may).nonneg [97]
            have hnb := hmyl.nonneg [97]
            rw [← hgb] at hgn
            rw [hnn] at hnb
            have hlk := tS.look wk1
            obtain ⟨gk, hgk⟩ : ∃ gk, gs k1 = gk := ⟨_, rfl⟩
            rw [hgk] at hlk hgn hI2
            have hww : wrap64 (gk + nn) = gk + nn := by unfold wrap64; omega
            have hP2 := hP4.mono (G := F) (fun i _ h => hFn _ (by simp; omega) (by simp; omega) i h)
            obtain ⟨WN, hrun, tS2, hk2⟩ := tS.upd hN2m wk1 (gk + nn)
            replace hI2 := Lib.hid hI2
            clear hrc hmyl hgb hgn hnb hgk hxE hP4 q4 q5 q6 hs
            go_upto_region 23 with fail
            have tP := hP2.kept hk2 (fun i hi e => (hFm i hi).2 e)
            replace tW := tW.kept hk2 (fun e => hm12 e)
            replace tO := tO.kept hk2 (fun e => by omega)
            replace tb := tb.trans (hk2.below (B := w.heap.size) tb.size (fun i hi e => by omega))
            have T : ∃ M M1 M2 fN ksN gwN gsN, M ≤ k + 1 ∧ M1 ≤ k + 1 ∧ M2 ≤ k + 1 ∧ PS F WN p b M fN ksN ∧ IM WN m1 M1 gwN ∧ IM WN m2 M2 gsN ∧ BI fN gwN gsN := ⟨N + 1, N1, N2 + 1, _, _, _, _, by omega, by omega, by omega, tP, tW, tS2, hI2.out⟩
            obtain ⟨M, M1, M2, fN, ksN, gwN, gsN, tM, tM1, tM2, tP, tW, tS, tI⟩ := T
            clear hI2 hP2 tS2 hrun hk hk2 hI hPa hWa hSa hba eO hila y1 e0 e1 e3 hlk hww
            have hpa := parcel_any tP k1 wk1
            have hmyS := MY.of_ (tP.rc k1).s_.may
            have hmyB := MY.of_ (tP.rc k1).b_.may
            have he1 := tI.ew k1 wk1
            have he2 := tI.es k1 wk1
            have hl1 := tI.le1 k1 [97]
            have hl2 := tI.le2 k1 [97]
            obtain ⟨wl, hwl9⟩ : ∃ x, (fN k1).w.l = x := ⟨_, rfl⟩
            obtain ⟨sl, hsl9⟩ : ∃ x, (fN k1).s.l = x := ⟨_, rfl⟩
            obtain ⟨bl, hbl9⟩ : ∃ x, (fN k1).b.l = x := ⟨_, rfl⟩
            obtain ⟨oo, hoo9⟩ : ∃ x, (fN k1).o = x := ⟨_, rfl⟩
            rw [hwl9, hsl9, hbl9, hoo9] at hpa
            rw [hwl9] at he1 hl1
            rw [hsl9] at he2 hl1 hl2 hmyS
            rw [hbl9] at hl2 hmyB
            have hsl16 := hmyS.len
            have hbl16 := hmyB.len
            clear hwl9 hsl9 hbl9 hoo9 hmyS hmyB
            have hlk2 := fun (W : World) (h : IM W m2 M2 gsN) => h.look wk1
            have hlk1 := fun (W : World) (h : IM W m1 M1 gwN) => h.look wk1
            rw [he2] at hlk2
            rw [he1] at hlk1
            clear he1 he2
            replace hlk1 := Lib.hid hlk1
            replace hlk2 := Lib.hid hlk2
            replace tI := Lib.hid tI
            obtain ⟨ob, hob⟩ : ∃ ob, ob = wr.heap.size := ⟨_, rfl⟩
            rw [← hob] at tO ⊢
            replace hob := Lib.hid hob
            have o1 := tO.cell 1
            simp at o1
            generalize decide (k1 ∈ ksN) = I at hpa
            go_wp2_with fail
            refine hpa.mono ?_
            rintro e wq ⟨u, rfl, ⟨A6, c6, A10, c10, A14, c14, rfl, -, os, obk⟩, hxq⟩
            have tPq := tP.below hxq
            have tWq := tW.below hxq
            have tSq := tS.below hxq
            have tbq := tb.trans (hxq.mono tb.size)
            have tOq := tO.kept (Keep.of_below hxq) (Nat.not_le.2 tO.lt)
            clear hpa hxq o1
            go_upto_region 24 with fail
            have hilS := hil_of_form os
            have hilB := hil_of_form obk
            clear os obk
            have xa := (Below.refl wq.heap.size wq).alloc (Nat.le_refl _) (.cells #[.int .i64 oo, .slice A6 wl.length c6, .slice A10 sl.length c10, .slice A14 bl.length c14] 35)
            have zE := Blk.new wq 35 #[.int .i64 oo, .slice A6 wl.length c6, .slice A10 sl.length c10, .slice A14 bl.length c14]
            have tPz := (tPq.below xa).drew
            have tWz := tWq.below (xa.drew)
            have tSz := tSq.below (xa.drew)
            have tbz := (tbq.trans (xa.mono tbq.size)).drew
            have tOz := (tOq.kept (Keep.of_below xa) (Nat.not_le.2 tOq.lt)).drew
            have ilS := (hilS.below xa).drew
            have ilB := (hilB.below xa).drew
            replace zE := zE.drew
            obtain ⟨zb, hzb⟩ : ∃ zb, wq.heap.size = zb := ⟨_, rfl⟩
            rw [hzb] at zE ⊢
            clear hzb xa tPq tWq tSq tbq tOq hilS hilB
            have s1 := tOz.cell 1
            have s2 := zE.cell 2
            have s3 := zE.cell 3
            simp only [List.getElem?_toArray, List.getElem?_cons_succ, List.getElem?_cons_zero] at s1 s2 s3
            have s4 := hlk2.out _ tSz
            have s5 := hlk1.out _ tWz
            obtain ⟨sn, hsn⟩ : ∃ sn, ofL sl [97] = sn := ⟨_, rfl⟩
            obtain ⟨wn, hwn⟩ : ∃ wn, ofL wl [97] = wn := ⟨_, rfl⟩
            obtain ⟨bn, hbn⟩ : ∃ bn, ofL bl [97] = bn := ⟨_, rfl⟩
            have cSh := refof_any A10 sl.length c10 sl [97] _ ilS (by omega)
            have cBk := refof_any A14 bl.length c14 bl [97] _ ilB (by omega)
            rw [hsn] at s4 hl1 hl2 cSh
            rw [hwn] at s5 hl1
            rw [hbn] at hl2 cBk
            have sd : (fun W => W.cell? ⟨ob, 1, none⟩ = some (.int .i64 k1) ∧ W.cell? ⟨zb, 2, none⟩ = some (.slice A10 sl.length c10) ∧ W.cell? ⟨zb, 3, none⟩ = some (.slice A14 bl.length c14) ∧ (Instr.lookup 26 (.map (some m2)) (.int .i64 k1) false).run Try.prog W = .ok (.int .i64 sn) W ∧ (Instr.lookup 26 (.map (some m1)) (.int .i64 k1) false).run Try.prog W = .ok (.int .i64 wn) W) (wq.alloc (.cells #[.int .i64 oo, .slice A6 wl.length c6, .slice A10 sl.length c10, .slice A14 bl.length c14] 35)).drew := ⟨s1, s2, s3, s4, s5⟩
            have hd1 : decide (wn < sn) = false := decide_eq_false (by omega)
            have hd2 : decide (sn < bn) = false := decide_eq_false (by omega)
            have hd3 : (sn == sn) = true := beq_self_eq_true sn
            clear hsn hwn hbn hl1 hl2 s1 s2 s3 s4 s5 hlk1 hlk2 tOz tO tP tW tS tb zE
            refine wp_region_held_drew (S := (fun W => W.cell? ⟨ob, 1, none⟩ = some (.int .i64 k1) ∧ W.cell? ⟨zb, 2, none⟩ = some (.slice A10 sl.length c10) ∧ W.cell? ⟨zb, 3, none⟩ = some (.slice A14 bl.length c14) ∧ (Instr.lookup 26 (.map (some m2)) (.int .i64 k1) false).run Try.prog W = .ok (.int .i64 sn) W ∧ (Instr.lookup 26 (.map (some m1)) (.int .i64 k1) false).run Try.prog W = .ok (.int .i64 wn) W)) (by kernel_rfl) sd (fun hHeld => ?_)
            generalize (wq.alloc (.cells #[.int .i64 oo, .slice A6 wl.length c6, .slice A10 sl.length c10, .slice A14 bl.length c14] 35)).drew = wz at *
            (refine tkI 0 (by (simp only [List.getElem?_toArray, List.getElem?_cons_succ, List.getElem?_cons_zero]; rfl)) (by kernel_rfl) (by kernel_rfl) (by kernel_rfl) (by exact fun _ _ _ h => h) (by rfl) (by (intro w hSw; (try dsimp only at hSw); go_simp <;> with_reducible rfl)) (by assumption) ?_; try simp only [Act.put, List.setIfInBounds_toArray, List.set_cons_zero, List.set_cons_succ])
            (refine tkI 1 (by (simp only [List.getElem?_toArray, List.getElem?_cons_succ, List.getElem?_cons_zero]; rfl)) (by kernel_rfl) (by kernel_rfl) (by kernel_rfl) (by exact fun _ _ _ h => h) (by rfl) (by (intro w hSw; (try dsimp only at hSw); go_simp <;> with_reducible rfl)) (by assumption) ?_; try simp only [Act.put, List.setIfInBounds_toArray, List.set_cons_zero, List.set_cons_succ])
            (refine tkI 2 (by (simp only [List.getElem?_toArray, List.getElem?_cons_succ, List.getElem?_cons_zero]; rfl)) (by kernel_rfl) (by kernel_rfl) (by kernel_rfl) (by exact fun _ _ _ h => h) (by rfl) (by (intro w hSw; (try dsimp only at hSw); go_simp <;> with_reducible rfl)) (by assumption) ?_; try simp only [Act.put, List.setIfInBounds_toArray, List.set_cons_zero, List.set_cons_succ])
            (refine tkI 3 (by (simp only [List.getElem?_toArray, List.getElem?_cons_succ, List.getElem?_cons_zero]; rfl)) (by kernel_rfl) (by kernel_rfl) (by kernel_rfl) (by exact fun _ _ _ h => h) (by rfl) (by (intro w hSw; (try dsimp only at hSw); go_simp <;> with_reducible rfl)) (by assumption) ?_; try simp only [Act.put, List.setIfInBounds_toArray, List.set_cons_zero, List.set_cons_succ])
            (refine tkI 4 (by (simp only [List.getElem?_toArray, List.getElem?_cons_succ, List.getElem?_cons_zero]; rfl)) (by kernel_rfl) (by kernel_rfl) (by kernel_rfl) (by exact fun _ _ _ h => h) (by rfl) (by (intro w hSw; (try dsimp only at hSw); go_simp <;> with_reducible rfl)) (by assumption) ?_; try simp only [Act.put, List.setIfInBounds_toArray, List.set_cons_zero, List.set_cons_succ])
            (refine tkI 5 (by (simp only [List.getElem?_toArray, List.getElem?_cons_succ, List.getElem?_cons_zero]; rfl)) (by kernel_rfl) (by kernel_rfl) (by kernel_rfl) (by exact fun _ _ _ h => h) (by rfl) (by (intro w hSw; (try dsimp only at hSw); go_simp <;> with_reducible rfl)) (by assumption) ?_; try simp only [Act.put, List.setIfInBounds_toArray, List.set_cons_zero, List.set_cons_succ])
            (refine tkI 6 (by (simp only [List.getElem?_toArray, List.getElem?_cons_succ, List.getElem?_cons_zero]; rfl)) (by kernel_rfl) (by kernel_rfl) (by kernel_rfl) (by exact fun _ _ _ h => h) (by rfl) (by (intro w hSw; (try dsimp only at hSw); go_simp <;> with_reducible rfl)) (by assumption) ?_; try simp only [Act.put, List.setIfInBounds_toArray, List.set_cons_zero, List.set_cons_succ])
            (refine tkI 7 (by (simp only [List.getElem?_toArray, List.getElem?_cons_succ, List.getElem?_cons_zero]; rfl)) (by kernel_rfl) (by kernel_rfl) (by kernel_rfl) (by exact fun _ _ _ h => h) (by rfl) (by (intro w hSw; (try dsimp only at hSw); go_simp <;> with_reducible rfl)) (by assumption) ?_; try simp only [Act.put, List.setIfInBounds_toArray, List.set_cons_zero, List.set_cons_succ])
            (refine tkI 8 (by (simp only [List.getElem?_toArray, List.getElem?_cons_succ, List.getElem?_cons_zero]; rfl)) (by kernel_rfl) (by kernel_rfl) (by kernel_rfl) (by exact fun _ _ _ h => h) (by rfl) (by (intro w hSw; (try dsimp only at hSw); go_simp <;> with_reducible rfl)) (by assumption) ?_; try simp only [Act.put, List.setIfInBounds_toArray, List.set_cons_zero, List.set_cons_succ])
            (refine tkI 9 (by (simp only [List.getElem?_toArray, List.getElem?_cons_succ, List.getElem?_cons_zero]; rfl)) (by kernel_rfl) (by kernel_rfl) (by kernel_rfl) (by exact fun _ _ _ h => h) (by rfl) (by (intro w hSw; (try dsimp only at hSw); go_simp <;> with_reducible rfl)) (by assumption) ?_; try simp only [Act.put, List.setIfInBounds_toArray, List.set_cons_zero, List.set_cons_succ])
            (refine tkI 10 (by (simp only [List.getElem?_toArray, List.getElem?_cons_succ, List.getElem?_cons_zero]; rfl)) (by kernel_rfl) (by kernel_rfl) (by kernel_rfl) (by exact fun _ _ _ h => h) (by rfl) (by (intro w hSw; (try dsimp only at hSw); go_simp <;> with_reducible rfl)) (by assumption) ?_; try simp only [Act.put, List.setIfInBounds_toArray, List.set_cons_zero, List.set_cons_succ])
            (refine tkI 11 (by (simp only [List.getElem?_toArray, List.getElem?_cons_succ, List.getElem?_cons_zero]; rfl)) (by kernel_rfl) (by kernel_rfl) (by kernel_rfl) (by exact fun _ _ _ h => h) (by rfl) (by (intro w hSw; (try dsimp only at hSw); go_simp <;> with_reducible rfl)) (by assumption) ?_; try simp only [Act.put, List.setIfInBounds_toArray, List.set_cons_zero, List.set_cons_succ])
            (refine tkI 13 (by (simp only [List.getElem?_toArray, List.getElem?_cons_succ, List.getElem?_cons_zero]; rfl)) (by kernel_rfl) (by kernel_rfl) (by kernel_rfl) (by exact fun _ _ _ h => h) (by rfl) (by (intro w hSw; (try dsimp only at hSw); go_simp <;> with_reducible rfl)) (by assumption) ?_; try simp only [Act.put, List.setIfInBounds_toArray, List.set_cons_zero, List.set_cons_succ])
            (refine tkI 14 (by (simp only [List.getElem?_toArray, List.getElem?_cons_succ, List.getElem?_cons_zero]; rfl)) (by kernel_rfl) (by kernel_rfl) (by kernel_rfl) (by exact fun _ _ _ h => h) (by rfl) (by (intro w hSw; (try dsimp only at hSw); go_simp <;> with_reducible rfl)) (by assumption) ?_; try simp only [Act.put, List.setIfInBounds_toArray, List.set_cons_zero, List.set_cons_succ])
            (refine tkI 15 (by (simp only [List.getElem?_toArray, List.getElem?_cons_succ, List.getElem?_cons_zero]; rfl)) (by kernel_rfl) (by kernel_rfl) (by kernel_rfl) (by exact fun _ _ _ h => h) (by rfl) (by (intro w hSw; (try dsimp only at hSw); go_simp <;> with_reducible rfl)) (by assumption) ?_; try simp only [Act.put, List.setIfInBounds_toArray, List.set_cons_zero, List.set_cons_succ])
            (refine tkI 16 (by (simp only [List.getElem?_toArray, List.getElem?_cons_succ, List.getElem?_cons_zero]; rfl)) (by kernel_rfl) (by kernel_rfl) (by kernel_rfl) (by exact fun _ _ _ h => h) (by rfl) (by (intro w hSw; (try dsimp only at hSw); go_simp <;> with_reducible rfl)) (by assumption) ?_; try simp only [Act.put, List.setIfInBounds_toArray, List.set_cons_zero, List.set_cons_succ])
            refine wpAnyH_ready (rs := [12]) (by kernel_rfl) (by simp) ?_
            refine AllReadyH.cons (by (simp only [List.getElem?_toArray, List.getElem?_cons_succ, List.getElem?_cons_zero]; rfl)) (fun K hK => ?_) AllReadyH.nil
            go_simp
            refine (cSh).mono ?_
            rintro e w' ⟨rfl, hww⟩
            subst w'
            refine hK.out _ _ sd (fun hHeld2 => ?_)
            clear hK K hHeld
            have hHeld := hHeld2
            clear hHeld2
            try simp only [Act.put, List.setIfInBounds_toArray, List.set_cons_zero, List.set_cons_succ]
            (refine tkI 17 (by (simp only [List.getElem?_toArray, List.getElem?_cons_succ, List.getElem?_cons_zero]; rfl)) (by kernel_rfl) (by kernel_rfl) (by kernel_rfl) (by exact fun _ _ _ h => h) (by rfl) (by (intro w hSw; (try dsimp only at hSw); go_simp <;> with_reducible rfl)) (by assumption) ?_; try simp only [Act.put, List.setIfInBounds_toArray, List.set_cons_zero, List.set_cons_succ])
            (refine tkI 18 (by (simp only [List.getElem?_toArray, List.getElem?_cons_succ, List.getElem?_cons_zero]; rfl)) (by kernel_rfl) (by kernel_rfl) (by kernel_rfl) (by exact fun _ _ _ h => h) (by rfl) (by (intro w hSw; (try dsimp only at hSw); go_simp <;> with_reducible rfl)) (by assumption) ?_; try simp only [Act.put, List.setIfInBounds_toArray, List.set_cons_zero, List.set_cons_succ])
            (refine tkI 19 (by (simp only [List.getElem?_toArray, List.getElem?_cons_succ, List.getElem?_cons_zero]; rfl)) (by kernel_rfl) (by kernel_rfl) (by kernel_rfl) (by exact fun _ _ _ h => h) (by rfl) (by (intro w hSw; (try dsimp only at hSw); go_simp <;> with_reducible rfl)) (by assumption) ?_; try simp only [Act.put, List.setIfInBounds_toArray, List.set_cons_zero, List.set_cons_succ])
            (refine tkI 20 (by (simp only [List.getElem?_toArray, List.getElem?_cons_succ, List.getElem?_cons_zero]; rfl)) (by kernel_rfl) (by kernel_rfl) (by kernel_rfl) (by exact fun _ _ _ h => h) (by rfl) (by (intro w hSw; (try dsimp only at hSw); go_simp <;> with_reducible rfl)) (by assumption) ?_; try simp only [Act.put, List.setIfInBounds_toArray, List.set_cons_zero, List.set_cons_succ])
            (refine tkI 21 (by (simp only [List.getElem?_toArray, List.getElem?_cons_succ, List.getElem?_cons_zero]; rfl)) (by kernel_rfl) (by kernel_rfl) (by kernel_rfl) (by exact fun _ _ _ h => h) (by rfl) (by (intro w hSw; (try dsimp only at hSw); go_simp <;> with_reducible rfl)) (by assumption) ?_; try simp only [Act.put, List.setIfInBounds_toArray, List.set_cons_zero, List.set_cons_succ])
            (refine tkI 23 (by (simp only [List.getElem?_toArray, List.getElem?_cons_succ, List.getElem?_cons_zero]; rfl)) (by kernel_rfl) (by kernel_rfl) (by kernel_rfl) (by exact fun _ _ _ h => h) (by rfl) (by (intro w hSw; (try dsimp only at hSw); go_simp <;> with_reducible rfl)) (by assumption) ?_; try simp only [Act.put, List.setIfInBounds_toArray, List.set_cons_zero, List.set_cons_succ])
            (refine tkI 24 (by (simp only [List.getElem?_toArray, List.getElem?_cons_succ, List.getElem?_cons_zero]; rfl)) (by kernel_rfl) (by kernel_rfl) (by kernel_rfl) (by exact fun _ _ _ h => h) (by rfl) (by (intro w hSw; (try dsimp only at hSw); go_simp <;> with_reducible rfl)) (by assumption) ?_; try simp only [Act.put, List.setIfInBounds_toArray, List.set_cons_zero, List.set_cons_succ])
            (refine tkI 25 (by (simp only [List.getElem?_toArray, List.getElem?_cons_succ, List.getElem?_cons_zero]; rfl)) (by kernel_rfl) (by kernel_rfl) (by kernel_rfl) (by exact fun _ _ _ h => h) (by rfl) (by (intro w hSw; (try dsimp only at hSw); go_simp <;> with_reducible rfl)) (by assumption) ?_; try simp only [Act.put, List.setIfInBounds_toArray, List.set_cons_zero, List.set_cons_succ])
            (refine tkI 26 (by (simp only [List.getElem?_toArray, List.getElem?_cons_succ, List.getElem?_cons_zero]; rfl)) (by kernel_rfl) (by kernel_rfl) (by kernel_rfl) (by exact fun _ _ _ h => h) (by rfl) (by (intro w hSw; (try dsimp only at hSw); go_simp <;> with_reducible rfl)) (by assumption) ?_; try simp only [Act.put, List.setIfInBounds_toArray, List.set_cons_zero, List.set_cons_succ])
            refine wpAnyH_ready (rs := [22]) (by kernel_rfl) (by simp) ?_
            refine AllReadyH.cons (by (simp only [List.getElem?_toArray, List.getElem?_cons_succ, List.getElem?_cons_zero]; rfl)) (fun K hK => ?_) AllReadyH.nil
            go_simp
            refine (cBk).mono ?_
            rintro e w' ⟨rfl, hww⟩
            subst w'
            refine hK.out _ _ sd (fun hHeld2 => ?_)
            clear hK K hHeld
            have hHeld := hHeld2
            clear hHeld2
            try simp only [Act.put, List.setIfInBounds_toArray, List.set_cons_zero, List.set_cons_succ]
            (refine tkI 27 (by (simp only [List.getElem?_toArray, List.getElem?_cons_succ, List.getElem?_cons_zero]; rfl)) (by kernel_rfl) (by kernel_rfl) (by kernel_rfl) (by exact fun _ _ _ h => h) (by rfl) (by (intro w hSw; (try dsimp only at hSw); go_simp <;> with_reducible rfl)) (by assumption) ?_; try simp only [Act.put, List.setIfInBounds_toArray, List.set_cons_zero, List.set_cons_succ])
            (refine tkI 28 (by (simp only [List.getElem?_toArray, List.getElem?_cons_succ, List.getElem?_cons_zero]; rfl)) (by kernel_rfl) (by kernel_rfl) (by kernel_rfl) (by exact fun _ _ _ h => h) (by rfl) (by (intro w hSw; (try dsimp only at hSw); go_simp <;> with_reducible rfl)) (by assumption) ?_; try simp only [Act.put, List.setIfInBounds_toArray, List.set_cons_zero, List.set_cons_succ])
            refine wpAnyH_done (by kernel_rfl) ?_ _
            go_wp2
            go_roundw
            case measure => simp [intOf]; omega
            case rel => exact ⟨k + 1, _, _, _, _, _, _, _, by go_num, by omega, by omega, tPz, by omega, tWz, by omega, tSz, by omega, tI.out, tbz⟩
          · have hxn : (x == 0) = false := beq_eq_false_iff_ne.2 hne
            have tP := hP4.mono (G := F) (fun i _ h => hFn _ (by simp; omega) (by simp; omega) i h)
            clear hxE hP4
            obtain ⟨WN, rfl⟩ : ∃ WN, WN = WM := ⟨_, rfl⟩
            have T : ∃ M M1 M2 fN ksN gwN gsN, M ≤ k + 1 ∧ M1 ≤ k + 1 ∧ M2 ≤ k + 1 ∧ PS F WN p b M fN ksN ∧ IM WN m1 M1 gwN ∧ IM WN m2 M2 gsN ∧ BI fN gwN gsN := ⟨N, N1, N2, _, _, _, _, by omega, by omega, by omega, tP, tW, tS, hI.out⟩
            obtain ⟨M, M1, M2, fN, ksN, gwN, gsN, tM, tM1, tM2, tP, tW, tS, tI⟩ := T
            clear hk hI hPa hWa hSa hba eO hila y1 e0 e1 e3
            go_upto_region 23 with fail
            have hpa := parcel_any tP k1 wk1
            have hmyS := MY.of_ (tP.rc k1).s_.may
            have hmyB := MY.of_ (tP.rc k1).b_.may
            have he1 := tI.ew k1 wk1
            have he2 := tI.es k1 wk1
            have hl1 := tI.le1 k1 [97]
            have hl2 := tI.le2 k1 [97]
            obtain ⟨wl, hwl9⟩ : ∃ x, (fN k1).w.l = x := ⟨_, rfl⟩
            obtain ⟨sl, hsl9⟩ : ∃ x, (fN k1).s.l = x := ⟨_, rfl⟩
            obtain ⟨bl, hbl9⟩ : ∃ x, (fN k1).b.l = x := ⟨_, rfl⟩
            obtain ⟨oo, hoo9⟩ : ∃ x, (fN k1).o = x := ⟨_, rfl⟩
            rw [hwl9, hsl9, hbl9, hoo9] at hpa
            rw [hwl9] at he1 hl1
            rw [hsl9] at he2 hl1 hl2 hmyS
            rw [hbl9] at hl2 hmyB
            have hsl16 := hmyS.len
            have hbl16 := hmyB.len
            clear hwl9 hsl9 hbl9 hoo9 hmyS hmyB
            have hlk2 := fun (W : World) (h : IM W m2 M2 gsN) => h.look wk1
            have hlk1 := fun (W : World) (h : IM W m1 M1 gwN) => h.look wk1
            rw [he2] at hlk2
            rw [he1] at hlk1
            clear he1 he2
            replace hlk1 := Lib.hid hlk1
            replace hlk2 := Lib.hid hlk2
            replace tI := Lib.hid tI
            obtain ⟨ob, hob⟩ : ∃ ob, ob = wr.heap.size := ⟨_, rfl⟩
            rw [← hob] at tO ⊢
            replace hob := Lib.hid hob
            have o1 := tO.cell 1
            simp at o1
            generalize decide (k1 ∈ ksN) = I at hpa
            go_wp2_with fail
            refine hpa.mono ?_
            rintro e wq ⟨u, rfl, ⟨A6, c6, A10, c10, A14, c14, rfl, -, os, obk⟩, hxq⟩
            have tPq := tP.below hxq
            have tWq := tW.below hxq
            have tSq := tS.below hxq
            have tbq := tb.trans (hxq.mono tb.size)
            have tOq := tO.kept (Keep.of_below hxq) (Nat.not_le.2 tO.lt)
            clear hpa hxq o1
            go_upto_region 24 with fail
            have hilS := hil_of_form os
            have hilB := hil_of_form obk
            clear os obk
            have xa := (Below.refl wq.heap.size wq).alloc (Nat.le_refl _) (.cells #[.int .i64 oo, .slice A6 wl.length c6, .slice A10 sl.length c10, .slice A14 bl.length c14] 35)
            have zE := Blk.new wq 35 #[.int .i64 oo, .slice A6 wl.length c6, .slice A10 sl.length c10, .slice A14 bl.length c14]
            have tPz := (tPq.below xa).drew
            have tWz := tWq.below (xa.drew)
            have tSz := tSq.below (xa.drew)
            have tbz := (tbq.trans (xa.mono tbq.size)).drew
            have tOz := (tOq.kept (Keep.of_below xa) (Nat.not_le.2 tOq.lt)).drew
            have ilS := (hilS.below xa).drew
            have ilB := (hilB.below xa).drew
            replace zE := zE.drew
            obtain ⟨zb, hzb⟩ : ∃ zb, wq.heap.size = zb := ⟨_, rfl⟩
            rw [hzb] at zE ⊢
            clear hzb xa tPq tWq tSq tbq tOq hilS hilB
            have s1 := tOz.cell 1
            have s2 := zE.cell 2
            have s3 := zE.cell 3
            simp only [List.getElem?_toArray, List.getElem?_cons_succ, List.getElem?_cons_zero] at s1 s2 s3
            have s4 := hlk2.out _ tSz
            have s5 := hlk1.out _ tWz
            obtain ⟨sn, hsn⟩ : ∃ sn, ofL sl [97] = sn := ⟨_, rfl⟩
            obtain ⟨wn, hwn⟩ : ∃ wn, ofL wl [97] = wn := ⟨_, rfl⟩
            obtain ⟨bn, hbn⟩ : ∃ bn, ofL bl [97] = bn := ⟨_, rfl⟩
            have cSh := refof_any A10 sl.length c10 sl [97] _ ilS (by omega)
            have cBk := refof_any A14 bl.length c14 bl [97] _ ilB (by omega)
            rw [hsn] at s4 hl1 hl2 cSh
            rw [hwn] at s5 hl1
            rw [hbn] at hl2 cBk
            have sd : (fun W => W.cell? ⟨ob, 1, none⟩ = some (.int .i64 k1) ∧ W.cell? ⟨zb, 2, none⟩ = some (.slice A10 sl.length c10) ∧ W.cell? ⟨zb, 3, none⟩ = some (.slice A14 bl.length c14) ∧ (Instr.lookup 26 (.map (some m2)) (.int .i64 k1) false).run Try.prog W = .ok (.int .i64 sn) W ∧ (Instr.lookup 26 (.map (some m1)) (.int .i64 k1) false).run Try.prog W = .ok (.int .i64 wn) W) (wq.alloc (.cells #[.int .i64 oo, .slice A6 wl.length c6, .slice A10 sl.length c10, .slice A14 bl.length c14] 35)).drew := ⟨s1, s2, s3, s4, s5⟩
            have hd1 : decide (wn < sn) = false := decide_eq_false (by omega)
            have hd2 : decide (sn < bn) = false := decide_eq_false (by omega)
            have hd3 : (sn == sn) = true := beq_self_eq_true sn
            clear hsn hwn hbn hl1 hl2 s1 s2 s3 s4 s5 hlk1 hlk2 tOz tO tP tW tS tb zE
            refine wp_region_held_drew (S := (fun W => W.cell? ⟨ob, 1, none⟩ = some (.int .i64 k1) ∧ W.cell? ⟨zb, 2, none⟩ = some (.slice A10 sl.length c10) ∧ W.cell? ⟨zb, 3, none⟩ = some (.slice A14 bl.length c14) ∧ (Instr.lookup 26 (.map (some m2)) (.int .i64 k1) false).run Try.prog W = .ok (.int .i64 sn) W ∧ (Instr.lookup 26 (.map (some m1)) (.int .i64 k1) false).run Try.prog W = .ok (.int .i64 wn) W)) (by kernel_rfl) sd (fun hHeld => ?_)
            generalize (wq.alloc (.cells #[.int .i64 oo, .slice A6 wl.length c6, .slice A10 sl.length c10, .slice A14 bl.length c14] 35)).drew = wz at *
            (refine tkI 0 (by (simp only [List.getElem?_toArray, List.getElem?_cons_succ, List.getElem?_cons_zero]; rfl)) (by kernel_rfl) (by kernel_rfl) (by kernel_rfl) (by exact fun _ _ _ h => h) (by rfl) (by (intro w hSw; (try dsimp only at hSw); go_simp <;> with_reducible rfl)) (by assumption) ?_; try simp only [Act.put, List.setIfInBounds_toArray, List.set_cons_zero, List.set_cons_succ])
            (refine tkI 1 (by (simp only [List.getElem?_toArray, List.getElem?_cons_succ, List.getElem?_cons_zero]; rfl)) (by kernel_rfl) (by kernel_rfl) (by kernel_rfl) (by exact fun _ _ _ h => h) (by rfl) (by (intro w hSw; (try dsimp only at hSw); go_simp <;> with_reducible rfl)) (by assumption) ?_; try simp only [Act.put, List.setIfInBounds_toArray, List.set_cons_zero, List.set_cons_succ])
            (refine tkI 2 (by (simp only [List.getElem?_toArray, List.getElem?_cons_succ, List.getElem?_cons_zero]; rfl)) (by kernel_rfl) (by kernel_rfl) (by kernel_rfl) (by exact fun _ _ _ h => h) (by rfl) (by (intro w hSw; (try dsimp only at hSw); go_simp <;> with_reducible rfl)) (by assumption) ?_; try simp only [Act.put, List.setIfInBounds_toArray, List.set_cons_zero, List.set_cons_succ])
            (refine tkI 3 (by (simp only [List.getElem?_toArray, List.getElem?_cons_succ, List.getElem?_cons_zero]; rfl)) (by kernel_rfl) (by kernel_rfl) (by kernel_rfl) (by exact fun _ _ _ h => h) (by rfl) (by (intro w hSw; (try dsimp only at hSw); go_simp <;> with_reducible rfl)) (by assumption) ?_; try simp only [Act.put, List.setIfInBounds_toArray, List.set_cons_zero, List.set_cons_succ])
            (refine tkI 4 (by (simp only [List.getElem?_toArray, List.getElem?_cons_succ, List.getElem?_cons_zero]; rfl)) (by kernel_rfl) (by kernel_rfl) (by kernel_rfl) (by exact fun _ _ _ h => h) (by rfl) (by (intro w hSw; (try dsimp only at hSw); go_simp <;> with_reducible rfl)) (by assumption) ?_; try simp only [Act.put, List.setIfInBounds_toArray, List.set_cons_zero, List.set_cons_succ])
            (refine tkI 5 (by (simp only [List.getElem?_toArray, List.getElem?_cons_succ, List.getElem?_cons_zero]; rfl)) (by kernel_rfl) (by kernel_rfl) (by kernel_rfl) (by exact fun _ _ _ h => h) (by rfl) (by (intro w hSw; (try dsimp only at hSw); go_simp <;> with_reducible rfl)) (by assumption) ?_; try simp only [Act.put, List.setIfInBounds_toArray, List.set_cons_zero, List.set_cons_succ])
            (refine tkI 6 (by (simp only [List.getElem?_toArray, List.getElem?_cons_succ, List.getElem?_cons_zero]; rfl)) (by kernel_rfl) (by kernel_rfl) (by kernel_rfl) (by exact fun _ _ _ h => h) (by rfl) (by (intro w hSw; (try dsimp only at hSw); go_simp <;> with_reducible rfl)) (by assumption) ?_; try simp only [Act.put, List.setIfInBounds_toArray, List.set_cons_zero, List.set_cons_succ])
            (refine tkI 7 (by (simp only [List.getElem?_toArray, List.getElem?_cons_succ, List.getElem?_cons_zero]; rfl)) (by kernel_rfl) (by kernel_rfl) (by kernel_rfl) (by exact fun _ _ _ h => h) (by rfl) (by (intro w hSw; (try dsimp only at hSw); go_simp <;> with_reducible rfl)) (by assumption) ?_; try simp only [Act.put, List.setIfInBounds_toArray, List.set_cons_zero, List.set_cons_succ])
            (refine tkI 8 (by (simp only [List.getElem?_toArray, List.getElem?_cons_succ, List.getElem?_cons_zero]; rfl)) (by kernel_rfl) (by kernel_rfl) (by kernel_rfl) (by exact fun _ _ _ h => h) (by rfl) (by (intro w hSw; (try dsimp only at hSw); go_simp <;> with_reducible rfl)) (by assumption) ?_; try simp only [Act.put, List.setIfInBounds_toArray, List.set_cons_zero, List.set_cons_succ])
            (refine tkI 9 (by (simp only [List.getElem?_toArray, List.getElem?_cons_succ, List.getElem?_cons_zero]; rfl)) (by kernel_rfl) (by kernel_rfl) (by kernel_rfl) (by exact fun _ _ _ h => h) (by rfl) (by (intro w hSw; (try dsimp only at hSw); go_simp <;> with_reducible rfl)) (by assumption) ?_; try simp only [Act.put, List.setIfInBounds_toArray, List.set_cons_zero, List.set_cons_succ])
            (refine tkI 10 (by (simp only [List.getElem?_toArray, List.getElem?_cons_succ, List.getElem?_cons_zero]; rfl)) (by kernel_rfl) (by kernel_rfl) (by kernel_rfl) (by exact fun _ _ _ h => h) (by rfl) (by (intro w hSw; (try dsimp only at hSw); go_simp <;> with_reducible rfl)) (by assumption) ?_; try simp only [Act.put, List.setIfInBounds_toArray, List.set_cons_zero, List.set_cons_succ])
            (refine tkI 11 (by (simp only [List.getElem?_toArray, List.getElem?_cons_succ, List.getElem?_cons_zero]; rfl)) (by kernel_rfl) (by kernel_rfl) (by kernel_rfl) (by exact fun _ _ _ h => h) (by rfl) (by (intro w hSw; (try dsimp only at hSw); go_simp <;> with_reducible rfl)) (by assumption) ?_; try simp only [Act.put, List.setIfInBounds_toArray, List.set_cons_zero, List.set_cons_succ])
            (refine tkI 13 (by (simp only [List.getElem?_toArray, List.getElem?_cons_succ, List.getElem?_cons_zero]; rfl)) (by kernel_rfl) (by kernel_rfl) (by kernel_rfl) (by exact fun _ _ _ h => h) (by rfl) (by (intro w hSw; (try dsimp only at hSw); go_simp <;> with_reducible rfl)) (by assumption) ?_; try simp only [Act.put, List.setIfInBounds_toArray, List.set_cons_zero, List.set_cons_succ])
            (refine tkI 14 (by (simp only [List.getElem?_toArray, List.getElem?_cons_succ, List.getElem?_cons_zero]; rfl)) (by kernel_rfl) (by kernel_rfl) (by kernel_rfl) (by exact fun _ _ _ h => h) (by rfl) (by (intro w hSw; (try dsimp only at hSw); go_simp <;> with_reducible rfl)) (by assumption) ?_; try simp only [Act.put, List.setIfInBounds_toArray, List.set_cons_zero, List.set_cons_succ])
            (refine tkI 15 (by (simp only [List.getElem?_toArray, List.getElem?_cons_succ, List.getElem?_cons_zero]; rfl)) (by kernel_rfl) (by kernel_rfl) (by kernel_rfl) (by exact fun _ _ _ h => h) (by rfl) (by (intro w hSw; (try dsimp only at hSw); go_simp <;> with_reducible rfl)) (by assumption) ?_; try simp only [Act.put, List.setIfInBounds_toArray, List.set_cons_zero, List.set_cons_succ])
            (refine tkI 16 (by (simp only [List.getElem?_toArray, List.getElem?_cons_succ, List.getElem?_cons_zero]; rfl)) (by kernel_rfl) (by kernel_rfl) (by kernel_rfl) (by exact fun _ _ _ h => h) (by rfl) (by (intro w hSw; (try dsimp only at hSw); go_simp <;> with_reducible rfl)) (by assumption) ?_; try simp only [Act.put, List.setIfInBounds_toArray, List.set_cons_zero, List.set_cons_succ])
            refine wpAnyH_ready (rs := [12]) (by kernel_rfl) (by simp) ?_
            refine AllReadyH.cons (by (simp only [List.getElem?_toArray, List.getElem?_cons_succ, List.getElem?_cons_zero]; rfl)) (fun K hK => ?_) AllReadyH.nil
            go_simp
            refine (cSh).mono ?_
            rintro e w' ⟨rfl, hww⟩
            subst w'
            refine hK.out _ _ sd (fun hHeld2 => ?_)
            clear hK K hHeld
            have hHeld := hHeld2
            clear hHeld2
            try simp only [Act.put, List.setIfInBounds_toArray, List.set_cons_zero, List.set_cons_succ]
            (refine tkI 17 (by (simp only [List.getElem?_toArray, List.getElem?_cons_succ, List.getElem?_cons_zero]; rfl)) (by kernel_rfl) (by kernel_rfl) (by kernel_rfl) (by exact fun _ _ _ h => h) (by rfl) (by (intro w hSw; (try dsimp only at hSw); go_simp <;> with_reducible rfl)) (by assumption) ?_; try simp only [Act.put, List.setIfInBounds_toArray, List.set_cons_zero, List.set_cons_succ])
            (refine tkI 18 (by (simp only [List.getElem?_toArray, List.getElem?_cons_succ, List.getElem?_cons_zero]; rfl)) (by kernel_rfl) (by kernel_rfl) (by kernel_rfl) (by exact fun _ _ _ h => h) (by rfl) (by (intro w hSw; (try dsimp only at hSw); go_simp <;> with_reducible rfl)) (by assumption) ?_; try simp only [Act.put, List.setIfInBounds_toArray, List.set_cons_zero, List.set_cons_succ])
            (refine tkI 19 (by (simp only [List.getElem?_toArray, List.getElem?_cons_succ, List.getElem?_cons_zero]; rfl)) (by kernel_rfl) (by kernel_rfl) (by kernel_rfl) (by exact fun _ _ _ h => h) (by rfl) (by (intro w hSw; (try dsimp only at hSw); go_simp <;> with_reducible rfl)) (by assumption) ?_; try simp only [Act.put, List.setIfInBounds_toArray, List.set_cons_zero, List.set_cons_succ])
            (refine tkI 20 (by (simp only [List.getElem?_toArray, List.getElem?_cons_succ, List.getElem?_cons_zero]; rfl)) (by kernel_rfl) (by kernel_rfl) (by kernel_rfl) (by exact fun _ _ _ h => h) (by rfl) (by (intro w hSw; (try dsimp only at hSw); go_simp <;> with_reducible rfl)) (by assumption) ?_; try simp only [Act.put, List.setIfInBounds_toArray, List.set_cons_zero, List.set_cons_succ])
            (refine tkI 21 (by (simp only [List.getElem?_toArray, List.getElem?_cons_succ, List.getElem?_cons_zero]; rfl)) (by kernel_rfl) (by kernel_rfl) (by kernel_rfl) (by exact fun _ _ _ h => h) (by rfl) (by (intro w hSw; (try dsimp only at hSw); go_simp <;> with_reducible rfl)) (by assumption) ?_; try simp only [Act.put, List.setIfInBounds_toArray, List.set_cons_zero, List.set_cons_succ])
            (refine tkI 23 (by (simp only [List.getElem?_toArray, List.getElem?_cons_succ, List.getElem?_cons_zero]; rfl)) (by kernel_rfl) (by kernel_rfl) (by kernel_rfl) (by exact fun _ _ _ h => h) (by rfl) (by (intro w hSw; (try dsimp only at hSw); go_simp <;> with_reducible rfl)) (by assumption) ?_; try simp only [Act.put, List.setIfInBounds_toArray, List.set_cons_zero, List.set_cons_succ])
            (refine tkI 24 (by (simp only [List.getElem?_toArray, List.getElem?_cons_succ, List.getElem?_cons_zero]; rfl)) (by kernel_rfl) (by kernel_rfl) (by kernel_rfl) (by exact fun _ _ _ h => h) (by rfl) (by (intro w hSw; (try dsimp only at hSw); go_simp <;> with_reducible rfl)) (by assumption) ?_; try simp only [Act.put, List.setIfInBounds_toArray, List.set_cons_zero, List.set_cons_succ])
            (refine tkI 25 (by (simp only [List.getElem?_toArray, List.getElem?_cons_succ, List.getElem?_cons_zero]; rfl)) (by kernel_rfl) (by kernel_rfl) (by kernel_rfl) (by exact fun _ _ _ h => h) (by rfl) (by (intro w hSw; (try dsimp only at hSw); go_simp <;> with_reducible rfl)) (by assumption) ?_; try simp only [Act.put, List.setIfInBounds_toArray, List.set_cons_zero, List.set_cons_succ])
            (refine tkI 26 (by (simp only [List.getElem?_toArray, List.getElem?_cons_succ, List.getElem?_cons_zero]; rfl)) (by kernel_rfl) (by kernel_rfl) (by kernel_rfl) (by exact fun _ _ _ h => h) (by rfl) (by (intro w hSw; (try dsimp only at hSw); go_simp <;> with_reducible rfl)) (by assumption) ?_; try simp only [Act.put, List.setIfInBounds_toArray, List.set_cons_zero, List.set_cons_succ])
            refine wpAnyH_ready (rs := [22]) (by kernel_rfl) (by simp) ?_
            refine AllReadyH.cons (by (simp only [List.getElem?_toArray, List.getElem?_cons_succ, List.getElem?_cons_zero]; rfl)) (fun K hK => ?_) AllReadyH.nil
            go_simp
            refine (cBk).mono ?_
            rintro e w' ⟨rfl, hww⟩
            subst w'
            refine hK.out _ _ sd (fun hHeld2 => ?_)
            clear hK K hHeld
            have hHeld := hHeld2
            clear hHeld2
            try simp only [Act.put, List.setIfInBounds_toArray, List.set_cons_zero, List.set_cons_succ]
            (refine tkI 27 (by (simp only [List.getElem?_toArray, List.getElem?_cons_succ, List.getElem?_cons_zero]; rfl)) (by kernel_rfl) (by kernel_rfl) (by kernel_rfl) (by exact fun _ _ _ h => h) (by rfl) (by (intro w hSw; (try dsimp only at hSw); go_simp <;> with_reducible rfl)) (by assumption) ?_; try simp only [Act.put, List.setIfInBounds_toArray, List.set_cons_zero, List.set_cons_succ])
            (refine tkI 28 (by (simp only [List.getElem?_toArray, List.getElem?_cons_succ, List.getElem?_cons_zero]; rfl)) (by kernel_rfl) (by kernel_rfl) (by kernel_rfl) (by exact fun _ _ _ h => h) (by rfl) (by (intro w hSw; (try dsimp only at hSw); go_simp <;> with_reducible rfl)) (by assumption) ?_; try simp only [Act.put, List.setIfInBounds_toArray, List.set_cons_zero, List.set_cons_succ])
            refine wpAnyH_done (by kernel_rfl) ?_ _
            go_wp2
            go_roundw
            case measure => simp [intOf]; omega
            case rel => exact ⟨k + 1, _, _, _, _, _, _, _, by go_num, by omega, by omega, tPz, by omega, tWz, by omega, tSz, by omega, tI.out, tbz⟩

        have hk2' : (k0 == 2) = false := beq_eq_false_iff_ne.2 h2
        by_cases h3 : k0 = 3
        · skip
          subst h3
          go_wp2_with fail
          refine (refof_any A l.length c l [97] _ hila (by omega)).mono ?_
          rw [hnn]
          rintro e w' ⟨rfl, hww⟩
          subst w'
          have key := back_all hPa hNm k1 wk1 A c l hila hwl (by omega)
          go_wp2_with fail
          refine key.mono ?_
          rintro e WN ⟨x, rfl, hxE, hk, hP4⟩
          have tW := hWa.kept hk (fun e => hb1 e.symm)
          have tS := hSa.kept hk (fun e => hb2' e.symm)
          have tO := eO.kept hk (fun e => by omega)
          have tb := hba.trans (hk.below (B := w.heap.size) (Nat.le_trans hbw2.size (by simp)) (fun i hi e => by omega))
          clear key hxE
          have T : ∃ M M1 M2 fN ksN gwN gsN, M ≤ k + 1 ∧ M1 ≤ k + 1 ∧ M2 ≤ k + 1 ∧ PS F WN p b M fN ksN ∧ IM WN m1 M1 gwN ∧ IM WN m2 M2 gsN ∧ BI fN gwN gsN := by
            rcases hP4 with ⟨_, q1, q2, q3, bl, hbl, hP4⟩ | ⟨hne, hP4⟩
            · have hrc := hPa.rc k1
              exact ⟨N + 1, N1, N2, _, _, _, _, by omega, by omega, by omega, hP4.mono (G := F) (fun i _ h => hFn _ (by simp; omega) (by simp; omega) i h), tW, tS, hI.out.backed bl (fun g => by rw [hbl]; exact (covers_le (MY.of_ hrc.s_.may) (plus_ok (MY.of_ hrc.b_.may) (MY.of_ q2) q3.1).1).1 q3.2 g)⟩
            · exact ⟨N, N1, N2, _, _, _, _, by omega, by omega, by omega, hP4.mono (G := F) (fun i _ h => hFn _ (by simp; omega) (by simp; omega) i h), tW, tS, hI.out⟩
          clear tW tS
          obtain ⟨M, M1, M2, fN, ksN, gwN, gsN, tM, tM1, tM2, tP, tW, tS, tI⟩ := T
          clear hP4 hk hI hPa hWa hSa hba eO hila e0 e1 e3
          go_upto_region 23 with fail
          have hpa := parcel_any tP k1 wk1
          have hmyS := MY.of_ (tP.rc k1).s_.may
          have hmyB := MY.of_ (tP.rc k1).b_.may
          have he1 := tI.ew k1 wk1
          have he2 := tI.es k1 wk1
          have hl1 := tI.le1 k1 [97]
          have hl2 := tI.le2 k1 [97]
          obtain ⟨wl, hwl9⟩ : ∃ x, (fN k1).w.l = x := ⟨_, rfl⟩
          obtain ⟨sl, hsl9⟩ : ∃ x, (fN k1).s.l = x := ⟨_, rfl⟩
          obtain ⟨bl, hbl9⟩ : ∃ x, (fN k1).b.l = x := ⟨_, rfl⟩
          obtain ⟨oo, hoo9⟩ : ∃ x, (fN k1).o = x := ⟨_, rfl⟩
          rw [hwl9, hsl9, hbl9, hoo9] at hpa
          rw [hwl9] at he1 hl1
          rw [hsl9] at he2 hl1 hl2 hmyS
          rw [hbl9] at hl2 hmyB
          have hsl16 := hmyS.len
          have hbl16 := hmyB.len
          clear hwl9 hsl9 hbl9 hoo9 hmyS hmyB
          have hlk2 := fun (W : World) (h : IM W m2 M2 gsN) => h.look wk1
          have hlk1 := fun (W : World) (h : IM W m1 M1 gwN) => h.look wk1
          rw [he2] at hlk2
          rw [he1] at hlk1
          clear he1 he2
          replace hlk1 := Lib.hid hlk1
          replace hlk2 := Lib.hid hlk2
          replace tI := Lib.hid tI
          obtain ⟨ob, hob⟩ : ∃ ob, ob = wr.heap.size := ⟨_, rfl⟩
          rw [← hob] at tO ⊢
          replace hob := Lib.hid hob
          have o1 := tO.cell 1
          simp at o1
          generalize decide (k1 ∈ ksN) = I at hpa
          go_wp2_with fail
          refine hpa.mono ?_
          rintro e wq ⟨u, rfl, ⟨A6, c6, A10, c10, A14, c14, rfl, -, os, obk⟩, hxq⟩
          have tPq := tP.below hxq
          have tWq := tW.below hxq
          have tSq := tS.below hxq
          have tbq := tb.trans (hxq.mono tb.size)
          have tOq := tO.kept (Keep.of_below hxq) (Nat.not_le.2 tO.lt)
          clear hpa hxq o1
          go_upto_region 24 with fail
          have hilS := hil_of_form os
          have hilB := hil_of_form obk
          clear os obk
          have xa := (Below.refl wq.heap.size wq).alloc (Nat.le_refl _) (.cells #[.int .i64 oo, .slice A6 wl.length c6, .slice A10 sl.length c10, .slice A14 bl.length c14] 35)
          have zE := Blk.new wq 35 #[.int .i64 oo, .slice A6 wl.length c6, .slice A10 sl.length c10, .slice A14 bl.length c14]
          have tPz := (tPq.below xa).drew
          have tWz := tWq.below (xa.drew)
          have tSz := tSq.below (xa.drew)
          have tbz := (tbq.trans (xa.mono tbq.size)).drew
          have tOz := (tOq.kept (Keep.of_below xa) (Nat.not_le.2 tOq.lt)).drew
          have ilS := (hilS.below xa).drew
          have ilB := (hilB.below xa).drew
          replace zE := zE.drew
          obtain ⟨zb, hzb⟩ : ∃ zb, wq.heap.size = zb := ⟨_, rfl⟩
          rw [hzb] at zE ⊢
          clear hzb xa tPq tWq tSq tbq tOq hilS hilB
          have s1 := tOz.cell 1
          have s2 := zE.cell 2
          have s3 := zE.cell 3
          simp only [List.getElem?_toArray, List.getElem?_cons_succ, List.getElem?_cons_zero] at s1 s2 s3
          have s4 := hlk2.out _ tSz
          have s5 := hlk1.out _ tWz
          obtain ⟨sn, hsn⟩ : ∃ sn, ofL sl [97] = sn := ⟨_, rfl⟩
          obtain ⟨wn, hwn⟩ : ∃ wn, ofL wl [97] = wn := ⟨_, rfl⟩
          obtain ⟨bn, hbn⟩ : ∃ bn, ofL bl [97] = bn := ⟨_, rfl⟩
          have cSh := refof_any A10 sl.length c10 sl [97] _ ilS (by omega)
          have cBk := refof_any A14 bl.length c14 bl [97] _ ilB (by omega)
          rw [hsn] at s4 hl1 hl2 cSh
          rw [hwn] at s5 hl1
          rw [hbn] at hl2 cBk
          have sd : (fun W => W.cell? ⟨ob, 1, none⟩ = some (.int .i64 k1) ∧ W.cell? ⟨zb, 2, none⟩ = some (.slice A10 sl.length c10) ∧ W.cell? ⟨zb, 3, none⟩ = some (.slice A14 bl.length c14) ∧ (Instr.lookup 26 (.map (some m2)) (.int .i64 k1) false).run Try.prog W = .ok (.int .i64 sn) W ∧ (Instr.lookup 26 (.map (some m1)) (.int .i64 k1) false).run Try.prog W = .ok (.int .i64 wn) W) (wq.alloc (.cells #[.int .i64 oo, .slice A6 wl.length c6, .slice A10 sl.length c10, .slice A14 bl.length c14] 35)).drew := ⟨s1, s2, s3, s4, s5⟩
          have hd1 : decide (wn < sn) = false := decide_eq_false (by omega)
          have hd2 : decide (sn < bn) = false := decide_eq_false (by omega)
          have hd3 : (sn == sn) = true := beq_self_eq_true sn
          clear hsn hwn hbn hl1 hl2 s1 s2 s3 s4 s5 hlk1 hlk2 tOz tO tP tW tS tb zE
          refine wp_region_held_drew (S := (fun W => W.cell? ⟨ob, 1, none⟩ = some (.int .i64 k1) ∧ W.cell? ⟨zb, 2, none⟩ = some (.slice A10 sl.length c10) ∧ W.cell? ⟨zb, 3, none⟩ = some (.slice A14 bl.length c14) ∧ (Instr.lookup 26 (.map (some m2)) (.int .i64 k1) false).run Try.prog W = .ok (.int .i64 sn) W ∧ (Instr.lookup 26 (.map (some m1)) (.int .i64 k1) false).run Try.prog W = .ok (.int .i64 wn) W)) (by kernel_rfl) sd (fun hHeld => ?_)
          generalize (wq.alloc (.cells #[.int .i64 oo, .slice A6 wl.length c6, .slice A10 sl.length c10, .slice A14 bl.length c14] 35)).drew = wz at *
          (refine tkI 0 (by (simp only [List.getElem?_toArray, List.getElem?_cons_succ, List.getElem?_cons_zero]; rfl)) (by kernel_rfl) (by kernel_rfl) (by kernel_rfl) (by exact fun _ _ _ h => h) (by rfl) (by (intro w hSw; (try dsimp only at hSw); go_simp <;> with_reducible rfl)) (by assumption) ?_; try simp only [Act.put, List.setIfInBounds_toArray, List.set_cons_zero, List.set_cons_succ])
          (refine tkI 1 (by (simp only [List.getElem?_toArray, List.getElem?_cons_succ, List.getElem?_cons_zero]; rfl)) (by kernel_rfl) (by kernel_rfl) (by kernel_rfl) (by exact fun _ _ _ h => h) (by rfl) (by (intro w hSw; (try dsimp only at hSw); go_simp <;> with_reducible rfl)) (by assumption) ?_; try simp only [Act.put, List.setIfInBounds_toArray, List.set_cons_zero, List.set_cons_succ])
          (refine tkI 2 (by (simp only [List.getElem?_toArray, List.getElem?_cons_succ, List.getElem?_cons_zero]; rfl)) (by kernel_rfl) (by kernel_rfl) (by kernel_rfl) (by exact fun _ _ _ h => h) (by rfl) (by (intro w hSw; (try dsimp only at hSw); go_simp <;> with_reducible rfl)) (by assumption) ?_; try simp only [Act.put, List.setIfInBounds_toArray, List.set_cons_zero, List.set_cons_succ])
          (refine tkI 3 (by (simp only [List.getElem?_toArray, List.getElem?_cons_succ, List.getElem?_cons_zero]; rfl)) (by kernel_rfl) (by kernel_rfl) (by kernel_rfl) (by exact fun _ _ _ h => h) (by rfl) (by (intro w hSw; (try dsimp only at hSw); go_simp <;> with_reducible rfl)) (by assumption) ?_; try simp only [Act.put, List.setIfInBounds_toArray, List.set_cons_zero, List.set_cons_succ])
          (refine tkI 4 (by (simp only [List.getElem?_toArray, List.getElem?_cons_succ, List.getElem?_cons_zero]; rfl)) (by kernel_rfl) (by kernel_rfl) (by kernel_rfl) (by exact fun _ _ _ h => h) (by rfl) (by (intro w hSw; (try dsimp only at hSw); go_simp <;> with_reducible rfl)) (by assumption) ?_; try simp only [Act.put, List.setIfInBounds_toArray, List.set_cons_zero, List.set_cons_succ])
          (refine tkI 5 (by (simp only [List.getElem?_toArray, List.getElem?_cons_succ, List.getElem?_cons_zero]; rfl)) (by kernel_rfl) (by kernel_rfl) (by kernel_rfl) (by exact fun _ _ _ h => h) (by rfl) (by (intro w hSw; (try dsimp only at hSw); go_simp <;> with_reducible rfl)) (by assumption) ?_; try simp only [Act.put, List.setIfInBounds_toArray, List.set_cons_zero, List.set_cons_succ])
          (refine tkI 6 (by (simp only [List.getElem?_toArray, List.getElem?_cons_succ, List.getElem?_cons_zero]; rfl)) (by kernel_rfl) (by kernel_rfl) (by kernel_rfl) (by exact fun _ _ _ h => h) (by rfl) (by (intro w hSw; (try dsimp only at hSw); go_simp <;> with_reducible rfl)) (by assumption) ?_; try simp only [Act.put, List.setIfInBounds_toArray, List.set_cons_zero, List.set_cons_succ])
          (refine tkI 7 (by (simp only [List.getElem?_toArray, List.getElem?_cons_succ, List.getElem?_cons_zero]; rfl)) (by kernel_rfl) (by kernel_rfl) (by kernel_rfl) (by exact fun _ _ _ h => h) (by rfl) (by (intro w hSw; (try dsimp only at hSw); go_simp <;> with_reducible rfl)) (by assumption) ?_; try simp only [Act.put, List.setIfInBounds_toArray, List.set_cons_zero, List.set_cons_succ])
          (refine tkI 8 (by (simp only [List.getElem?_toArray, List.getElem?_cons_succ, List.getElem?_cons_zero]; rfl)) (by kernel_rfl) (by kernel_rfl) (by kernel_rfl) (by exact fun _ _ _ h => h) (by rfl) (by (intro w hSw; (try dsimp only at hSw); go_simp <;> with_reducible rfl)) (by assumption) ?_; try simp only [Act.put, List.setIfInBounds_toArray, List.set_cons_zero, List.set_cons_succ])
          (refine tkI 9 (by (simp only [List.getElem?_toArray, List.getElem?_cons_succ, List.getElem?_cons_zero]; rfl)) (by kernel_rfl) (by kernel_rfl) (by kernel_rfl) (by exact fun _ _ _ h => h) (by rfl) (by (intro w hSw; (try dsimp only at hSw); go_simp <;> with_reducible rfl)) (by assumption) ?_; try simp only [Act.put, List.setIfInBounds_toArray, List.set_cons_zero, List.set_cons_succ])
          (refine tkI 10 (by (simp only [List.getElem?_toArray, List.getElem?_cons_succ, List.getElem?_cons_zero]; rfl)) (by kernel_rfl) (by kernel_rfl) (by kernel_rfl) (by exact fun _ _ _ h => h) (by rfl) (by (intro w hSw; (try dsimp only at hSw); go_simp <;> with_reducible rfl)) (by assumption) ?_; try simp only [Act.put, List.setIfInBounds_toArray, List.set_cons_zero, List.set_cons_succ])
          (refine tkI 11 (by (simp only [List.getElem?_toArray, List.getElem?_cons_succ, List.getElem?_cons_zero]; rfl)) (by kernel_rfl) (by kernel_rfl) (by kernel_rfl) (by exact fun _ _ _ h => h) (by rfl) (by (intro w hSw; (try dsimp only at hSw); go_simp <;> with_reducible rfl)) (by assumption) ?_; try simp only [Act.put, List.setIfInBounds_toArray, List.set_cons_zero, List.set_cons_succ])
          (refine tkI 13 (by (simp only [List.getElem?_toArray, List.getElem?_cons_succ, List.getElem?_cons_zero]; rfl)) (by kernel_rfl) (by kernel_rfl) (by kernel_rfl) (by exact fun _ _ _ h => h) (by rfl) (by (intro w hSw; (try dsimp only at hSw); go_simp <;> with_reducible rfl)) (by assumption) ?_; try simp only [Act.put, List.setIfInBounds_toArray, List.set_cons_zero, List.set_cons_succ])
          (refine tkI 14 (by (simp only [List.getElem?_toArray, List.getElem?_cons_succ, List.getElem?_cons_zero]; rfl)) (by kernel_rfl) (by kernel_rfl) (by kernel_rfl) (by exact fun _ _ _ h => h) (by rfl) (by (intro w hSw; (try dsimp only at hSw); go_simp <;> with_reducible rfl)) (by assumption) ?_; try simp only [Act.put, List.setIfInBounds_toArray, List.set_cons_zero, List.set_cons_succ])
          (refine tkI 15 (by (simp only [List.getElem?_toArray, List.getElem?_cons_succ, List.getElem?_cons_zero]; rfl)) (by kernel_rfl) (by kernel_rfl) (by kernel_rfl) (by exact fun _ _ _ h => h) (by rfl) (by (intro w hSw; (try dsimp only at hSw); go_simp <;> with_reducible rfl)) (by assumption) ?_; try simp only [Act.put, List.setIfInBounds_toArray, List.set_cons_zero, List.set_cons_succ])
          (refine tkI 16 (by (simp only [List.getElem?_toArray, List.getElem?_cons_succ, List.getElem?_cons_zero]; rfl)) (by kernel_rfl) (by kernel_rfl) (by kernel_rfl) (by exact fun _ _ _ h => h) (by rfl) (by (intro w hSw; (try dsimp only at hSw); go_simp <;> with_reducible rfl)) (by assumption) ?_; try simp only [Act.put, List.setIfInBounds_toArray, List.set_cons_zero, List.set_cons_succ])
          refine wpAnyH_ready (rs := [12]) (by kernel_rfl) (by simp) ?_
          refine AllReadyH.cons (by (simp only [List.getElem?_toArray, List.getElem?_cons_succ, List.getElem?_cons_zero]; rfl)) (fun K hK => ?_) AllReadyH.nil
          go_simp
          refine (cSh).mono ?_
          rintro e w' ⟨rfl, hww⟩
          subst w'
          refine hK.out _ _ sd (fun hHeld2 => ?_)
          clear hK K hHeld
          have hHeld := hHeld2
          clear hHeld2
          try simp only [Act.put, List.setIfInBounds_toArray, List.set_cons_zero, List.set_cons_succ]
          (refine tkI 17 (by (simp only [List.getElem?_toArray, List.getElem?_cons_succ, List.getElem?_cons_zero]; rfl)) (by kernel_rfl) (by kernel_rfl) (by kernel_rfl) (by exact fun _ _ _ h => h) (by rfl) (by (intro w hSw; (try dsimp only at hSw); go_simp <;> with_reducible rfl)) (by assumption) ?_; try simp only [Act.put, List.setIfInBounds_toArray, List.set_cons_zero, List.set_cons_succ])
          (refine tkI 18 (by (simp only [List.getElem?_toArray, List.getElem?_cons_succ, List.getElem?_cons_zero]; rfl)) (by kernel_rfl) (by kernel_rfl) (by kernel_rfl) (by exact fun _ _ _ h => h) (by rfl) (by (intro w hSw; (try dsimp only at hSw); go_simp <;> with_reducible rfl)) (by assumption) ?_; try simp only [Act.put, List.setIfInBounds_toArray, List.set_cons_zero, List.set_cons_succ])
          (refine tkI 19 (by (simp only [List.getElem?_toArray, List.getElem?_cons_succ, List.getElem?_cons_zero]; rfl)) (by kernel_rfl) (by kernel_rfl) (by kernel_rfl) (by exact fun _ _ _ h => h) (by rfl) (by (intro w hSw; (try dsimp only at hSw); go_simp <;> with_reducible rfl)) (by assumption) ?_; try simp only [Act.put, List.setIfInBounds_toArray, List.set_cons_zero, List.set_cons_succ])
          (refine tkI 20 (by (simp only [List.getElem?_toArray, List.getElem?_cons_succ, List.getElem?_cons_zero]; rfl)) (by kernel_rfl) (by kernel_rfl) (by kernel_rfl) (by exact fun _ _ _ h => h) (by rfl) (by (intro w hSw; (try dsimp only at hSw); go_simp <;> with_reducible rfl)) (by assumption) ?_; try simp only [Act.put, List.setIfInBounds_toArray, List.set_cons_zero, List.set_cons_succ])
          (refine tkI 21 (by (simp only [List.getElem?_toArray, List.getElem?_cons_succ, List.getElem?_cons_zero]; rfl)) (by kernel_rfl) (by kernel_rfl) (by kernel_rfl) (by exact fun _ _ _ h => h) (by rfl) (by (intro w hSw; (try dsimp only at hSw); go_simp <;> with_reducible rfl)) (by assumption) ?_; try simp only [Act.put, List.setIfInBounds_toArray, List.set_cons_zero, List.set_cons_succ])
          (refine tkI 23 (by (simp only [List.getElem?_toArray, List.getElem?_cons_succ, List.getElem?_cons_zero]; rfl)) (by kernel_rfl) (by kernel_rfl) (by kernel_rfl) (by exact fun _ _ _ h => h) (by rfl) (by (intro w hSw; (try dsimp only at hSw); go_simp <;> with_reducible rfl)) (by assumption) ?_; try simp only [Act.put, List.setIfInBounds_toArray, List.set_cons_zero, List.set_cons_succ])
          (refine tkI 24 (by (simp only [List.getElem?_toArray, List.getElem?_cons_succ, List.getElem?_cons_zero]; rfl)) (by kernel_rfl) (by kernel_rfl) (by kernel_rfl) (by exact fun _ _ _ h => h) (by rfl) (by (intro w hSw; (try dsimp only at hSw); go_simp <;> with_reducible rfl)) (by assumption) ?_; try simp only [Act.put, List.setIfInBounds_toArray, List.set_cons_zero, List.set_cons_succ])
          (refine tkI 25 (by (simp only [List.getElem?_toArray, List.getElem?_cons_succ, List.getElem?_cons_zero]; rfl)) (by kernel_rfl) (by kernel_rfl) (by kernel_rfl) (by exact fun _ _ _ h => h) (by rfl) (by (intro w hSw; (try dsimp only at hSw); go_simp <;> with_reducible rfl)) (by assumption) ?_; try simp only [Act.put, List.setIfInBounds_toArray, List.set_cons_zero, List.set_cons_succ])
          (refine tkI 26 (by (simp only [List.getElem?_toArray, List.getElem?_cons_succ, List.getElem?_cons_zero]; rfl)) (by kernel_rfl) (by kernel_rfl) (by kernel_rfl) (by exact fun _ _ _ h => h) (by rfl) (by (intro w hSw; (try dsimp only at hSw); go_simp <;> with_reducible rfl)) (by assumption) ?_; try simp only [Act.put, List.setIfInBounds_toArray, List.set_cons_zero, List.set_cons_succ])
          refine wpAnyH_ready (rs := [22]) (by kernel_rfl) (by simp) ?_
          refine AllReadyH.cons (by (simp only [List.getElem?_toArray, List.getElem?_cons_succ, List.getElem?_cons_zero]; rfl)) (fun K hK => ?_) AllReadyH.nil
          go_simp
          refine (cBk).mono ?_
          rintro e w' ⟨rfl, hww⟩
          subst w'
          refine hK.out _ _ sd (fun hHeld2 => ?_)
          clear hK K hHeld
          have hHeld := hHeld2
          clear hHeld2
          try simp only [Act.put, List.setIfInBounds_toArray, List.set_cons_zero, List.set_cons_succ]
          (refine tkI 27 (by (simp only [List.getElem?_toArray, List.getElem?_cons_succ, List.getElem?_cons_zero]; rfl)) (by kernel_rfl) (by kernel_rfl) (by kernel_rfl) (by exact fun _ _ _ h => h) (by rfl) (by (intro w hSw; (try dsimp only at hSw); go_simp <;> with_reducible rfl)) (by assumption) ?_; try simp only [Act.put, List.setIfInBounds_toArray, List.set_cons_zero, List.set_cons_succ])
          (refine tkI 28 (by (simp only [List.getElem?_toArray, List.getElem?_cons_succ, List.getElem?_cons_zero]; rfl)) (by kernel_rfl) (by kernel_rfl) (by kernel_rfl) (by exact fun _ _ _ h => h) (by rfl) (by (intro w hSw; (try dsimp only at hSw); go_simp <;> with_reducible rfl)) (by assumption) ?_; try simp only [Act.put, List.setIfInBounds_toArray, List.set_cons_zero, List.set_cons_succ])
          refine wpAnyH_done (by kernel_rfl) ?_ _
          go_wp2
          go_roundw
          case measure => simp [intOf]; omega
          case rel => exact ⟨k + 1, _, _, _, _, _, _, _, by go_num, by omega, by omega, tPz, by omega, tWz, by omega, tSz, by omega, tI.out, tbz⟩

        have hk3 : (k0 == 3) = false := beq_eq_false_iff_ne.2 h3
        by_cases h4 : k0 = 4
        · skip
          subst h4
          go_wp2_with fail
          refine (refof_any A l.length c l [97] _ hila (by omega)).mono ?_
          rw [hnn]
          rintro e w' ⟨rfl, hww⟩
          subst w'
          have key := undo_all hPa hNm k1 wk1 A c l hila hwl (by omega)
          go_wp2_with fail
          refine key.mono ?_
          rintro e WN ⟨x, rfl, hxE, hk, hP4⟩
          have tW := hWa.kept hk (fun e => hb1 e.symm)
          have tS := hSa.kept hk (fun e => hb2' e.symm)
          have tO := eO.kept hk (fun e => by omega)
          have tb := hba.trans (hk.below (B := w.heap.size) (Nat.le_trans hbw2.size (by simp)) (fun i hi e => by omega))
          clear key hxE
          have T : ∃ M M1 M2 fN ksN gwN gsN, M ≤ k + 1 ∧ M1 ≤ k + 1 ∧ M2 ≤ k + 1 ∧ PS F WN p b M fN ksN ∧ IM WN m1 M1 gwN ∧ IM WN m2 M2 gsN ∧ BI fN gwN gsN := by
            rcases hP4 with ⟨_, q1, q2, q3, bl, hbl, hP4⟩ | ⟨hne, hP4⟩
            · have hrc := hPa.rc k1
              exact ⟨N + 1, N1, N2, _, _, _, _, by omega, by omega, by omega, hP4.mono (G := F) (fun i _ h => hFn _ (by simp; omega) (by simp; omega) i h), tW, tS, hI.out.backed bl (fun g => by rw [hbl, show minusR (f k1).b.l l = restL (f k1).b.l l from by unfold minusR; rw [q3]; rfl]; exact Int.le_trans (ofL_rest_le (MY.of_ hrc.b_.may) (MY.of_ q2) g) (hI.out.le2 k1 g))⟩
            · exact ⟨N, N1, N2, _, _, _, _, by omega, by omega, by omega, hP4.mono (G := F) (fun i _ h => hFn _ (by simp; omega) (by simp; omega) i h), tW, tS, hI.out⟩
          clear tW tS
          obtain ⟨M, M1, M2, fN, ksN, gwN, gsN, tM, tM1, tM2, tP, tW, tS, tI⟩ := T
          clear hP4 hk hI hPa hWa hSa hba eO hila e0 e1 e3
          go_upto_region 23 with fail
          have hpa := parcel_any tP k1 wk1
          have hmyS := MY.of_ (tP.rc k1).s_.may
          have hmyB := MY.of_ (tP.rc k1).b_.may
          have he1 := tI.ew k1 wk1
          have he2 := tI.es k1 wk1
          have hl1 := tI.le1 k1 [97]
          have hl2 := tI.le2 k1 [97]
          obtain ⟨wl, hwl9⟩ : ∃ x, (fN k1).w.l = x := ⟨_, rfl⟩
          obtain ⟨sl, hsl9⟩ : ∃ x, (fN k1).s.l = x := ⟨_, rfl⟩
          obtain ⟨bl, hbl9⟩ : ∃ x, (fN k1).b.l = x := ⟨_, rfl⟩
          obtain ⟨oo, hoo9⟩ : ∃ x, (fN k1).o = x := ⟨_, rfl⟩
          rw [hwl9, hsl9, hbl9, hoo9] at hpa
          rw [hwl9] at he1 hl1
          rw [hsl9] at he2 hl1 hl2 hmyS
          rw [hbl9] at hl2 hmyB
          have hsl16 := hmyS.len
          have hbl16 := hmyB.len
          clear hwl9 hsl9 hbl9 hoo9 hmyS hmyB
          have hlk2 := fun (W : World) (h : IM W m2 M2 gsN) => h.look wk1
          have hlk1 := fun (W : World) (h : IM W m1 M1 gwN) => h.look wk1
          rw [he2] at hlk2
          rw [he1] at hlk1
          clear he1 he2
          replace hlk1 := Lib.hid hlk1
          replace hlk2 := Lib.hid hlk2
          replace tI := Lib.hid tI
          obtain ⟨ob, hob⟩ : ∃ ob, ob = wr.heap.size := ⟨_, rfl⟩
          rw [← hob] at tO ⊢
          replace hob := Lib.hid hob
          have o1 := tO.cell 1
          simp at o1
          generalize decide (k1 ∈ ksN) = I at hpa
          go_wp2_with fail
          refine hpa.mono ?_
          rintro e wq ⟨u, rfl, ⟨A6, c6, A10, c10, A14, c14, rfl, -, os, obk⟩, hxq⟩
          have tPq := tP.below hxq
          have tWq := tW.below hxq
          have tSq := tS.below hxq
          have tbq := tb.trans (hxq.mono tb.size)
          have tOq := tO.kept (Keep.of_below hxq) (Nat.not_le.2 tO.lt)
          clear hpa hxq o1
          go_upto_region 24 with fail
          have hilS := hil_of_form os
          have hilB := hil_of_form obk
          clear os obk
          have xa := (Below.refl wq.heap.size wq).alloc (Nat.le_refl _) (.cells #[.int .i64 oo, .slice A6 wl.length c6, .slice A10 sl.length c10, .slice A14 bl.length c14] 35)
          have zE := Blk.new wq 35 #[.int .i64 oo, .slice A6 wl.length c6, .slice A10 sl.length c10, .slice A14 bl.length c14]
          have tPz := (tPq.below xa).drew
          have tWz := tWq.below (xa.drew)
          have tSz := tSq.below (xa.drew)
          have tbz := (tbq.trans (xa.mono tbq.size)).drew
          have tOz := (tOq.kept (Keep.of_below xa) (Nat.not_le.2 tOq.lt)).drew
          have ilS := (hilS.below xa).drew
          have ilB := (hilB.below xa).drew
          replace zE := zE.drew
          obtain ⟨zb, hzb⟩ : ∃ zb, wq.heap.size = zb := ⟨_, rfl⟩
          rw [hzb] at zE ⊢
          clear hzb xa tPq tWq tSq tbq tOq hilS hilB
          have s1 := tOz.cell 1
          have s2 := zE.cell 2
          have s3 := zE.cell 3
          simp only [List.getElem?_toArray, List.getElem?_cons_succ, List.getElem?_cons_zero] at s1 s2 s3
          have s4 := hlk2.out _ tSz
          have s5 := hlk1.out _ tWz
          obtain ⟨sn, hsn⟩ : ∃ sn, ofL sl [97] = sn := ⟨_, rfl⟩
          obtain ⟨wn, hwn⟩ : ∃ wn, ofL wl [97] = wn := ⟨_, rfl⟩
          obtain ⟨bn, hbn⟩ : ∃ bn, ofL bl [97] = bn := ⟨_, rfl⟩
          have cSh := refof_any A10 sl.length c10 sl [97] _ ilS (by omega)
          have cBk := refof_any A14 bl.length c14 bl [97] _ ilB (by omega)
          rw [hsn] at s4 hl1 hl2 cSh
          rw [hwn] at s5 hl1
          rw [hbn] at hl2 cBk
          have sd : (fun W => W.cell? ⟨ob, 1, none⟩ = some (.int .i64 k1) ∧ W.cell? ⟨zb, 2, none⟩ = some (.slice A10 sl.length c10) ∧ W.cell? ⟨zb, 3, none⟩ = some (.slice A14 bl.length c14) ∧ (Instr.lookup 26 (.map (some m2)) (.int .i64 k1) false).run Try.prog W = .ok (.int .i64 sn) W ∧ (Instr.lookup 26 (.map (some m1)) (.int .i64 k1) false).run Try.prog W = .ok (.int .i64 wn) W) (wq.alloc (.cells #[.int .i64 oo, .slice A6 wl.length c6, .slice A10 sl.length c10, .slice A14 bl.length c14] 35)).drew := ⟨s1, s2, s3, s4, s5⟩
          have hd1 : decide (wn < sn) = false := decide_eq_false (by omega)
          have hd2 : decide (sn < bn) = false := decide_eq_false (by omega)
          have hd3 : (sn == sn) = true := beq_self_eq_true sn
          clear hsn hwn hbn hl1 hl2 s1 s2 s3 s4 s5 hlk1 hlk2 tOz tO tP tW tS tb zE
          refine wp_region_held_drew (S := (fun W => W.cell? ⟨ob, 1, none⟩ = some (.int .i64 k1) ∧ W.cell? ⟨zb, 2, none⟩ = some (.slice A10 sl.length c10) ∧ W.cell? ⟨zb, 3, none⟩ = some (.slice A14 bl.length c14) ∧ (Instr.lookup 26 (.map (some m2)) (.int .i64 k1) false).run Try.prog W = .ok (.int .i64 sn) W ∧ (Instr.lookup 26 (.map (some m1)) (.int .i64 k1) false).run Try.prog W = .ok (.int .i64 wn) W)) (by kernel_rfl) sd (fun hHeld => ?_)
          generalize (wq.alloc (.cells #[.int .i64 oo, .slice A6 wl.length c6, .slice A10 sl.length c10, .slice A14 bl.length c14] 35)).drew = wz at *
          (refine tkI 0 (by (simp only [List.getElem?_toArray, List.getElem?_cons_succ, List.getElem?_cons_zero]; rfl)) (by kernel_rfl) (by kernel_rfl) (by kernel_rfl) (by exact fun _ _ _ h => h) (by rfl) (by (intro w hSw; (try dsimp only at hSw); go_simp <;> with_reducible rfl)) (by assumption) ?_; try simp only [Act.put, List.setIfInBounds_toArray, List.set_cons_zero, List.set_cons_succ])
          (refine tkI 1 (by (simp only [List.getElem?_toArray, List.getElem?_cons_succ, List.getElem?_cons_zero]; rfl)) (by kernel_rfl) (by kernel_rfl) (by kernel_rfl) (by exact fun _ _ _ h => h) (by rfl) (by (intro w hSw; (try dsimp only at hSw); go_simp <;> with_reducible rfl)) (by assumption) ?_; try simp only [Act.put, List.setIfInBounds_toArray, List.set_cons_zero, List.set_cons_succ])
          (refine tkI 2 (by (simp only [List.getElem?_toArray, List.getElem?_cons_succ, List.getElem?_cons_zero]; rfl)) (by kernel_rfl) (by kernel_rfl) (by kernel_rfl) (by exact fun _ _ _ h => h) (by rfl) (by (intro w hSw; (try dsimp only at hSw); go_simp <;> with_reducible rfl)) (by assumption) ?_; try simp only [Act.put, List.setIfInBounds_toArray, List.set_cons_zero, List.set_cons_succ])
          (refine tkI 3 (by (simp only [List.getElem?_toArray, List.getElem?_cons_succ, List.getElem?_cons_zero]; rfl)) (by kernel_rfl) (by kernel_rfl) (by kernel_rfl) (by exact fun _ _ _ h => h) (by rfl) (by (intro w hSw; (try dsimp only at hSw); go_simp <;> with_reducible rfl)) (by assumption) ?_; try simp only [Act.put, List.setIfInBounds_toArray, List.set_cons_zero, List.set_cons_succ])
          (refine tkI 4 (by (simp only [List.getElem?_toArray, List.getElem?_cons_succ, List.getElem?_cons_zero]; rfl)) (by kernel_rfl) (by kernel_rfl) (by kernel_rfl) (by exact fun _ _ _ h => h) (by rfl) (by (intro w hSw; (try dsimp only at hSw); go_simp <;> with_reducible rfl)) (by assumption) ?_; try simp only [Act.put, List.setIfInBounds_toArray, List.set_cons_zero, List.set_cons_succ])
          (refine tkI 5 (by (simp only [List.getElem?_toArray, List.getElem?_cons_succ, List.getElem?_cons_zero]; rfl)) (by kernel_rfl) (by kernel_rfl) (by kernel_rfl) (by exact fun _ _ _ h => h) (by rfl) (by (intro w hSw; (try dsimp only at hSw); go_simp <;> with_reducible rfl)) (by assumption) ?_; try simp only [Act.put, List.setIfInBounds_toArray, List.set_cons_zero, List.set_cons_succ])
          (refine tkI 6 (by (simp only [List.getElem?_toArray, List.getElem?_cons_succ, List.getElem?_cons_zero]; rfl)) (by kernel_rfl) (by kernel_rfl) (by kernel_rfl) (by exact fun _ _ _ h => h) (by rfl) (by (intro w hSw; (try dsimp only at hSw); go_simp <;> with_reducible rfl)) (by assumption) ?_; try simp only [Act.put, List.setIfInBounds_toArray, List.set_cons_zero, List.set_cons_succ])
          (refine tkI 7 (by (simp only [List.getElem?_toArray, List.getElem?_cons_succ, List.getElem?_cons_zero]; rfl)) (by kernel_rfl) (by kernel_rfl) (by kernel_rfl) (by exact fun _ _ _ h => h) (by rfl) (by (intro w hSw; (try dsimp only at hSw); go_simp <;> with_reducible rfl)) (by assumption) ?_; try simp only [Act.put, List.setIfInBounds_toArray, List.set_cons_zero, List.set_cons_succ])
          (refine tkI 8 (by (simp only [List.getElem?_toArray, List.getElem?_cons_succ, List.getElem?_cons_zero]; rfl)) (by kernel_rfl) (by kernel_rfl) (by kernel_rfl) (by exact fun _ _ _ h => h) (by rfl) (by (intro w hSw; (try dsimp only at hSw); go_simp <;> with_reducible rfl)) (by assumption) ?_; try simp only [Act.put, List.setIfInBounds_toArray, List.set_cons_zero, List.set_cons_succ])
          (refine tkI 9 (by (simp only [List.getElem?_toArray, List.getElem?_cons_succ, List.getElem?_cons_zero]; rfl)) (by kernel_rfl) (by kernel_rfl) (by kernel_rfl) (by exact fun _ _ _ h => h) (by rfl) (by (intro w hSw; (try dsimp only at hSw); go_simp <;> with_reducible rfl)) (by assumption) ?_; try simp only [Act.put, List.setIfInBounds_toArray, List.set_cons_zero, List.set_cons_succ])
          (refine tkI 10 (by (simp only [List.getElem?_toArray, List.getElem?_cons_succ, List.getElem?_cons_zero]; rfl)) (by kernel_rfl) (by kernel_rfl) (by kernel_rfl) (by exact fun _ _ _ h => h) (by rfl) (by (intro w hSw; (try dsimp only at hSw); go_simp <;> with_reducible rfl)) (by assumption) ?_; try simp only [Act.put, List.setIfInBounds_toArray, List.set_cons_zero, List.set_cons_succ])
          (refine tkI 11 (by (simp only [List.getElem?_toArray, List.getElem?_cons_succ, List.getElem?_cons_zero]; rfl)) (by kernel_rfl) (by kernel_rfl) (by kernel_rfl) (by exact fun _ _ _ h => h) (by rfl) (by (intro w hSw; (try dsimp only at hSw); go_simp <;> with_reducible rfl)) (by assumption) ?_; try simp only [Act.put, List.setIfInBounds_toArray, List.set_cons_zero, List.set_cons_succ])
          (refine tkI 13 (by (simp only [List.getElem?_toArray, List.getElem?_cons_succ, List.getElem?_cons_zero]; rfl)) (by kernel_rfl) (by kernel_rfl) (by kernel_rfl) (by exact fun _ _ _ h => h) (by rfl) (by (intro w hSw; (try dsimp only at hSw); go_simp <;> with_reducible rfl)) (by assumption) ?_; try simp only [Act.put, List.setIfInBounds_toArray, List.set_cons_zero, List.set_cons_succ])
          (refine tkI 14 (by (simp only [List.getElem?_toArray, List.getElem?_cons_succ, List.getElem?_cons_zero]; rfl)) (by kernel_rfl) (by kernel_rfl) (by kernel_rfl) (by exact fun _ _ _ h => h) (by rfl) (by (intro w hSw; (try dsimp only at hSw); go_simp <;> with_reducible rfl)) (by assumption) ?_; try simp only [Act.put, List.setIfInBounds_toArray, List.set_cons_zero, List.set_cons_succ])
          (refine tkI 15 (by (simp only [List.getElem?_toArray, List.getElem?_cons_succ, List.getElem?_cons_zero]; rfl)) (by kernel_rfl) (by kernel_rfl) (by kernel_rfl) (by exact fun _ _ _ h => h) (by rfl) (by (intro w hSw; (try dsimp only at hSw); go_simp <;> with_reducible rfl)) (by assumption) ?_; try simp only [Act.put, List.setIfInBounds_toArray, List.set_cons_zero, List.set_cons_succ])
          (refine tkI 16 (by (simp only [List.getElem?_toArray, List.getElem?_cons_succ, List.getElem?_cons_zero]; rfl)) (by kernel_rfl) (by kernel_rfl) (by kernel_rfl) (by exact fun _ _ _ h => h) (by rfl) (by (intro w hSw; (try dsimp only at hSw); go_simp <;> with_reducible rfl)) (by assumption) ?_; try simp only [Act.put, List.setIfInBounds_toArray, List.set_cons_zero, List.set_cons_succ])
          refine wpAnyH_ready (rs := [12]) (by kernel_rfl) (by simp) ?_
          refine AllReadyH.cons (by (simp only [List.getElem?_toArray, List.getElem?_cons_succ, List.getElem?_cons_zero]; rfl)) (fun K hK => ?_) AllReadyH.nil
          go_simp
          refine (cSh).mono ?_
          rintro e w' ⟨rfl, hww⟩
          subst w'
          refine hK.out _ _ sd (fun hHeld2 => ?_)
          clear hK K hHeld
          have hHeld := hHeld2
          clear hHeld2
          try simp only [Act.put, List.setIfInBounds_toArray, List.set_cons_zero, List.set_cons_succ]
          (refine tkI 17 (by (simp only [List.getElem?_toArray, List.getElem?_cons_succ, List.getElem?_cons_zero]; rfl)) (by kernel_rfl) (by kernel_rfl) (by kernel_rfl) (by exact fun _ _ _ h => h) (by rfl) (by (intro w hSw; (try dsimp only at hSw); go_simp <;> with_reducible rfl)) (by assumption) ?_; try simp only [Act.put, List.setIfInBounds_toArray, List.set_cons_zero, List.set_cons_succ])
          (refine tkI 18 (by (simp only [List.getElem?_toArray, List.getElem?_cons_succ, List.getElem?_cons_zero]; rfl)) (by kernel_rfl) (by kernel_rfl) (by kernel_rfl) (by exact fun _ _ _ h => h) (by rfl) (by (intro w hSw; (try dsimp only at hSw); go_simp <;> with_reducible rfl)) (by assumption) ?_; try simp only [Act.put, List.setIfInBounds_toArray, List.set_cons_zero, List.set_cons_succ])
          (refine tkI 19 (by (simp only [List.getElem?_toArray, List.getElem?_cons_succ, List.getElem?_cons_zero]; rfl)) (by kernel_rfl) (by kernel_rfl) (by kernel_rfl) (by exact fun _ _ _ h => h) (by rfl) (by (intro w hSw; (try dsimp only at hSw); go_simp <;> with_reducible rfl)) (by assumption) ?_; try simp only [Act.put, List.setIfInBounds_toArray, List.set_cons_zero, List.set_cons_succ])
          (refine tkI 20 (by (simp only [List.getElem?_toArray, List.getElem?_cons_succ, List.getElem?_cons_zero]; rfl)) (by kernel_rfl) (by kernel_rfl) (by kernel_rfl) (by exact fun _ _ _ h => h) (by rfl) (by (intro w hSw; (try dsimp only at hSw); go_simp <;> with_reducible rfl)) (by assumption) ?_; try simp only [Act.put, List.setIfInBounds_toArray, List.set_cons_zero, List.set_cons_succ])
          (refine tkI 21 (by (simp only [List.getElem?_toArray, List.getElem?_cons_succ, List.getElem?_cons_zero]; rfl)) (by kernel_rfl) (by kernel_rfl) (by kernel_rfl) (by exact fun _ _ _ h => h) (by rfl) (by (intro w hSw; (try dsimp only at hSw); go_simp <;> with_reducible rfl)) (by assumption) ?_; try simp only [Act.put, List.setIfInBounds_toArray, List.set_cons_zero, List.set_cons_succ])
          (refine tkI 23 (by (simp only [List.getElem?_toArray, List.getElem?_cons_succ, List.getElem?_cons_zero]; rfl)) (by kernel_rfl) (by kernel_rfl) (by kernel_rfl) (by exact fun _ _ _ h => h) (by rfl) (by (intro w hSw; (try dsimp only at hSw); go_simp <;> with_reducible rfl)) (by assumption) ?_; try simp only [Act.put, List.setIfInBounds_toArray, List.set_cons_zero, List.set_cons_succ])
          (refine tkI 24 (by (simp only [List.getElem?_toArray, List.getElem?_cons_succ, List.getElem?_cons_zero]; rfl)) (by kernel_rfl) (by kernel_rfl) (by kernel_rfl) (by exact fun _ _ _ h => h) (by rfl) (by (intro w hSw; (try dsimp only at hSw); go_simp <;> with_reducible rfl)) (by assumption) ?_; try simp only [Act.put, List.setIfInBounds_toArray, List.set_cons_zero, List.set_cons_succ])
          (refine tkI 25 (by (simp only [List.getElem?_toArray, List.getElem?_cons_succ, List.getElem?_cons_zero]; rfl)) (by kernel_rfl) (by kernel_rfl) (by kernel_rfl) (by exact fun _ _ _ h => h) (by rfl) (by (intro w hSw; (try dsimp only at hSw); go_simp <;> with_reducible rfl)) (by assumption) ?_; try simp only [Act.put, List.setIfInBounds_toArray, List.set_cons_zero, List.set_cons_succ])
          (refine tkI 26 (by (simp only [List.getElem?_toArray, List.getElem?_cons_succ, List.getElem?_cons_zero]; rfl)) (by kernel_rfl) (by kernel_rfl) (by kernel_rfl) (by exact fun _ _ _ h => h) (by rfl) (by (intro w hSw; (try dsimp only at hSw); go_simp <;> with_reducible rfl)) (by assumption) ?_; try simp only [Act.put, List.setIfInBounds_toArray, List.set_cons_zero, List.set_cons_succ])
          refine wpAnyH_ready (rs := [22]) (by kernel_rfl) (by simp) ?_
          refine AllReadyH.cons (by (simp only [List.getElem?_toArray, List.getElem?_cons_succ, List.getElem?_cons_zero]; rfl)) (fun K hK => ?_) AllReadyH.nil
          go_simp
          refine (cBk).mono ?_
          rintro e w' ⟨rfl, hww⟩
          subst w'
          refine hK.out _ _ sd (fun hHeld2 => ?_)
          clear hK K hHeld
          have hHeld := hHeld2
          clear hHeld2
          try simp only [Act.put, List.setIfInBounds_toArray, List.set_cons_zero, List.set_cons_succ]
          (refine tkI 27 (by (simp only [List.getElem?_toArray, List.getElem?_cons_succ, List.getElem?_cons_zero]; rfl)) (by kernel_rfl) (by kernel_rfl) (by kernel_rfl) (by exact fun _ _ _ h => h) (by rfl) (by (intro w hSw; (try dsimp only at hSw); go_simp <;> with_reducible rfl)) (by assumption) ?_; try simp only [Act.put, List.setIfInBounds_toArray, List.set_cons_zero, List.set_cons_succ])
          (refine tkI 28 (by (simp only [List.getElem?_toArray, List.getElem?_cons_succ, List.getElem?_cons_zero]; rfl)) (by kernel_rfl) (by kernel_rfl) (by kernel_rfl) (by exact fun _ _ _ h => h) (by rfl) (by (intro w hSw; (try dsimp only at hSw); go_simp <;> with_reducible rfl)) (by assumption) ?_; try simp only [Act.put, List.setIfInBounds_toArray, List.set_cons_zero, List.set_cons_succ])
          refine wpAnyH_done (by kernel_rfl) ?_ _
          go_wp2
          go_roundw
          case measure => simp [intOf]; omega
          case rel => exact ⟨k + 1, _, _, _, _, _, _, _, by go_num, by omega, by omega, tPz, by omega, tWz, by omega, tSz, by omega, tI.out, tbz⟩

        have hk4 : (k0 == 4) = false := beq_eq_false_iff_ne.2 h4
        go_wp2_with fail
        refine (refof_any A l.length c l [97] _ hila (by omega)).mono ?_
        rw [hnn]
        rintro e w' ⟨rfl, hww⟩
        subst w'
        obtain ⟨WN, hWN⟩ : ∃ WN, WN = wr.alloc (.cells #[.int .i64 k0, .int .i64 k1, .int .i64 k2, .slice A l.length c] 29) := ⟨_, rfl⟩
        go_upto_region 23 with fail
        rw [← hWN] at hPa hWa hSa hba eO ⊢
        have T : ∃ M M1 M2 fN ksN gwN gsN, M ≤ k + 1 ∧ M1 ≤ k + 1 ∧ M2 ≤ k + 1 ∧ PS F WN p b M fN ksN ∧ IM WN m1 M1 gwN ∧ IM WN m2 M2 gsN ∧ BI fN gwN gsN := ⟨N, N1, N2, _, _, _, _, by omega, by omega, by omega, hPa, hWa, hSa, hI.out⟩
        obtain ⟨M, M1, M2, fN, ksN, gwN, gsN, tM, tM1, tM2, tP, tW, tS, tI⟩ := T
        have tO := eO
        have tb := hba
        clear hI hPa hWa hSa hba eO hila e0 e1 e3 hWN
        have hpa := parcel_any tP k1 wk1
        have hmyS := MY.of_ (tP.rc k1).s_.may
        have hmyB := MY.of_ (tP.rc k1).b_.may
        have he1 := tI.ew k1 wk1
        have he2 := tI.es k1 wk1
        have hl1 := tI.le1 k1 [97]
        have hl2 := tI.le2 k1 [97]
        obtain ⟨wl, hwl9⟩ : ∃ x, (fN k1).w.l = x := ⟨_, rfl⟩
        obtain ⟨sl, hsl9⟩ : ∃ x, (fN k1).s.l = x := ⟨_, rfl⟩
        obtain ⟨bl, hbl9⟩ : ∃ x, (fN k1).b.l = x := ⟨_, rfl⟩
        obtain ⟨oo, hoo9⟩ : ∃ x, (fN k1).o = x := ⟨_, rfl⟩
        rw [hwl9, hsl9, hbl9, hoo9] at hpa
        rw [hwl9] at he1 hl1
        rw [hsl9] at he2 hl1 hl2 hmyS
        rw [hbl9] at hl2 hmyB
        have hsl16 := hmyS.len
        have hbl16 := hmyB.len
        clear hwl9 hsl9 hbl9 hoo9 hmyS hmyB
        have hlk2 := fun (W : World) (h : IM W m2 M2 gsN) => h.look wk1
        have hlk1 := fun (W : World) (h : IM W m1 M1 gwN) => h.look wk1
        rw [he2] at hlk2
        rw [he1] at hlk1
        clear he1 he2
        replace hlk1 := Lib.hid hlk1
        replace hlk2 := Lib.hid hlk2
        replace tI := Lib.hid tI
        obtain ⟨ob, hob⟩ : ∃ ob, ob = wr.heap.size := ⟨_, rfl⟩
        rw [← hob] at tO ⊢
        replace hob := Lib.hid hob
        have o1 := tO.cell 1
        simp at o1
        generalize decide (k1 ∈ ksN) = I at hpa
        go_wp2_with fail
        refine hpa.mono ?_
        rintro e wq ⟨u, rfl, ⟨A6, c6, A10, c10, A14, c14, rfl, -, os, obk⟩, hxq⟩
        have tPq := tP.below hxq
        have tWq := tW.below hxq
        have tSq := tS.below hxq
        have tbq := tb.trans (hxq.mono tb.size)
        have tOq := tO.kept (Keep.of_below hxq) (Nat.not_le.2 tO.lt)
        clear hpa hxq o1
        go_upto_region 24 with fail
        have hilS := hil_of_form os
        have hilB := hil_of_form obk
        clear os obk
        have xa := (Below.refl wq.heap.size wq).alloc (Nat.le_refl _) (.cells #[.int .i64 oo, .slice A6 wl.length c6, .slice A10 sl.length c10, .slice A14 bl.length c14] 35)
        have zE := Blk.new wq 35 #[.int .i64 oo, .slice A6 wl.length c6, .slice A10 sl.length c10, .slice A14 bl.length c14]
        have tPz := (tPq.below xa).drew
        have tWz := tWq.below (xa.drew)
        have tSz := tSq.below (xa.drew)
        have tbz := (tbq.trans (xa.mono tbq.size)).drew
        have tOz := (tOq.kept (Keep.of_below xa) (Nat.not_le.2 tOq.lt)).drew
        have ilS := (hilS.below xa).drew
        have ilB := (hilB.below xa).drew
        replace zE := zE.drew
        obtain ⟨zb, hzb⟩ : ∃ zb, wq.heap.size = zb := ⟨_, rfl⟩
        rw [hzb] at zE ⊢
        clear hzb xa tPq tWq tSq tbq tOq hilS hilB
        have s1 := tOz.cell 1
        have s2 := zE.cell 2
        have s3 := zE.cell 3
        simp only [List.getElem?_toArray, List.getElem?_cons_succ, List.getElem?_cons_zero] at s1 s2 s3
        have s4 := hlk2.out _ tSz
        have s5 := hlk1.out _ tWz
        obtain ⟨sn, hsn⟩ : ∃ sn, ofL sl [97] = sn := ⟨_, rfl⟩
        obtain ⟨wn, hwn⟩ : ∃ wn, ofL wl [97] = wn := ⟨_, rfl⟩
        obtain ⟨bn, hbn⟩ : ∃ bn, ofL bl [97] = bn := ⟨_, rfl⟩
        have cSh := refof_any A10 sl.length c10 sl [97] _ ilS (by omega)
        have cBk := refof_any A14 bl.length c14 bl [97] _ ilB (by omega)
        rw [hsn] at s4 hl1 hl2 cSh
        rw [hwn] at s5 hl1
        rw [hbn] at hl2 cBk
        have sd : (fun W => W.cell? ⟨ob, 1, none⟩ = some (.int .i64 k1) ∧ W.cell? ⟨zb, 2, none⟩ = some (.slice A10 sl.length c10) ∧ W.cell? ⟨zb, 3, none⟩ = some (.slice A14 bl.length c14) ∧ (Instr.lookup 26 (.map (some m2)) (.int .i64 k1) false).run Try.prog W = .ok (.int .i64 sn) W ∧ (Instr.lookup 26 (.map (some m1)) (.int .i64 k1) false).run Try.prog W = .ok (.int .i64 wn) W) (wq.alloc (.cells #[.int .i64 oo, .slice A6 wl.length c6, .slice A10 sl.length c10, .slice A14 bl.length c14] 35)).drew := ⟨s1, s2, s3, s4, s5⟩
        have hd1 : decide (wn < sn) = false := decide_eq_false (by omega)
        have hd2 : decide (sn < bn) = false := decide_eq_false (by omega)
        have hd3 : (sn == sn) = true := beq_self_eq_true sn
        clear hsn hwn hbn hl1 hl2 s1 s2 s3 s4 s5 hlk1 hlk2 tOz tO tP tW tS tb zE
        refine wp_region_held_drew (S := (fun W => W.cell? ⟨ob, 1, none⟩ = some (.int .i64 k1) ∧ W.cell? ⟨zb, 2, none⟩ = some (.slice A10 sl.length c10) ∧ W.cell? ⟨zb, 3, none⟩ = some (.slice A14 bl.length c14) ∧ (Instr.lookup 26 (.map (some m2)) (.int .i64 k1) false).run Try.prog W = .ok (.int .i64 sn) W ∧ (Instr.lookup 26 (.map (some m1)) (.int .i64 k1) false).run Try.prog W = .ok (.int .i64 wn) W)) (by kernel_rfl) sd (fun hHeld => ?_)
        generalize (wq.alloc (.cells #[.int .i64 oo, .slice A6 wl.length c6, .slice A10 sl.length c10, .slice A14 bl.length c14] 35)).drew = wz at *
        (refine tkI 0 (by (simp only [List.getElem?_toArray, List.getElem?_cons_succ, List.getElem?_cons_zero]; rfl)) (by kernel_rfl) (by kernel_rfl) (by kernel_rfl) (by exact fun _ _ _ h => h) (by rfl) (by (intro w hSw; (try dsimp only at hSw); go_simp <;> with_reducible rfl)) (by assumption) ?_; try simp only [Act.put, List.setIfInBounds_toArray, List.set_cons_zero, List.set_cons_succ])
        (refine tkI 1 (by (simp only [List.getElem?_toArray, List.getElem?_cons_succ, List.getElem?_cons_zero]; rfl)) (by kernel_rfl) (by kernel_rfl) (by kernel_rfl) (by exact fun _ _ _ h => h) (by rfl) (by (intro w hSw; (try dsimp only at hSw); go_simp <;> with_reducible rfl)) (by assumption) ?_; try simp only [Act.put, List.setIfInBounds_toArray, List.set_cons_zero, List.set_cons_succ])
        (refine tkI 2 (by (simp only [List.getElem?_toArray, List.getElem?_cons_succ, List.getElem?_cons_zero]; rfl)) (by kernel_rfl) (by kernel_rfl) (by kernel_rfl) (by exact fun _ _ _ h => h) (by rfl) (by (intro w hSw; (try dsimp only at hSw); go_simp <;> with_reducible rfl)) (by assumption) ?_; try simp only [Act.put, List.setIfInBounds_toArray, List.set_cons_zero, List.set_cons_succ])
        (refine tkI 3 (by (simp only [List.getElem?_toArray, List.getElem?_cons_succ, List.getElem?_cons_zero]; rfl)) (by kernel_rfl) (by kernel_rfl) (by kernel_rfl) (by exact fun _ _ _ h => h) (by rfl) (by (intro w hSw; (try dsimp only at hSw); go_simp <;> with_reducible rfl)) (by assumption) ?_; try simp only [Act.put, List.setIfInBounds_toArray, List.set_cons_zero, List.set_cons_succ])
        (refine tkI 4 (by (simp only [List.getElem?_toArray, List.getElem?_cons_succ, List.getElem?_cons_zero]; rfl)) (by kernel_rfl) (by kernel_rfl) (by kernel_rfl) (by exact fun _ _ _ h => h) (by rfl) (by (intro w hSw; (try dsimp only at hSw); go_simp <;> with_reducible rfl)) (by assumption) ?_; try simp only [Act.put, List.setIfInBounds_toArray, List.set_cons_zero, List.set_cons_succ])
        (refine tkI 5 (by (simp only [List.getElem?_toArray, List.getElem?_cons_succ, List.getElem?_cons_zero]; rfl)) (by kernel_rfl) (by kernel_rfl) (by kernel_rfl) (by exact fun _ _ _ h => h) (by rfl) (by (intro w hSw; (try dsimp only at hSw); go_simp <;> with_reducible rfl)) (by assumption) ?_; try simp only [Act.put, List.setIfInBounds_toArray, List.set_cons_zero, List.set_cons_succ])
        (refine tkI 6 (by (simp only [List.getElem?_toArray, List.getElem?_cons_succ, List.getElem?_cons_zero]; rfl)) (by kernel_rfl) (by kernel_rfl) (by kernel_rfl) (by exact fun _ _ _ h => h) (by rfl) (by (intro w hSw; (try dsimp only at hSw); go_simp <;> with_reducible rfl)) (by assumption) ?_; try simp only [Act.put, List.setIfInBounds_toArray, List.set_cons_zero, List.set_cons_succ])
        (refine tkI 7 (by (simp only [List.getElem?_toArray, List.getElem?_cons_succ, List.getElem?_cons_zero]; rfl)) (by kernel_rfl) (by kernel_rfl) (by kernel_rfl) (by exact fun _ _ _ h => h) (by rfl) (by (intro w hSw; (try dsimp only at hSw); go_simp <;> with_reducible rfl)) (by assumption) ?_; try simp only [Act.put, List.setIfInBounds_toArray, List.set_cons_zero, List.set_cons_succ])
        (refine tkI 8 (by (simp only [List.getElem?_toArray, List.getElem?_cons_succ, List.getElem?_cons_zero]; rfl)) (by kernel_rfl) (by kernel_rfl) (by kernel_rfl) (by exact fun _ _ _ h => h) (by rfl) (by (intro w hSw; (try dsimp only at hSw); go_simp <;> with_reducible rfl)) (by assumption) ?_; try simp only [Act.put, List.setIfInBounds_toArray, List.set_cons_zero, List.set_cons_succ])
        (refine tkI 9 (by (simp only [List.getElem?_toArray, List.getElem?_cons_succ, List.getElem?_cons_zero]; rfl)) (by kernel_rfl) (by kernel_rfl) (by kernel_rfl) (by exact fun _ _ _ h => h) (by rfl) (by (intro w hSw; (try dsimp only at hSw); go_simp <;> with_reducible rfl)) (by assumption) ?_; try simp only [Act.put, List.setIfInBounds_toArray, List.set_cons_zero, List.set_cons_succ])
        (refine tkI 10 (by (simp only [List.getElem?_toArray, List.getElem?_cons_succ, List.getElem?_cons_zero]; rfl)) (by kernel_rfl) (by kernel_rfl) (by kernel_rfl) (by exact fun _ _ _ h => h) (by rfl) (by (intro w hSw; (try dsimp only at hSw); go_simp <;> with_reducible rfl)) (by assumption) ?_; try simp only [Act.put, List.setIfInBounds_toArray, List.set_cons_zero, List.set_cons_succ])
        (refine tkI 11 (by (simp only [List.getElem?_toArray, List.getElem?_cons_succ, List.getElem?_cons_zero]; rfl)) (by kernel_rfl) (by kernel_rfl) (by kernel_rfl) (by exact fun _ _ _ h => h) (by rfl) (by (intro w hSw; (try dsimp only at hSw); go_simp <;> with_reducible rfl)) (by assumption) ?_; try simp only [Act.put, List.setIfInBounds_toArray, List.set_cons_zero, List.set_cons_succ])
        (refine tkI 13 (by (simp only [List.getElem?_toArray, List.getElem?_cons_succ, List.getElem?_cons_zero]; rfl)) (by kernel_rfl) (by kernel_rfl) (by kernel_rfl) (by exact fun _ _ _ h => h) (by rfl) (by (intro w hSw; (try dsimp only at hSw); go_simp <;> with_reducible rfl)) (by assumption) ?_; try simp only [Act.put, List.setIfInBounds_toArray, List.set_cons_zero, List.set_cons_succ])
        (refine tkI 14 (by (simp only [List.getElem?_toArray, List.getElem?_cons_succ, List.getElem?_cons_zero]; rfl)) (by kernel_rfl) (by kernel_rfl) (by kernel_rfl) (by exact fun _ _ _ h => h) (by rfl) (by (intro w hSw; (try dsimp only at hSw); go_simp <;> with_reducible rfl)) (by assumption) ?_; try simp only [Act.put, List.setIfInBounds_toArray, List.set_cons_zero, List.set_cons_succ])
        (refine tkI 15 (by (simp only [List.getElem?_toArray, List.getElem?_cons_succ, List.getElem?_cons_zero]; rfl)) (by kernel_rfl) (by kernel_rfl) (by kernel_rfl) (by exact fun _ _ _ h => h) (by rfl) (by (intro w hSw; (try dsimp only at hSw); go_simp <;> with_reducible rfl)) (by assumption) ?_; try simp only [Act.put, List.setIfInBounds_toArray, List.set_cons_zero, List.set_cons_succ])
        (refine tkI 16 (by (simp only [List.getElem?_toArray, List.getElem?_cons_succ, List.getElem?_cons_zero]; rfl)) (by kernel_rfl) (by kernel_rfl) (by kernel_rfl) (by exact fun _ _ _ h => h) (by rfl) (by (intro w hSw; (try dsimp only at hSw); go_simp <;> with_reducible rfl)) (by assumption) ?_; try simp only [Act.put, List.setIfInBounds_toArray, List.set_cons_zero, List.set_cons_succ])
        refine wpAnyH_ready (rs := [12]) (by kernel_rfl) (by simp) ?_
        refine AllReadyH.cons (by (simp only [List.getElem?_toArray, List.getElem?_cons_succ, List.getElem?_cons_zero]; rfl)) (fun K hK => ?_) AllReadyH.nil
        go_simp
        refine (cSh).mono ?_
        rintro e w' ⟨rfl, hww⟩
        subst w'
        refine hK.out _ _ sd (fun hHeld2 => ?_)
        clear hK K hHeld
        have hHeld := hHeld2
        clear hHeld2
        try simp only [Act.put, List.setIfInBounds_toArray, List.set_cons_zero, List.set_cons_succ]
        (refine tkI 17 (by (simp only [List.getElem?_toArray, List.getElem?_cons_succ, List.getElem?_cons_zero]; rfl)) (by kernel_rfl) (by kernel_rfl) (by kernel_rfl) (by exact fun _ _ _ h => h) (by rfl) (by (intro w hSw; (try dsimp only at hSw); go_simp <;> with_reducible rfl)) (by assumption) ?_; try simp only [Act.put, List.setIfInBounds_toArray, List.set_cons_zero, List.set_cons_succ])
        (refine tkI 18 (by (simp only [List.getElem?_toArray, List.getElem?_cons_succ, List.getElem?_cons_zero]; rfl)) (by kernel_rfl) (by kernel_rfl) (by kernel_rfl) (by exact fun _ _ _ h => h) (by rfl) (by (intro w hSw; (try dsimp only at hSw); go_simp <;> with_reducible rfl)) (by assumption) ?_; try simp only [Act.put, List.setIfInBounds_toArray, List.set_cons_zero, List.set_cons_succ])
        (refine tkI 19 (by (simp only [List.getElem?_toArray, List.getElem?_cons_succ, List.getElem?_cons_zero]; rfl)) (by kernel_rfl) (by kernel_rfl) (by kernel_rfl) (by exact fun _ _ _ h => h) (by rfl) (by (intro w hSw; (try dsimp only at hSw); go_simp <;> with_reducible rfl)) (by assumption) ?_; try simp only [Act.put, List.setIfInBounds_toArray, List.set_cons_zero, List.set_cons_succ])
        (refine tkI 20 (by (simp only [List.getElem?_toArray, List.getElem?_cons_succ, List.getElem?_cons_zero]; rfl)) (by kernel_rfl) (by kernel_rfl) (by kernel_rfl) (by exact fun _ _ _ h => h) (by rfl) (by (intro w hSw; (try dsimp only at hSw); go_simp <;> with_reducible rfl)) (by assumption) ?_; try simp only [Act.put, List.setIfInBounds_toArray, List.set_cons_zero, List.set_cons_succ])
        (refine tkI 21 (by (simp only [List.getElem?_toArray, List.getElem?_cons_succ, List.getElem?_cons_zero]; rfl)) (by kernel_rfl) (by kernel_rfl) (by kernel_rfl) (by exact fun _ _ _ h => h) (by rfl) (by (intro w hSw; (try dsimp only at hSw); go_simp <;> with_reducible rfl)) (by assumption) ?_; try simp only [Act.put, List.setIfInBounds_toArray, List.set_cons_zero, List.set_cons_succ])
        (refine tkI 23 (by (simp only [List.getElem?_toArray, List.getElem?_cons_succ, List.getElem?_cons_zero]; rfl)) (by kernel_rfl) (by kernel_rfl) (by kernel_rfl) (by exact fun _ _ _ h => h) (by rfl) (by (intro w hSw; (try dsimp only at hSw); go_simp <;> with_reducible rfl)) (by assumption) ?_; try simp only [Act.put, List.setIfInBounds_toArray, List.set_cons_zero, List.set_cons_succ])
        (refine tkI 24 (by (simp only [List.getElem?_toArray, List.getElem?_cons_succ, List.getElem?_cons_zero]; rfl)) (by kernel_rfl) (by kernel_rfl) (by kernel_rfl) (by exact fun _ _ _ h => h) (by rfl) (by (intro w hSw; (try dsimp only at hSw); go_simp <;> with_reducible rfl)) (by assumption) ?_; try simp only [Act.put, List.setIfInBounds_toArray, List.set_cons_zero, List.set_cons_succ])
        (refine tkI 25 (by (simp only [List.getElem?_toArray, List.getElem?_cons_succ, List.getElem?_cons_zero]; rfl)) (by kernel_rfl) (by kernel_rfl) (by kernel_rfl) (by exact fun _ _ _ h => h) (by rfl) (by (intro w hSw; (try dsimp only at hSw); go_simp <;> with_reducible rfl)) (by assumption) ?_; try simp only [Act.put, List.setIfInBounds_toArray, List.set_cons_zero, List.set_cons_succ])
        (refine tkI 26 (by (simp only [List.getElem?_toArray, List.getElem?_cons_succ, List.getElem?_cons_zero]; rfl)) (by kernel_rfl) (by kernel_rfl) (by kernel_rfl) (by exact fun _ _ _ h => h) (by rfl) (by (intro w hSw; (try dsimp only at hSw); go_simp <;> with_reducible rfl)) (by assumption) ?_; try simp only [Act.put, List.setIfInBounds_toArray, List.set_cons_zero, List.set_cons_succ])
        refine wpAnyH_ready (rs := [22]) (by kernel_rfl) (by simp) ?_
        refine AllReadyH.cons (by (simp only [List.getElem?_toArray, List.getElem?_cons_succ, List.getElem?_cons_zero]; rfl)) (fun K hK => ?_) AllReadyH.nil
        go_simp
        refine (cBk).mono ?_
        rintro e w' ⟨rfl, hww⟩
        subst w'
        refine hK.out _ _ sd (fun hHeld2 => ?_)
        clear hK K hHeld
        have hHeld := hHeld2
        clear hHeld2
        try simp only [Act.put, List.setIfInBounds_toArray, List.set_cons_zero, List.set_cons_succ]
        (refine tkI 27 (by (simp only [List.getElem?_toArray, List.getElem?_cons_succ, List.getElem?_cons_zero]; rfl)) (by kernel_rfl) (by kernel_rfl) (by kernel_rfl) (by exact fun _ _ _ h => h) (by rfl) (by (intro w hSw; (try dsimp only at hSw); go_simp <;> with_reducible rfl)) (by assumption) ?_; try simp only [Act.put, List.setIfInBounds_toArray, List.set_cons_zero, List.set_cons_succ])
        (refine tkI 28 (by (simp only [List.getElem?_toArray, List.getElem?_cons_succ, List.getElem?_cons_zero]; rfl)) (by kernel_rfl) (by kernel_rfl) (by kernel_rfl) (by exact fun _ _ _ h => h) (by rfl) (by (intro w hSw; (try dsimp only at hSw); go_simp <;> with_reducible rfl)) (by assumption) ?_; try simp only [Act.put, List.setIfInBounds_toArray, List.set_cons_zero, List.set_cons_succ])
        refine wpAnyH_done (by kernel_rfl) ?_ _
        go_wp2
        go_roundw
        case measure => simp [intOf]; omega
        case rel => exact ⟨k + 1, _, _, _, _, _, _, _, by go_num, by omega, by omega, tPz, by omega, tWz, by omega, tSz, by omega, tI.out, tbz⟩

      · have hlz2 : ¬ (k : Int) < 200 := by omega
        go_wp2
        go_ret
        exact ⟨rfl, hbw2⟩
    · have hlz : ¬ (k : Int) < (len : Int) := by omega
      go_wp2
      go_ret
      exact ⟨rfl, hbw2⟩

namespace parcelBoundsDone
open Go.ChangeShapes Go.WideShapes Go.ChangeAt
set_option maxRecDepth 100000 in
theorem lifted (os : Os) (started : os.Started) (H : Type) (enc : TypeId × Value → H) :
    ReturnsInHanded {} Try.checked os 3 .any (Rows.parcelBoundsSpec.pre6 enc Try.prog Try.f3 Rows.parcelBoundsRow.domain false) (Rows.parcelBoundsSpec.post enc Try.prog Try.f3 false true false false) := by
  refine returnsInHanded_of_change_sized (C := Try.checked) own started (by kernel_rfl) Try.func3
    (ChangeSpec.witness6 (enc := enc) (C := Try.checked) false ⟨#[], #[Value.slice none 0 0], []⟩ 8 (by kernel_rfl) (by kernel_rfl) (by kernel_rfl) (by kernel_rfl)) ?_
  intro W base args ds gs before hval0 hW hcnd hsz0 _
  have hsz : (DataW.weightsEach Try.prog (Try.f3.params.toList ++ Rows.parcelBoundsSpec.plain.varTypes Try.prog) (ds ++ gs)).all (· ≤ reachBytes) = true := hsz0
  clear hsz0
  have hval : ∀ (j : Nat) t v, Try.f3.params[j]? = some t → args[j]? = some v → Value.okWide Try.prog W .any base t v := hval0
  have hW' := hW
  obtain ⟨p, q, hA0, hV, rfl, hfz, hnd⟩ := hW
  have hA : DataW.TrodAll enc Try.prog W 0 (fun _ => true) true Try.f3.params.toList args.toList ds p := hA0
  rw [Try.params3] at hA hval hsz
  obtain ⟨v0, vs0, d0, ds0, p0, q0, hargs, rfl, rfl, h0, r0⟩ := trodAll_cons hA
  obtain ⟨rfl, rfl, rfl⟩ := trodAll_nil r0
  obtain rfl : args = #[v0] := by cases args; simp_all
  obtain ⟨rfl, rfl⟩ := trodVars_none hV
  obtain ⟨a0, len0, cap0, rfl⟩ := okWide_slice Try.underlying22 (hval 0 22 v0 rfl rfl)
  have k0 := h0
  have lt0 : ∀ x ∈ p0, x.block < W.heap.size := by obtain ⟨m, hm⟩ := k0; exact DataW.trod_lt m _ _ _ hm
  obtain ⟨f0, ho0, hc0, hm0⟩ := ops_open h0
  clear hA0 hval0
  refine (parcelBounds_walk (w := W) a0 len0 cap0 f0 ho0 hc0 hm0).mono fun e W' ⟨he, bel⟩ => ?_
  subst he
  exact ⟨_, rfl, _, _, _, [], _, [], hW', trodAll_mk1 (shut_bool Try.underlying4 _), (trodAll_cons_mk (Below.trod laidOut (by kernel_rfl) (of_decide_eq_true (by kernel_rfl)) k0 bel lt0) trodAll_mk0), rfl, bel.frame _, fun h => by cases h⟩

theorem over : Rows.parcelBoundsRow.holds Try.pinned (OpenSpec.ofChange Rows.parcelBoundsSpec) :=
  OpenClaim.holds_of_wide 3 Try.f3 rfl rfl rfl rfl rfl rfl rfl ⟨rfl, rfl, rfl, rfl, rfl⟩ rfl rfl rfl rfl rfl (by kernel_rfl) Try.func3 (by kernel_rfl)
    (of_decide_eq_true (by kernel_rfl)) (by unfold Func.isWrapper; first | (rw [if_pos (by decide +kernel)]; kernel_rfl) | (rw [if_neg (by decide +kernel)]; exact ⟨rfl, rfl⟩))
    (fun os started H enc _ => lifted os started H enc)

/-- The statement. -/
theorem proved : Rows.ParcelBoundsSaid := over
end parcelBoundsDone
end Go.Proofs.Ythccfmlfofdaeaa
