/- 'IdentOnce' returns true for every input: the row of this law, proved. No condition. -/
import Derived.Test.YtpendcaefjbomaaIeA
import Derived.Test.YtpendcaefjbomaaRgT
import Derived.Deep.CutBlock
import Derived.Deep.CutRange
import Derived.ProofKit
import Derived.OpenShut
import Derived.ShutString
import Derived.ChangeOld
import Derived.SizedLaws
namespace Go.Proofs.Ytpendcaefjbomaa
open Go.RowKit
set_option linter.unusedVariables false
set_option linter.unusedSimpArgs false
set_option maxRecDepth 100000 in
set_option maxHeartbeats 12800000 in
theorem identOnce_walk {w : World} (a : Option Addr) (len cap : Nat) (fo : Nat → OpX) (ho : OPX w a len fo) (hc : len ≤ cap) (hm0 : cap ≤ 9223372036854775807) :
    Calls Try.prog 4 #[.slice a len cap] w fun e w' => e = .returned (.bool true) ∧ Below w.heap.size w w' := by
  go_enter Try.func4, Try.ntmps4
  go_wp2_with fail
  refine (tnew_any _).mono ?_
  rintro e w1 ⟨p, b, rfl, hS, -, -, hb1⟩
  have hT1 := TI.of hS
  clear hS
  go_wp2_with fail
  refine (lives_any _).mono ?_
  rintro e w2 ⟨rfl, hx2⟩
  have hT2 := hT1.below hx2
  have hb2 := hb1.trans (hx2.mono hb1.size)
  have hz12 := hx2.size
  clear hx2
  have hmm := @run_makeMap Try.prog
  obtain ⟨m1, hm⟩ : ∃ m1, w2.heap.size = m1 := ⟨_, rfl⟩
  have hz3 : (w2.alloc (Obj.map #[] 0)).heap.size = m1 + 1 := by simp [hm]
  have hW0 := (DM.made (.bool false) w2).below ((Below.refl (w2.alloc (Obj.map #[] 0)).heap.size (w2.alloc (Obj.map #[] 0))).alloc (Nat.le_refl _) (Obj.map #[] 0))
  have hS0 := DM.made rq0.a (w2.alloc (Obj.map #[] 0))
  rw [hm] at hW0
  rw [hz3] at hS0
  obtain ⟨m2, hm2⟩ : ∃ m2, m1 + 1 = m2 := ⟨_, rfl⟩
  rw [hm2] at hS0 hz3
  have hTa := hT2.below (((Below.refl w2.heap.size w2).alloc (Nat.le_refl _) (Obj.map #[] 0)).alloc (by simp) (Obj.map #[] 0))
  have hb3 := (hb2.alloc hb2.size (Obj.map #[] 0)).alloc (Nat.le_trans hb2.size (by simp)) (Obj.map #[] 0)
  have hz4 : ((w2.alloc (Obj.map #[] 0)).alloc (Obj.map #[] 0)).heap.size = m2 + 1 := by simp [hm]; omega
  have hL1 : ∀ g, (w.heap.size ≤ g ∧ g < w1.heap.size) → w.heap.size ≤ g ∧ g ≠ m1 ∧ g ≠ m2 := fun g hg => ⟨hg.1, by have := hg.2; omega, by have := hg.2; omega⟩
  have hm12 : m1 ≠ m2 := by omega
  have hmw : w.heap.size ≤ m1 := by rw [← hm]; exact hb2.size
  clear hT1 hb1 hT2 hb2 hz12
  go_wp2
  try rw [hm]
  try rw [hz3]
  try rw [hm2]
  clear hm hz3 hmm
  generalize (w2.alloc (Obj.map #[] 0)).alloc (Obj.map #[] 0) = w3 at *
  obtain ⟨W3, hW3⟩ : ∃ W3, w3.heap.size = W3 := ⟨_, rfl⟩
  go_loopw [6, 7, 8, 9, 10, 11, 12] (fun i s7 s8 s9 s10 s11 s12 wr => m2 < wr.heap.size ∧ ∃ (k : Nat) (F : Nat → Prop) (cl : Int → Cl) (cs : List Int) (fr th hs : Int → Int → Bool) (tv : Int → Int → Rq), i = .int .i64 (k : Int) ∧ k ≤ len ∧ k ≤ 200 ∧ TI F wr p b k cl cs ∧ (∀ g, F g → w.heap.size ≤ g ∧ g ≠ m1 ∧ g ≠ m2) ∧ Below w.heap.size w wr ∧ (∃ N1, N1 ≤ k ∧ DM (.bool false) wr m1 N1 (fun x y => .bool (fr x y)) hs) ∧ (∃ N2, N2 ≤ k ∧ DM rq0.a wr m2 N2 (fun x y => (tv x y).a) th) ∧ Hid (MInv cl k ∧ OI1 cl fr th tv)) (fun i _ _ _ _ _ _ _ => 200 - (intOf i).toNat)
  case atStart => exact ⟨by omega, 0, _, _, _, _, _, _, _, by go_num, by omega, by omega, hTa, hL1, hb3, ⟨0, Nat.le_refl _, hW0⟩, ⟨0, Nat.le_refl _, hS0⟩, Lib.hid ⟨MInv.start, OI1.start⟩⟩
  case round =>
    clear hTa hL1 hb3 hW0 hS0 hz4 hW3
    obtain ⟨hmz, k, F, cl, cs, fr, th, hs, tv, rfl, hkl, hk2, hT, hL, hbr, ⟨N1, hN1, hD1⟩, ⟨N2, hN2, hD2⟩, hMO⟩ := hrel
    by_cases hlt : k < len
    · have hlz : (k : Int) < (len : Int) := by omega
      by_cases hlt2 : k < 200
      · have hlz2 : (k : Int) < 200 := by omega
        obtain ⟨rb, ro, rfl, hrb, hrow⟩ := ho (by omega)
        have hx := (hrow k hlt).below hbr
        generalize fo k = x at hx
        obtain ⟨⟨k0, k1, k2, l, a0, a1, a2, a3⟩, A, c⟩ := x
        obtain ⟨x0, x1, x2, x3, x4, x5, x6, x7, ⟨hl0, hcap, hcapm, wk1, wk2, wk4, wk5⟩⟩ := hx
        dsimp only at x0 x1 x2 x3 x4 x5 x6 x7 hl0 hcap hcapm wk1 wk2 wk4 wk5
        clear hrow
        have hxa := (Below.refl wr.heap.size wr).alloc (Nat.le_refl _) (.cells #[.int .i64 k0, .int .i64 k1, .int .i64 k2, .slice A l.length c, .int .i64 a0, .int .i64 a1, .int .i64 a2, .int .i64 a3] 37)
        have hTa := hT.below hxa
        have hb0 := hbr.alloc hbr.size (.cells #[.int .i64 k0, .int .i64 k1, .int .i64 k2, .slice A l.length c, .int .i64 a0, .int .i64 a1, .int .i64 a2, .int .i64 a3] 37)
        have hB := Blk.new wr 37 #[.int .i64 k0, .int .i64 k1, .int .i64 k2, .slice A l.length c, .int .i64 a0, .int .i64 a1, .int .i64 a2, .int .i64 a3]
        have hl := hl0.kept ((Keep.refl (fun _ => False) wr).alloc (.cells #[.int .i64 k0, .int .i64 k1, .int .i64 k2, .slice A l.length c, .int .i64 a0, .int .i64 a1, .int .i64 a2, .int .i64 a3] 37)) (fun _ _ => id)
        have hnob : ¬ F wr.heap.size := fun e => by have := hT.2 _ e; omega
        have hD1a := hD1.below hxa
        have hD2a := hD2.below hxa
        obtain ⟨wob, hob⟩ : ∃ ob, wr.heap.size = ob := ⟨_, rfl⟩
        rw [hob] at hB hnob hmz
        have e0 := hB.cell 0
        have e1 := hB.cell 1
        have e2 := hB.cell 2
        have e3 := hB.cell 3
        have e4 := hB.cell 4
        have e5 := hB.cell 5
        have e6 := hB.cell 6
        have e7 := hB.cell 7
        simp only [List.getElem?_toArray, List.getElem?_cons_succ, List.getElem?_cons_zero] at e0 e1 e2 e3 e4 e5 e6 e7
        have hob1 : wob < (wr.alloc (.cells #[.int .i64 k0, .int .i64 k1, .int .i64 k2, .slice A l.length c, .int .i64 a0, .int .i64 a1, .int .i64 a2, .int .i64 a3] 37)).heap.size := hB.lt
        clear hT hl0 hD1 hD2 hxa hbr
        go_upto_block 2 with fail
        generalize wr.alloc (.cells #[.int .i64 k0, .int .i64 k1, .int .i64 k2, .slice A l.length c, .int .i64 a0, .int .i64 a1, .int .i64 a2, .int .i64 a3] 37) = w0 at *
        clear x0 x1 x2 x3 x4 x5 x6 x7 hob
        have hT := hTa
        have hD1 := hD1a
        have hD2 := hD2a
        clear hTa hD1a hD2a
        by_cases h1 : k0 = 1
        · as_aux_lemma =>
            subst h1
            have hak := ask_i hT k1 k2 wk1 wk2 A l.length c l hl hcap hcapm (by unfold maxLen; omega)
            obtain ⟨M, hM⟩ : ∃ M : Int, (mixOf 7 l : Int) = M := ⟨_, rfl⟩
            rw [hM] at hak
            obtain ⟨V, hV⟩ : ∃ V, vd cl k1 k2 M = V := ⟨_, rfl⟩
            have hvc := vd_cases cl k1 k2 M
            have hR3 : vr cl k1 k2 M = if V = 3 then (cl k1).g k2 else rq0 := by unfold vr; rw [hV]
            obtain ⟨R, hR⟩ : ∃ R, vr cl k1 k2 M = R := ⟨_, rfl⟩
            rw [hV, hR] at hak
            rw [hV] at hvc
            rw [hR] at hR3
            clear hR
            obtain ⟨R0, R1, R2, R3, R4, R5⟩ := R
            change Calls _ _ _ _ (fun e w' => e = .returned (.tuple #[.int .i64 V, .agg #[.int .i64 R2, .int .i64 R3, .int .i64 R4, .int .i64 R5]]) ∧ _) at hak
            go_wp2_with fail
            refine hak.mono ?_
            rintro e w5 ⟨rfl, F5, cl5, cs5, hT5, hk5, hF5, hto⟩
            have hMOo := hMO
            have hMI5 := hMO.out.1.ask hto
            have hOI5 := fun b hb => hMO.out.2.ask hto b hb
            rw [hV] at hOI5
            have hb5 := hb0.trans (hk5.below (B := w.heap.size) hb0.size (fun j hj e => by have := (hL j e).1; omega))
            have hz0 := hb0.size
            have hL5 : ∀ g, F5 g → w.heap.size ≤ g ∧ g ≠ m1 ∧ g ≠ m2 := fun g hg => (hF5 g hg).elim (hL g) (fun e => ⟨by omega, by omega, by omega⟩)
            have hB5 := hB.kept hk5 hnob
            have hD15 := hD1.kept hk5 (fun e => (hL _ e).2.1 rfl)
            have hD25 := hD2.kept hk5 (fun e => (hL _ e).2.2 rfl)
            have hxx := ((Below.refl w5.heap.size w5).alloc (Nat.le_refl _) (.cells #[.int .i64 R2, .int .i64 R3, .int .i64 R4, .int .i64 R5] 35)).alloc (by simp) (.cells #[.int .i64 k1, .int .i64 k2] 50)
            have hAB := (Blk.new w5 35 #[.int .i64 R2, .int .i64 R3, .int .i64 R4, .int .i64 R5]).alloc (.cells #[.int .i64 k1, .int .i64 k2] 50)
            have hKB := Blk.new (w5.alloc (.cells #[.int .i64 R2, .int .i64 R3, .int .i64 R4, .int .i64 R5] 35)) 50 #[.int .i64 k1, .int .i64 k2]
            rw [World.size_alloc] at hKB
            obtain ⟨ab, hab⟩ : ∃ ab, w5.heap.size = ab := ⟨_, rfl⟩
            have hz5 := hk5.size
            have hba : wob < ab := by omega
            rw [hab] at hAB hKB
            obtain ⟨kb, hkb⟩ : ∃ kb, ab + 1 = kb := ⟨_, rfl⟩
            rw [hkb] at hKB
            have hT7 := hT5.below hxx
            have hb7 := hb5.trans (hxx.mono hb5.size)
            have hD17 := hD15.below hxx
            have hD27 := hD25.below hxx
            have s1 := (hB5.alloc (.cells #[.int .i64 R2, .int .i64 R3, .int .i64 R4, .int .i64 R5] 35)).cell 1
            have s2 := (hB5.alloc (.cells #[.int .i64 R2, .int .i64 R3, .int .i64 R4, .int .i64 R5] 35)).cell 2
            simp only [List.getElem?_toArray, List.getElem?_cons_succ, List.getElem?_cons_zero] at s1 s2
            clear hak hT5 hb5 hB5 hT hB hD1 hD2 hD15 hD25 e1 e2 e3 hb0
            have hD1 := hD17
            have hD2 := hD27
            clear hD17 hD27
            have fr_put : ∀ b : Bool, (fun x y => if x = k1 ∧ y = k2 then Value.bool b else .bool (fr x y)) = fun x y => .bool (if x = k1 ∧ y = k2 then b else fr x y) := fun b => by
              funext x y
              by_cases e : x = k1 ∧ y = k2
              · rw [if_pos e, if_pos e]
              · rw [if_neg e, if_neg e]
            have hMO : ∀ b, b = (fr k1 k2 || decide (V = 1)) → Hid (MInv cl5 (k + 1) ∧ OI1 cl5 (fun x y => if x = k1 ∧ y = k2 then b else fr x y) th tv) := fun b hb => Lib.hid ⟨hMI5.1, hOI5 b hb⟩
            clear hMI5
            replace hMO := Lib.hid hMO
            have hnq := ans_neq
            go_upto_region 14 with fail
            generalize (w5.alloc (.cells #[.int .i64 R2, .int .i64 R3, .int .i64 R4, .int .i64 R5] 35)).alloc (.cells #[.int .i64 k1, .int .i64 k2] 50) = w7 at *
            have hq := hKB.cell 0
            have hq' := hKB.cell 1
            simp only [List.getElem?_toArray, List.getElem?_cons_succ, List.getElem?_cons_zero] at hq hq'
            have hMO2 := hMO.out
            clear hMO hOI5 s1 s2 hto
            by_cases hV1 : V = 1
            · subst hV1
              have hR0 : (⟨R0, R1, R2, R3, R4, R5⟩ : Rq) = rq0 := by rw [hR3]; rfl
              simp only [rq0, Rq.mk.injEq] at hR0
              obtain ⟨rfl, rfl, rfl, rfl, rfl, rfl⟩ := hR0
              have hfr : fr k1 k2 = false := by
                cases hf : fr k1 k2
                · rfl
                · have h8 := vd_new hV
                  rcases hMOo.out.2.fr_ k1 k2 hf with h9 | h9
                  · exact absurd h9 h8.2.2.1
                  · exact absurd h9 h8.2.2.2.1
              have hMO := hMO2
              clear hvc hR3 hV hMO2
              have hlf := hD1.look Try.underlying48 (zero_bool _) wk1 wk2
              try dsimp only at hlf
              rw [hfr] at hlf
              go_upto_region 16 with fail
              have hlf2 := (hD1.below (Below.refl w7.heap.size w7).drew).look Try.underlying48 (zero_bool _) wk1 wk2
              try dsimp only at hlf2
              rw [hfr] at hlf2
              obtain ⟨w8, hrun8, hD8, hk8⟩ := (hD1.below (Below.refl w7.heap.size w7).drew).upd Try.underlying48 (show N1 < maxLen by unfold maxLen; omega) wk1 wk2 (.bool true)
              have hD8' : DM (.bool false) w8 m1 (N1 + 1) (fun x y => .bool (if x = k1 ∧ y = k2 then true else fr x y)) (fun x y => if x = k1 ∧ y = k2 then true else hs x y) := by
                have h := hD8
                try dsimp only at h
                rw [fr_put] at h
                exact h
              have q0 := hKB.drew.cell 0
              have q1 := hKB.drew.cell 1
              simp only [List.getElem?_toArray, List.getElem?_cons_succ, List.getElem?_cons_zero] at q0 q1
              have sd : (fun W => W.cell? ⟨kb, 0, none⟩ = some (.int .i64 k1) ∧ W.cell? ⟨kb, 1, none⟩ = some (.int .i64 k2)) w7.drew := ⟨q0, q1⟩
              have sd2 : (fun W => W.cell? ⟨kb, 0, none⟩ = some (.int .i64 k1) ∧ W.cell? ⟨kb, 1, none⟩ = some (.int .i64 k2)) w8 := ⟨hk8.cell q0 (by dsimp only; omega), hk8.cell q1 (by dsimp only; omega)⟩
              have hd7 : Keep (fun i => i = m1) w7 w7.drew := (Keep.refl _ w7).drew
              have hk8' : Keep (fun i => i = m1) w7 w8 := hd7.trans hk8 (fun _ _ e => e)
              have hKB8 := hKB.kept hk8' (by omega)
              have hAB8 := hAB.kept hk8' (by omega)
              have hT8 := hT7.kept hk8' (fun g hg e => (hL5 g hg).2.1 e)
              have hb8 := hb7.trans (hk8'.below (B := w.heap.size) hb7.size (fun j hj e => by omega))
              have hD28 := hD2.kept hk8' (fun e => hm12 e.symm)
              have p0 := hKB8.cell 0
              have p1 := hKB8.cell 1
              simp only [List.getElem?_toArray, List.getElem?_cons_succ, List.getElem?_cons_zero] at p0 p1
              refine wp_region_held_drew (S := (fun W => W.cell? ⟨kb, 0, none⟩ = some (.int .i64 k1) ∧ W.cell? ⟨kb, 1, none⟩ = some (.int .i64 k2))) (by kernel_rfl) sd (fun hHeld => ?_)
              generalize w7.drew = wz at *
              clear hlf
              (refine tkI 0 (by (simp only [List.getElem?_toArray, List.getElem?_cons_succ, List.getElem?_cons_zero]; rfl)) (by kernel_rfl) (by kernel_rfl) (by kernel_rfl) (by exact fun _ _ _ h => h) (by rfl) (by (intro w hSw; (try dsimp only at hSw); go_simp <;> with_reducible rfl)) (by assumption) ?_; try simp only [Act.put, List.setIfInBounds_toArray, List.set_cons_zero, List.set_cons_succ])
              (refine tkI 1 (by (simp only [List.getElem?_toArray, List.getElem?_cons_succ, List.getElem?_cons_zero]; rfl)) (by kernel_rfl) (by kernel_rfl) (by kernel_rfl) (by exact fun _ _ _ h => h) (by rfl) (by (intro w hSw; (try dsimp only at hSw); go_simp <;> with_reducible rfl)) (by assumption) ?_; try simp only [Act.put, List.setIfInBounds_toArray, List.set_cons_zero, List.set_cons_succ])
              (refine tkI 2 (by (simp only [List.getElem?_toArray, List.getElem?_cons_succ, List.getElem?_cons_zero]; rfl)) (by kernel_rfl) (by kernel_rfl) (by kernel_rfl) (by exact fun _ _ _ h => h) (by rfl) (by (intro w hSw; (try dsimp only at hSw); go_simp <;> with_reducible rfl)) (by assumption) ?_; try simp only [Act.put, List.setIfInBounds_toArray, List.set_cons_zero, List.set_cons_succ])
              (refine tkI 3 (by (simp only [List.getElem?_toArray, List.getElem?_cons_succ, List.getElem?_cons_zero]; rfl)) (by kernel_rfl) (by kernel_rfl) (by kernel_rfl) (by exact fun _ _ _ h => h) (by rfl) (by (intro w hSw; (try dsimp only at hSw); go_simp <;> with_reducible rfl)) (by assumption) ?_; try simp only [Act.put, List.setIfInBounds_toArray, List.set_cons_zero, List.set_cons_succ])
              refine wpAnyH_ready (rs := [4]) (by kernel_rfl) (by simp) ?_
              refine AllReadyH.cons (by (simp only [List.getElem?_toArray, List.getElem?_cons_succ, List.getElem?_cons_zero]; rfl)) (fun K hK => ?_) AllReadyH.nil
              go_simp
              refine hK.out _ _ sd (fun hHeld2 => ?_)
              clear hK K hHeld
              have hHeld := hHeld2
              clear hHeld2
              try simp only [Act.put, List.setIfInBounds_toArray, List.set_cons_zero, List.set_cons_succ]
              (refine tkI 5 (by (simp only [List.getElem?_toArray, List.getElem?_cons_succ, List.getElem?_cons_zero]; rfl)) (by kernel_rfl) (by kernel_rfl) (by kernel_rfl) (by exact fun _ _ _ h => h) (by rfl) (by (intro w hSw; (try dsimp only at hSw); go_simp <;> with_reducible rfl)) (by assumption) ?_; try simp only [Act.put, List.setIfInBounds_toArray, List.set_cons_zero, List.set_cons_succ])
              (refine tkI 6 (by (simp only [List.getElem?_toArray, List.getElem?_cons_succ, List.getElem?_cons_zero]; rfl)) (by kernel_rfl) (by kernel_rfl) (by kernel_rfl) (by exact fun _ _ _ h => h) (by rfl) (by (intro w hSw; (try dsimp only at hSw); go_simp <;> with_reducible rfl)) (by assumption) ?_; try simp only [Act.put, List.setIfInBounds_toArray, List.set_cons_zero, List.set_cons_succ])
              (refine tkI 7 (by (simp only [List.getElem?_toArray, List.getElem?_cons_succ, List.getElem?_cons_zero]; rfl)) (by kernel_rfl) (by kernel_rfl) (by kernel_rfl) (by exact fun _ _ _ h => h) (by rfl) (by (intro w hSw; (try dsimp only at hSw); go_simp <;> with_reducible rfl)) (by assumption) ?_; try simp only [Act.put, List.setIfInBounds_toArray, List.set_cons_zero, List.set_cons_succ])
              (refine tkI 8 (by (simp only [List.getElem?_toArray, List.getElem?_cons_succ, List.getElem?_cons_zero]; rfl)) (by kernel_rfl) (by kernel_rfl) (by kernel_rfl) (by exact fun _ _ _ h => h) (by rfl) (by (intro w hSw; (try dsimp only at hSw); go_simp <;> with_reducible rfl)) (by assumption) ?_; try simp only [Act.put, List.setIfInBounds_toArray, List.set_cons_zero, List.set_cons_succ])
              refine wpAnyH_ready (rs := [9]) (by kernel_rfl) (by simp) ?_
              refine AllReadyH.cons (by (simp only [List.getElem?_toArray, List.getElem?_cons_succ, List.getElem?_cons_zero]; rfl)) (fun K hK => ?_) AllReadyH.nil
              go_simp
              refine hK.out _ _ sd2 (fun hHeld2 => ?_)
              clear hK K hHeld
              clear hHeld2
              try simp only [Act.put, List.setIfInBounds_toArray, List.set_cons_zero, List.set_cons_succ]
              refine wpAnyH_done (by kernel_rfl) ?_ _
              have hlt2 := hD28.look_ok Try.underlying49 (zero_ans _) wk1 wk2
              try dsimp only at hlt2
              clear hlf2 sd sd2 q0 q1
              obtain ⟨T, hTT⟩ : ∃ T, tv k1 k2 = T := ⟨_, rfl⟩
              obtain ⟨H, hHH⟩ : ∃ H, th k1 k2 = H := ⟨_, rfl⟩
              rw [hTT, hHH] at hlt2
              skip
              obtain ⟨T0, T1, T2, T3, T4, T5⟩ := T
              change (Instr.lookup _ _ _ _).run _ _ = Result.ok (.tuple #[.agg #[.int .i64 T2, .int .i64 T3, .int .i64 T4, .int .i64 T5], .bool H]) _ at hlt2
              clear hTT hHH
              have hAB9 := hAB8.alloc (.cells #[.int .i64 T2, .int .i64 T3, .int .i64 T4, .int .i64 T5] 35)
              have y0 := hAB9.cell 0
              have y1 := hAB9.cell 1
              have y2 := hAB9.cell 2
              have y3 := hAB9.cell 3
              simp only [List.getElem?_toArray, List.getElem?_cons_succ, List.getElem?_cons_zero] at y0 y1 y2 y3
              go_wp2
              go_roundw
              case measure => simp [intOf]; omega
              case rel => exact ⟨(by first | omega | (have := hD28.lt; simp; omega) | (have := hb0.size; omega) | (have := hT8.1.lt; have := hk8'.size; simp; omega) | (have := hk8.size; have := hk5.size; omega) | (have := hk5.size; omega)), k + 1, F5, cl5, cs5, _, th, _, tv, by go_num, by omega, by omega, hT8.below ((Below.refl w8.heap.size w8).alloc (Nat.le_refl _) _), hL5, hb8.alloc hb8.size _, ⟨N1 + 1, by omega, hD8'.below ((Below.refl w8.heap.size w8).alloc (Nat.le_refl _) _)⟩, ⟨N2, by omega, hD28.below ((Below.refl w8.heap.size w8).alloc (Nat.le_refl _) _)⟩, hMO true (by rw [hfr]; rfl)⟩
            have g1 : (V == 1) = false := beq_eq_false_iff_ne.2 hV1
            by_cases hV3 : V = 3
            · subst hV3
              have hmem : k2 ∈ (cl k1).ns ∧ ((cl k1).g k2).d = true := by
                rcases hvc with ⟨h9, _⟩ | ⟨_, _, ⟨h9, _⟩ | ⟨_, ⟨h9, _⟩ | ⟨_, h9⟩ | ⟨h9, _⟩ | ⟨h9, _⟩ | ⟨h9, _⟩⟩⟩
                all_goals first | exact h9 | exact absurd h9 (by decide)
              have htd := hMOo.out.2.td k1 k2 hmem.1 hmem.2
              rw [if_pos rfl] at hR3
              rw [← hR3] at htd
              have hMO := hMO2
              clear hvc hR3 hV hmem hMO2
              cases hfr : fr k1 k2
              · skip
                have hlf := hD1.look Try.underlying48 (zero_bool _) wk1 wk2
                try dsimp only at hlf
                rw [hfr] at hlf
                go_upto_region 16 with fail
                have hlf2 := (hD1.below (Below.refl w7.heap.size w7).drew).look Try.underlying48 (zero_bool _) wk1 wk2
                try dsimp only at hlf2
                rw [hfr] at hlf2
                obtain ⟨w8, hrun8, hD8, hk8⟩ := (hD1.below (Below.refl w7.heap.size w7).drew).upd Try.underlying48 (show N1 < maxLen by unfold maxLen; omega) wk1 wk2 (.bool false)
                have hD8' : DM (.bool false) w8 m1 (N1 + 1) (fun x y => .bool (if x = k1 ∧ y = k2 then false else fr x y)) (fun x y => if x = k1 ∧ y = k2 then true else hs x y) := by
                  have h := hD8
                  try dsimp only at h
                  rw [fr_put] at h
                  exact h
                have q0 := hKB.drew.cell 0
                have q1 := hKB.drew.cell 1
                simp only [List.getElem?_toArray, List.getElem?_cons_succ, List.getElem?_cons_zero] at q0 q1
                have sd : (fun W => W.cell? ⟨kb, 0, none⟩ = some (.int .i64 k1) ∧ W.cell? ⟨kb, 1, none⟩ = some (.int .i64 k2)) w7.drew := ⟨q0, q1⟩
                have sd2 : (fun W => W.cell? ⟨kb, 0, none⟩ = some (.int .i64 k1) ∧ W.cell? ⟨kb, 1, none⟩ = some (.int .i64 k2)) w8 := ⟨hk8.cell q0 (by dsimp only; omega), hk8.cell q1 (by dsimp only; omega)⟩
                have hd7 : Keep (fun i => i = m1) w7 w7.drew := (Keep.refl _ w7).drew
                have hk8' : Keep (fun i => i = m1) w7 w8 := hd7.trans hk8 (fun _ _ e => e)
                have hKB8 := hKB.kept hk8' (by omega)
                have hAB8 := hAB.kept hk8' (by omega)
                have hT8 := hT7.kept hk8' (fun g hg e => (hL5 g hg).2.1 e)
                have hb8 := hb7.trans (hk8'.below (B := w.heap.size) hb7.size (fun j hj e => by omega))
                have hD28 := hD2.kept hk8' (fun e => hm12 e.symm)
                have p0 := hKB8.cell 0
                have p1 := hKB8.cell 1
                simp only [List.getElem?_toArray, List.getElem?_cons_succ, List.getElem?_cons_zero] at p0 p1
                refine wp_region_held_drew (S := (fun W => W.cell? ⟨kb, 0, none⟩ = some (.int .i64 k1) ∧ W.cell? ⟨kb, 1, none⟩ = some (.int .i64 k2))) (by kernel_rfl) sd (fun hHeld => ?_)
                generalize w7.drew = wz at *
                clear hlf
                (refine tkI 0 (by (simp only [List.getElem?_toArray, List.getElem?_cons_succ, List.getElem?_cons_zero]; rfl)) (by kernel_rfl) (by kernel_rfl) (by kernel_rfl) (by exact fun _ _ _ h => h) (by rfl) (by (intro w hSw; (try dsimp only at hSw); go_simp <;> with_reducible rfl)) (by assumption) ?_; try simp only [Act.put, List.setIfInBounds_toArray, List.set_cons_zero, List.set_cons_succ])
                (refine tkI 1 (by (simp only [List.getElem?_toArray, List.getElem?_cons_succ, List.getElem?_cons_zero]; rfl)) (by kernel_rfl) (by kernel_rfl) (by kernel_rfl) (by exact fun _ _ _ h => h) (by rfl) (by (intro w hSw; (try dsimp only at hSw); go_simp <;> with_reducible rfl)) (by assumption) ?_; try simp only [Act.put, List.setIfInBounds_toArray, List.set_cons_zero, List.set_cons_succ])
                (refine tkI 2 (by (simp only [List.getElem?_toArray, List.getElem?_cons_succ, List.getElem?_cons_zero]; rfl)) (by kernel_rfl) (by kernel_rfl) (by kernel_rfl) (by exact fun _ _ _ h => h) (by rfl) (by (intro w hSw; (try dsimp only at hSw); go_simp <;> with_reducible rfl)) (by assumption) ?_; try simp only [Act.put, List.setIfInBounds_toArray, List.set_cons_zero, List.set_cons_succ])
                (refine tkI 3 (by (simp only [List.getElem?_toArray, List.getElem?_cons_succ, List.getElem?_cons_zero]; rfl)) (by kernel_rfl) (by kernel_rfl) (by kernel_rfl) (by exact fun _ _ _ h => h) (by rfl) (by (intro w hSw; (try dsimp only at hSw); go_simp <;> with_reducible rfl)) (by assumption) ?_; try simp only [Act.put, List.setIfInBounds_toArray, List.set_cons_zero, List.set_cons_succ])
                refine wpAnyH_ready (rs := [4]) (by kernel_rfl) (by simp) ?_
                refine AllReadyH.cons (by (simp only [List.getElem?_toArray, List.getElem?_cons_succ, List.getElem?_cons_zero]; rfl)) (fun K hK => ?_) AllReadyH.nil
                go_simp
                refine hK.out _ _ sd (fun hHeld2 => ?_)
                clear hK K hHeld
                have hHeld := hHeld2
                clear hHeld2
                try simp only [Act.put, List.setIfInBounds_toArray, List.set_cons_zero, List.set_cons_succ]
                (refine tkI 5 (by (simp only [List.getElem?_toArray, List.getElem?_cons_succ, List.getElem?_cons_zero]; rfl)) (by kernel_rfl) (by kernel_rfl) (by kernel_rfl) (by exact fun _ _ _ h => h) (by rfl) (by (intro w hSw; (try dsimp only at hSw); go_simp <;> with_reducible rfl)) (by assumption) ?_; try simp only [Act.put, List.setIfInBounds_toArray, List.set_cons_zero, List.set_cons_succ])
                (refine tkI 6 (by (simp only [List.getElem?_toArray, List.getElem?_cons_succ, List.getElem?_cons_zero]; rfl)) (by kernel_rfl) (by kernel_rfl) (by kernel_rfl) (by exact fun _ _ _ h => h) (by rfl) (by (intro w hSw; (try dsimp only at hSw); go_simp <;> with_reducible rfl)) (by assumption) ?_; try simp only [Act.put, List.setIfInBounds_toArray, List.set_cons_zero, List.set_cons_succ])
                (refine tkI 7 (by (simp only [List.getElem?_toArray, List.getElem?_cons_succ, List.getElem?_cons_zero]; rfl)) (by kernel_rfl) (by kernel_rfl) (by kernel_rfl) (by exact fun _ _ _ h => h) (by rfl) (by (intro w hSw; (try dsimp only at hSw); go_simp <;> with_reducible rfl)) (by assumption) ?_; try simp only [Act.put, List.setIfInBounds_toArray, List.set_cons_zero, List.set_cons_succ])
                (refine tkI 8 (by (simp only [List.getElem?_toArray, List.getElem?_cons_succ, List.getElem?_cons_zero]; rfl)) (by kernel_rfl) (by kernel_rfl) (by kernel_rfl) (by exact fun _ _ _ h => h) (by rfl) (by (intro w hSw; (try dsimp only at hSw); go_simp <;> with_reducible rfl)) (by assumption) ?_; try simp only [Act.put, List.setIfInBounds_toArray, List.set_cons_zero, List.set_cons_succ])
                refine wpAnyH_ready (rs := [9]) (by kernel_rfl) (by simp) ?_
                refine AllReadyH.cons (by (simp only [List.getElem?_toArray, List.getElem?_cons_succ, List.getElem?_cons_zero]; rfl)) (fun K hK => ?_) AllReadyH.nil
                go_simp
                refine hK.out _ _ sd2 (fun hHeld2 => ?_)
                clear hK K hHeld
                clear hHeld2
                try simp only [Act.put, List.setIfInBounds_toArray, List.set_cons_zero, List.set_cons_succ]
                refine wpAnyH_done (by kernel_rfl) ?_ _
                have hlt2 := hD28.look_ok Try.underlying49 (zero_ans _) wk1 wk2
                try dsimp only at hlt2
                clear hlf2 sd sd2 q0 q1
                obtain ⟨T, hTT⟩ : ∃ T, tv k1 k2 = T := ⟨_, rfl⟩
                obtain ⟨H, hHH⟩ : ∃ H, th k1 k2 = H := ⟨_, rfl⟩
                rw [hTT, hHH] at hlt2
                rw [hTT, hHH] at htd
                obtain ⟨T0, T1, T2, T3, T4, T5⟩ := T
                change (Instr.lookup _ _ _ _).run _ _ = Result.ok (.tuple #[.agg #[.int .i64 T2, .int .i64 T3, .int .i64 T4, .int .i64 T5], .bool H]) _ at hlt2
                obtain ⟨hH, htd⟩ := htd
                subst hH
                simp only [Rq.a, Value.agg.injEq, Array.mk.injEq, List.cons.injEq, Value.int.injEq, true_and, and_true] at htd
                obtain ⟨rfl, rfl, rfl, rfl⟩ := htd
                clear hTT hHH
                have hAB9 := hAB8.alloc (.cells #[.int .i64 T2, .int .i64 T3, .int .i64 T4, .int .i64 T5] 35)
                have y0 := hAB9.cell 0
                have y1 := hAB9.cell 1
                have y2 := hAB9.cell 2
                have y3 := hAB9.cell 3
                simp only [List.getElem?_toArray, List.getElem?_cons_succ, List.getElem?_cons_zero] at y0 y1 y2 y3
                go_wp2
                go_roundw
                case measure => simp [intOf]; omega
                case rel => exact ⟨(by first | omega | (have := hD28.lt; simp; omega) | (have := hb0.size; omega) | (have := hT8.1.lt; have := hk8'.size; simp; omega) | (have := hk8.size; have := hk5.size; omega) | (have := hk5.size; omega)), k + 1, F5, cl5, cs5, _, th, _, tv, by go_num, by omega, by omega, hT8.below ((Below.refl w8.heap.size w8).alloc (Nat.le_refl _) _), hL5, hb8.alloc hb8.size _, ⟨N1 + 1, by omega, hD8'.below ((Below.refl w8.heap.size w8).alloc (Nat.le_refl _) _)⟩, ⟨N2, by omega, hD28.below ((Below.refl w8.heap.size w8).alloc (Nat.le_refl _) _)⟩, hMO false (by rw [hfr]; rfl)⟩
              · skip
                have hlf := hD1.look Try.underlying48 (zero_bool _) wk1 wk2
                try dsimp only at hlf
                rw [hfr] at hlf
                go_upto_region 16 with fail
                have hlf2 := (hD1.below (Below.refl w7.heap.size w7).drew).look Try.underlying48 (zero_bool _) wk1 wk2
                try dsimp only at hlf2
                rw [hfr] at hlf2
                obtain ⟨w8, hrun8, hD8, hk8⟩ := (hD1.below (Below.refl w7.heap.size w7).drew).upd Try.underlying48 (show N1 < maxLen by unfold maxLen; omega) wk1 wk2 (.bool true)
                have hD8' : DM (.bool false) w8 m1 (N1 + 1) (fun x y => .bool (if x = k1 ∧ y = k2 then true else fr x y)) (fun x y => if x = k1 ∧ y = k2 then true else hs x y) := by
                  have h := hD8
                  try dsimp only at h
                  rw [fr_put] at h
                  exact h
                have q0 := hKB.drew.cell 0
                have q1 := hKB.drew.cell 1
                simp only [List.getElem?_toArray, List.getElem?_cons_succ, List.getElem?_cons_zero] at q0 q1
                have sd : (fun W => W.cell? ⟨kb, 0, none⟩ = some (.int .i64 k1) ∧ W.cell? ⟨kb, 1, none⟩ = some (.int .i64 k2)) w7.drew := ⟨q0, q1⟩
                have sd2 : (fun W => W.cell? ⟨kb, 0, none⟩ = some (.int .i64 k1) ∧ W.cell? ⟨kb, 1, none⟩ = some (.int .i64 k2)) w8 := ⟨hk8.cell q0 (by dsimp only; omega), hk8.cell q1 (by dsimp only; omega)⟩
                have hd7 : Keep (fun i => i = m1) w7 w7.drew := (Keep.refl _ w7).drew
                have hk8' : Keep (fun i => i = m1) w7 w8 := hd7.trans hk8 (fun _ _ e => e)
                have hKB8 := hKB.kept hk8' (by omega)
                have hAB8 := hAB.kept hk8' (by omega)
                have hT8 := hT7.kept hk8' (fun g hg e => (hL5 g hg).2.1 e)
                have hb8 := hb7.trans (hk8'.below (B := w.heap.size) hb7.size (fun j hj e => by omega))
                have hD28 := hD2.kept hk8' (fun e => hm12 e.symm)
                have p0 := hKB8.cell 0
                have p1 := hKB8.cell 1
                simp only [List.getElem?_toArray, List.getElem?_cons_succ, List.getElem?_cons_zero] at p0 p1
                refine wp_region_held_drew (S := (fun W => W.cell? ⟨kb, 0, none⟩ = some (.int .i64 k1) ∧ W.cell? ⟨kb, 1, none⟩ = some (.int .i64 k2))) (by kernel_rfl) sd (fun hHeld => ?_)
                generalize w7.drew = wz at *
                clear hlf
                (refine tkI 0 (by (simp only [List.getElem?_toArray, List.getElem?_cons_succ, List.getElem?_cons_zero]; rfl)) (by kernel_rfl) (by kernel_rfl) (by kernel_rfl) (by exact fun _ _ _ h => h) (by rfl) (by (intro w hSw; (try dsimp only at hSw); go_simp <;> with_reducible rfl)) (by assumption) ?_; try simp only [Act.put, List.setIfInBounds_toArray, List.set_cons_zero, List.set_cons_succ])
                (refine tkI 1 (by (simp only [List.getElem?_toArray, List.getElem?_cons_succ, List.getElem?_cons_zero]; rfl)) (by kernel_rfl) (by kernel_rfl) (by kernel_rfl) (by exact fun _ _ _ h => h) (by rfl) (by (intro w hSw; (try dsimp only at hSw); go_simp <;> with_reducible rfl)) (by assumption) ?_; try simp only [Act.put, List.setIfInBounds_toArray, List.set_cons_zero, List.set_cons_succ])
                (refine tkI 2 (by (simp only [List.getElem?_toArray, List.getElem?_cons_succ, List.getElem?_cons_zero]; rfl)) (by kernel_rfl) (by kernel_rfl) (by kernel_rfl) (by exact fun _ _ _ h => h) (by rfl) (by (intro w hSw; (try dsimp only at hSw); go_simp <;> with_reducible rfl)) (by assumption) ?_; try simp only [Act.put, List.setIfInBounds_toArray, List.set_cons_zero, List.set_cons_succ])
                (refine tkI 3 (by (simp only [List.getElem?_toArray, List.getElem?_cons_succ, List.getElem?_cons_zero]; rfl)) (by kernel_rfl) (by kernel_rfl) (by kernel_rfl) (by exact fun _ _ _ h => h) (by rfl) (by (intro w hSw; (try dsimp only at hSw); go_simp <;> with_reducible rfl)) (by assumption) ?_; try simp only [Act.put, List.setIfInBounds_toArray, List.set_cons_zero, List.set_cons_succ])
                refine wpAnyH_ready (rs := [4]) (by kernel_rfl) (by simp) ?_
                refine AllReadyH.cons (by (simp only [List.getElem?_toArray, List.getElem?_cons_succ, List.getElem?_cons_zero]; rfl)) (fun K hK => ?_) AllReadyH.nil
                go_simp
                refine hK.out _ _ sd (fun hHeld2 => ?_)
                clear hK K hHeld
                have hHeld := hHeld2
                clear hHeld2
                try simp only [Act.put, List.setIfInBounds_toArray, List.set_cons_zero, List.set_cons_succ]
                (refine tkI 5 (by (simp only [List.getElem?_toArray, List.getElem?_cons_succ, List.getElem?_cons_zero]; rfl)) (by kernel_rfl) (by kernel_rfl) (by kernel_rfl) (by exact fun _ _ _ h => h) (by rfl) (by (intro w hSw; (try dsimp only at hSw); go_simp <;> with_reducible rfl)) (by assumption) ?_; try simp only [Act.put, List.setIfInBounds_toArray, List.set_cons_zero, List.set_cons_succ])
                (refine tkIN 6 (by (simp only [List.getElem?_toArray, List.getElem?_cons_succ, List.getElem?_cons_zero]; rfl)) (by kernel_rfl) (by kernel_rfl) (by kernel_rfl) (by exact fun _ _ _ h => h) (by rfl) (by assumption) ?_; try simp only [Act.put, List.setIfInBounds_toArray, List.set_cons_zero, List.set_cons_succ])
                (refine tkIN 7 (by (simp only [List.getElem?_toArray, List.getElem?_cons_succ, List.getElem?_cons_zero]; rfl)) (by kernel_rfl) (by kernel_rfl) (by kernel_rfl) (by exact fun _ _ _ h => h) (by rfl) (by assumption) ?_; try simp only [Act.put, List.setIfInBounds_toArray, List.set_cons_zero, List.set_cons_succ])
                (refine tkI 8 (by (simp only [List.getElem?_toArray, List.getElem?_cons_succ, List.getElem?_cons_zero]; rfl)) (by kernel_rfl) (by kernel_rfl) (by kernel_rfl) (by exact fun _ _ _ h => h) (by rfl) (by (intro w hSw; (try dsimp only at hSw); go_simp <;> with_reducible rfl)) (by assumption) ?_; try simp only [Act.put, List.setIfInBounds_toArray, List.set_cons_zero, List.set_cons_succ])
                refine wpAnyH_ready (rs := [9]) (by kernel_rfl) (by simp) ?_
                refine AllReadyH.cons (by (simp only [List.getElem?_toArray, List.getElem?_cons_succ, List.getElem?_cons_zero]; rfl)) (fun K hK => ?_) AllReadyH.nil
                go_simp
                refine hK.out _ _ sd2 (fun hHeld2 => ?_)
                clear hK K hHeld
                clear hHeld2
                try simp only [Act.put, List.setIfInBounds_toArray, List.set_cons_zero, List.set_cons_succ]
                refine wpAnyH_done (by kernel_rfl) ?_ _
                have hlt2 := hD28.look_ok Try.underlying49 (zero_ans _) wk1 wk2
                try dsimp only at hlt2
                clear hlf2 sd sd2 q0 q1
                obtain ⟨T, hTT⟩ : ∃ T, tv k1 k2 = T := ⟨_, rfl⟩
                obtain ⟨H, hHH⟩ : ∃ H, th k1 k2 = H := ⟨_, rfl⟩
                rw [hTT, hHH] at hlt2
                rw [hTT, hHH] at htd
                obtain ⟨T0, T1, T2, T3, T4, T5⟩ := T
                change (Instr.lookup _ _ _ _).run _ _ = Result.ok (.tuple #[.agg #[.int .i64 T2, .int .i64 T3, .int .i64 T4, .int .i64 T5], .bool H]) _ at hlt2
                obtain ⟨hH, htd⟩ := htd
                subst hH
                simp only [Rq.a, Value.agg.injEq, Array.mk.injEq, List.cons.injEq, Value.int.injEq, true_and, and_true] at htd
                obtain ⟨rfl, rfl, rfl, rfl⟩ := htd
                clear hTT hHH
                have hAB9 := hAB8.alloc (.cells #[.int .i64 T2, .int .i64 T3, .int .i64 T4, .int .i64 T5] 35)
                have y0 := hAB9.cell 0
                have y1 := hAB9.cell 1
                have y2 := hAB9.cell 2
                have y3 := hAB9.cell 3
                simp only [List.getElem?_toArray, List.getElem?_cons_succ, List.getElem?_cons_zero] at y0 y1 y2 y3
                go_wp2
                go_roundw
                case measure => simp [intOf]; omega
                case rel => exact ⟨(by first | omega | (have := hD28.lt; simp; omega) | (have := hb0.size; omega) | (have := hT8.1.lt; have := hk8'.size; simp; omega) | (have := hk8.size; have := hk5.size; omega) | (have := hk5.size; omega)), k + 1, F5, cl5, cs5, _, th, _, tv, by go_num, by omega, by omega, hT8.below ((Below.refl w8.heap.size w8).alloc (Nat.le_refl _) _), hL5, hb8.alloc hb8.size _, ⟨N1 + 1, by omega, hD8'.below ((Below.refl w8.heap.size w8).alloc (Nat.le_refl _) _)⟩, ⟨N2, by omega, hD28.below ((Below.refl w8.heap.size w8).alloc (Nat.le_refl _) _)⟩, hMO true (by rw [hfr]; rfl)⟩
            have g3 : (V == 3) = false := beq_eq_false_iff_ne.2 hV3
            have g4 : (V != 3) = true := bne_iff_ne.2 hV3
            have hR0 : (⟨R0, R1, R2, R3, R4, R5⟩ : Rq) = rq0 := by rw [hR3, if_neg hV3]
            simp only [rq0, Rq.mk.injEq] at hR0
            obtain ⟨rfl, rfl, rfl, rfl, rfl, rfl⟩ := hR0
            have hMO : ∀ b, b = fr k1 k2 → Hid (MInv cl5 (k + 1) ∧ OI1 cl5 (fun x y => if x = k1 ∧ y = k2 then b else fr x y) th tv) := fun b hb => hMO2 b (by rw [hb, decide_eq_false hV1, Bool.or_false])
            clear hvc hR3 hV hMO2 hV1 hV3
            cases hfr : fr k1 k2
            · skip
              have hlf := hD1.look Try.underlying48 (zero_bool _) wk1 wk2
              try dsimp only at hlf
              rw [hfr] at hlf
              go_upto_region 16 with fail
              have hlf2 := (hD1.below (Below.refl w7.heap.size w7).drew).look Try.underlying48 (zero_bool _) wk1 wk2
              try dsimp only at hlf2
              rw [hfr] at hlf2
              obtain ⟨w8, hrun8, hD8, hk8⟩ := (hD1.below (Below.refl w7.heap.size w7).drew).upd Try.underlying48 (show N1 < maxLen by unfold maxLen; omega) wk1 wk2 (.bool false)
              have hD8' : DM (.bool false) w8 m1 (N1 + 1) (fun x y => .bool (if x = k1 ∧ y = k2 then false else fr x y)) (fun x y => if x = k1 ∧ y = k2 then true else hs x y) := by
                have h := hD8
                try dsimp only at h
                rw [fr_put] at h
                exact h
              have q0 := hKB.drew.cell 0
              have q1 := hKB.drew.cell 1
              simp only [List.getElem?_toArray, List.getElem?_cons_succ, List.getElem?_cons_zero] at q0 q1
              have sd : (fun W => W.cell? ⟨kb, 0, none⟩ = some (.int .i64 k1) ∧ W.cell? ⟨kb, 1, none⟩ = some (.int .i64 k2)) w7.drew := ⟨q0, q1⟩
              have sd2 : (fun W => W.cell? ⟨kb, 0, none⟩ = some (.int .i64 k1) ∧ W.cell? ⟨kb, 1, none⟩ = some (.int .i64 k2)) w8 := ⟨hk8.cell q0 (by dsimp only; omega), hk8.cell q1 (by dsimp only; omega)⟩
              have hd7 : Keep (fun i => i = m1) w7 w7.drew := (Keep.refl _ w7).drew
              have hk8' : Keep (fun i => i = m1) w7 w8 := hd7.trans hk8 (fun _ _ e => e)
              have hKB8 := hKB.kept hk8' (by omega)
              have hAB8 := hAB.kept hk8' (by omega)
              have hT8 := hT7.kept hk8' (fun g hg e => (hL5 g hg).2.1 e)
              have hb8 := hb7.trans (hk8'.below (B := w.heap.size) hb7.size (fun j hj e => by omega))
              have hD28 := hD2.kept hk8' (fun e => hm12 e.symm)
              have p0 := hKB8.cell 0
              have p1 := hKB8.cell 1
              simp only [List.getElem?_toArray, List.getElem?_cons_succ, List.getElem?_cons_zero] at p0 p1
              refine wp_region_held_drew (S := (fun W => W.cell? ⟨kb, 0, none⟩ = some (.int .i64 k1) ∧ W.cell? ⟨kb, 1, none⟩ = some (.int .i64 k2))) (by kernel_rfl) sd (fun hHeld => ?_)
              generalize w7.drew = wz at *
              clear hlf
              (refine tkI 0 (by (simp only [List.getElem?_toArray, List.getElem?_cons_succ, List.getElem?_cons_zero]; rfl)) (by kernel_rfl) (by kernel_rfl) (by kernel_rfl) (by exact fun _ _ _ h => h) (by rfl) (by (intro w hSw; (try dsimp only at hSw); go_simp <;> with_reducible rfl)) (by assumption) ?_; try simp only [Act.put, List.setIfInBounds_toArray, List.set_cons_zero, List.set_cons_succ])
              (refine tkI 1 (by (simp only [List.getElem?_toArray, List.getElem?_cons_succ, List.getElem?_cons_zero]; rfl)) (by kernel_rfl) (by kernel_rfl) (by kernel_rfl) (by exact fun _ _ _ h => h) (by rfl) (by (intro w hSw; (try dsimp only at hSw); go_simp <;> with_reducible rfl)) (by assumption) ?_; try simp only [Act.put, List.setIfInBounds_toArray, List.set_cons_zero, List.set_cons_succ])
              (refine tkI 2 (by (simp only [List.getElem?_toArray, List.getElem?_cons_succ, List.getElem?_cons_zero]; rfl)) (by kernel_rfl) (by kernel_rfl) (by kernel_rfl) (by exact fun _ _ _ h => h) (by rfl) (by (intro w hSw; (try dsimp only at hSw); go_simp <;> with_reducible rfl)) (by assumption) ?_; try simp only [Act.put, List.setIfInBounds_toArray, List.set_cons_zero, List.set_cons_succ])
              (refine tkI 3 (by (simp only [List.getElem?_toArray, List.getElem?_cons_succ, List.getElem?_cons_zero]; rfl)) (by kernel_rfl) (by kernel_rfl) (by kernel_rfl) (by exact fun _ _ _ h => h) (by rfl) (by (intro w hSw; (try dsimp only at hSw); go_simp <;> with_reducible rfl)) (by assumption) ?_; try simp only [Act.put, List.setIfInBounds_toArray, List.set_cons_zero, List.set_cons_succ])
              refine wpAnyH_ready (rs := [4]) (by kernel_rfl) (by simp) ?_
              refine AllReadyH.cons (by (simp only [List.getElem?_toArray, List.getElem?_cons_succ, List.getElem?_cons_zero]; rfl)) (fun K hK => ?_) AllReadyH.nil
              go_simp
              refine hK.out _ _ sd (fun hHeld2 => ?_)
              clear hK K hHeld
              have hHeld := hHeld2
              clear hHeld2
              try simp only [Act.put, List.setIfInBounds_toArray, List.set_cons_zero, List.set_cons_succ]
              (refine tkI 5 (by (simp only [List.getElem?_toArray, List.getElem?_cons_succ, List.getElem?_cons_zero]; rfl)) (by kernel_rfl) (by kernel_rfl) (by kernel_rfl) (by exact fun _ _ _ h => h) (by rfl) (by (intro w hSw; (try dsimp only at hSw); go_simp <;> with_reducible rfl)) (by assumption) ?_; try simp only [Act.put, List.setIfInBounds_toArray, List.set_cons_zero, List.set_cons_succ])
              (refine tkI 6 (by (simp only [List.getElem?_toArray, List.getElem?_cons_succ, List.getElem?_cons_zero]; rfl)) (by kernel_rfl) (by kernel_rfl) (by kernel_rfl) (by exact fun _ _ _ h => h) (by rfl) (by (intro w hSw; (try dsimp only at hSw); go_simp <;> with_reducible rfl)) (by assumption) ?_; try simp only [Act.put, List.setIfInBounds_toArray, List.set_cons_zero, List.set_cons_succ])
              (refine tkI 7 (by (simp only [List.getElem?_toArray, List.getElem?_cons_succ, List.getElem?_cons_zero]; rfl)) (by kernel_rfl) (by kernel_rfl) (by kernel_rfl) (by exact fun _ _ _ h => h) (by rfl) (by (intro w hSw; (try dsimp only at hSw); go_simp <;> with_reducible rfl)) (by assumption) ?_; try simp only [Act.put, List.setIfInBounds_toArray, List.set_cons_zero, List.set_cons_succ])
              (refine tkI 8 (by (simp only [List.getElem?_toArray, List.getElem?_cons_succ, List.getElem?_cons_zero]; rfl)) (by kernel_rfl) (by kernel_rfl) (by kernel_rfl) (by exact fun _ _ _ h => h) (by rfl) (by (intro w hSw; (try dsimp only at hSw); go_simp <;> with_reducible rfl)) (by assumption) ?_; try simp only [Act.put, List.setIfInBounds_toArray, List.set_cons_zero, List.set_cons_succ])
              refine wpAnyH_ready (rs := [9]) (by kernel_rfl) (by simp) ?_
              refine AllReadyH.cons (by (simp only [List.getElem?_toArray, List.getElem?_cons_succ, List.getElem?_cons_zero]; rfl)) (fun K hK => ?_) AllReadyH.nil
              go_simp
              refine hK.out _ _ sd2 (fun hHeld2 => ?_)
              clear hK K hHeld
              clear hHeld2
              try simp only [Act.put, List.setIfInBounds_toArray, List.set_cons_zero, List.set_cons_succ]
              refine wpAnyH_done (by kernel_rfl) ?_ _
              have hlt2 := hD28.look_ok Try.underlying49 (zero_ans _) wk1 wk2
              try dsimp only at hlt2
              clear hlf2 sd sd2 q0 q1
              obtain ⟨T, hTT⟩ : ∃ T, tv k1 k2 = T := ⟨_, rfl⟩
              obtain ⟨H, hHH⟩ : ∃ H, th k1 k2 = H := ⟨_, rfl⟩
              rw [hTT, hHH] at hlt2
              skip
              obtain ⟨T0, T1, T2, T3, T4, T5⟩ := T
              change (Instr.lookup _ _ _ _).run _ _ = Result.ok (.tuple #[.agg #[.int .i64 T2, .int .i64 T3, .int .i64 T4, .int .i64 T5], .bool H]) _ at hlt2
              clear hTT hHH
              have hAB9 := hAB8.alloc (.cells #[.int .i64 T2, .int .i64 T3, .int .i64 T4, .int .i64 T5] 35)
              have y0 := hAB9.cell 0
              have y1 := hAB9.cell 1
              have y2 := hAB9.cell 2
              have y3 := hAB9.cell 3
              simp only [List.getElem?_toArray, List.getElem?_cons_succ, List.getElem?_cons_zero] at y0 y1 y2 y3
              go_wp2
              go_roundw
              case measure => simp [intOf]; omega
              case rel => exact ⟨(by first | omega | (have := hD28.lt; simp; omega) | (have := hb0.size; omega) | (have := hT8.1.lt; have := hk8'.size; simp; omega) | (have := hk8.size; have := hk5.size; omega) | (have := hk5.size; omega)), k + 1, F5, cl5, cs5, _, th, _, tv, by go_num, by omega, by omega, hT8.below ((Below.refl w8.heap.size w8).alloc (Nat.le_refl _) _), hL5, hb8.alloc hb8.size _, ⟨N1 + 1, by omega, hD8'.below ((Below.refl w8.heap.size w8).alloc (Nat.le_refl _) _)⟩, ⟨N2, by omega, hD28.below ((Below.refl w8.heap.size w8).alloc (Nat.le_refl _) _)⟩, hMO false hfr.symm⟩
            · skip
              have hlf := hD1.look Try.underlying48 (zero_bool _) wk1 wk2
              try dsimp only at hlf
              rw [hfr] at hlf
              go_upto_region 16 with fail
              have hlf2 := (hD1.below (Below.refl w7.heap.size w7).drew).look Try.underlying48 (zero_bool _) wk1 wk2
              try dsimp only at hlf2
              rw [hfr] at hlf2
              obtain ⟨w8, hrun8, hD8, hk8⟩ := (hD1.below (Below.refl w7.heap.size w7).drew).upd Try.underlying48 (show N1 < maxLen by unfold maxLen; omega) wk1 wk2 (.bool true)
              have hD8' : DM (.bool false) w8 m1 (N1 + 1) (fun x y => .bool (if x = k1 ∧ y = k2 then true else fr x y)) (fun x y => if x = k1 ∧ y = k2 then true else hs x y) := by
                have h := hD8
                try dsimp only at h
                rw [fr_put] at h
                exact h
              have q0 := hKB.drew.cell 0
              have q1 := hKB.drew.cell 1
              simp only [List.getElem?_toArray, List.getElem?_cons_succ, List.getElem?_cons_zero] at q0 q1
              have sd : (fun W => W.cell? ⟨kb, 0, none⟩ = some (.int .i64 k1) ∧ W.cell? ⟨kb, 1, none⟩ = some (.int .i64 k2)) w7.drew := ⟨q0, q1⟩
              have sd2 : (fun W => W.cell? ⟨kb, 0, none⟩ = some (.int .i64 k1) ∧ W.cell? ⟨kb, 1, none⟩ = some (.int .i64 k2)) w8 := ⟨hk8.cell q0 (by dsimp only; omega), hk8.cell q1 (by dsimp only; omega)⟩
              have hd7 : Keep (fun i => i = m1) w7 w7.drew := (Keep.refl _ w7).drew
              have hk8' : Keep (fun i => i = m1) w7 w8 := hd7.trans hk8 (fun _ _ e => e)
              have hKB8 := hKB.kept hk8' (by omega)
              have hAB8 := hAB.kept hk8' (by omega)
              have hT8 := hT7.kept hk8' (fun g hg e => (hL5 g hg).2.1 e)
              have hb8 := hb7.trans (hk8'.below (B := w.heap.size) hb7.size (fun j hj e => by omega))
              have hD28 := hD2.kept hk8' (fun e => hm12 e.symm)
              have p0 := hKB8.cell 0
              have p1 := hKB8.cell 1
              simp only [List.getElem?_toArray, List.getElem?_cons_succ, List.getElem?_cons_zero] at p0 p1
              refine wp_region_held_drew (S := (fun W => W.cell? ⟨kb, 0, none⟩ = some (.int .i64 k1) ∧ W.cell? ⟨kb, 1, none⟩ = some (.int .i64 k2))) (by kernel_rfl) sd (fun hHeld => ?_)
              generalize w7.drew = wz at *
              clear hlf
              (refine tkI 0 (by (simp only [List.getElem?_toArray, List.getElem?_cons_succ, List.getElem?_cons_zero]; rfl)) (by kernel_rfl) (by kernel_rfl) (by kernel_rfl) (by exact fun _ _ _ h => h) (by rfl) (by (intro w hSw; (try dsimp only at hSw); go_simp <;> with_reducible rfl)) (by assumption) ?_; try simp only [Act.put, List.setIfInBounds_toArray, List.set_cons_zero, List.set_cons_succ])
              (refine tkI 1 (by (simp only [List.getElem?_toArray, List.getElem?_cons_succ, List.getElem?_cons_zero]; rfl)) (by kernel_rfl) (by kernel_rfl) (by kernel_rfl) (by exact fun _ _ _ h => h) (by rfl) (by (intro w hSw; (try dsimp only at hSw); go_simp <;> with_reducible rfl)) (by assumption) ?_; try simp only [Act.put, List.setIfInBounds_toArray, List.set_cons_zero, List.set_cons_succ])
              (refine tkI 2 (by (simp only [List.getElem?_toArray, List.getElem?_cons_succ, List.getElem?_cons_zero]; rfl)) (by kernel_rfl) (by kernel_rfl) (by kernel_rfl) (by exact fun _ _ _ h => h) (by rfl) (by (intro w hSw; (try dsimp only at hSw); go_simp <;> with_reducible rfl)) (by assumption) ?_; try simp only [Act.put, List.setIfInBounds_toArray, List.set_cons_zero, List.set_cons_succ])
              (refine tkI 3 (by (simp only [List.getElem?_toArray, List.getElem?_cons_succ, List.getElem?_cons_zero]; rfl)) (by kernel_rfl) (by kernel_rfl) (by kernel_rfl) (by exact fun _ _ _ h => h) (by rfl) (by (intro w hSw; (try dsimp only at hSw); go_simp <;> with_reducible rfl)) (by assumption) ?_; try simp only [Act.put, List.setIfInBounds_toArray, List.set_cons_zero, List.set_cons_succ])
              refine wpAnyH_ready (rs := [4]) (by kernel_rfl) (by simp) ?_
              refine AllReadyH.cons (by (simp only [List.getElem?_toArray, List.getElem?_cons_succ, List.getElem?_cons_zero]; rfl)) (fun K hK => ?_) AllReadyH.nil
              go_simp
              refine hK.out _ _ sd (fun hHeld2 => ?_)
              clear hK K hHeld
              have hHeld := hHeld2
              clear hHeld2
              try simp only [Act.put, List.setIfInBounds_toArray, List.set_cons_zero, List.set_cons_succ]
              (refine tkI 5 (by (simp only [List.getElem?_toArray, List.getElem?_cons_succ, List.getElem?_cons_zero]; rfl)) (by kernel_rfl) (by kernel_rfl) (by kernel_rfl) (by exact fun _ _ _ h => h) (by rfl) (by (intro w hSw; (try dsimp only at hSw); go_simp <;> with_reducible rfl)) (by assumption) ?_; try simp only [Act.put, List.setIfInBounds_toArray, List.set_cons_zero, List.set_cons_succ])
              (refine tkIN 6 (by (simp only [List.getElem?_toArray, List.getElem?_cons_succ, List.getElem?_cons_zero]; rfl)) (by kernel_rfl) (by kernel_rfl) (by kernel_rfl) (by exact fun _ _ _ h => h) (by rfl) (by assumption) ?_; try simp only [Act.put, List.setIfInBounds_toArray, List.set_cons_zero, List.set_cons_succ])
              (refine tkIN 7 (by (simp only [List.getElem?_toArray, List.getElem?_cons_succ, List.getElem?_cons_zero]; rfl)) (by kernel_rfl) (by kernel_rfl) (by kernel_rfl) (by exact fun _ _ _ h => h) (by rfl) (by assumption) ?_; try simp only [Act.put, List.setIfInBounds_toArray, List.set_cons_zero, List.set_cons_succ])
              (refine tkI 8 (by (simp only [List.getElem?_toArray, List.getElem?_cons_succ, List.getElem?_cons_zero]; rfl)) (by kernel_rfl) (by kernel_rfl) (by kernel_rfl) (by exact fun _ _ _ h => h) (by rfl) (by (intro w hSw; (try dsimp only at hSw); go_simp <;> with_reducible rfl)) (by assumption) ?_; try simp only [Act.put, List.setIfInBounds_toArray, List.set_cons_zero, List.set_cons_succ])
              refine wpAnyH_ready (rs := [9]) (by kernel_rfl) (by simp) ?_
              refine AllReadyH.cons (by (simp only [List.getElem?_toArray, List.getElem?_cons_succ, List.getElem?_cons_zero]; rfl)) (fun K hK => ?_) AllReadyH.nil
              go_simp
              refine hK.out _ _ sd2 (fun hHeld2 => ?_)
              clear hK K hHeld
              clear hHeld2
              try simp only [Act.put, List.setIfInBounds_toArray, List.set_cons_zero, List.set_cons_succ]
              refine wpAnyH_done (by kernel_rfl) ?_ _
              have hlt2 := hD28.look_ok Try.underlying49 (zero_ans _) wk1 wk2
              try dsimp only at hlt2
              clear hlf2 sd sd2 q0 q1
              obtain ⟨T, hTT⟩ : ∃ T, tv k1 k2 = T := ⟨_, rfl⟩
              obtain ⟨H, hHH⟩ : ∃ H, th k1 k2 = H := ⟨_, rfl⟩
              rw [hTT, hHH] at hlt2
              skip
              obtain ⟨T0, T1, T2, T3, T4, T5⟩ := T
              change (Instr.lookup _ _ _ _).run _ _ = Result.ok (.tuple #[.agg #[.int .i64 T2, .int .i64 T3, .int .i64 T4, .int .i64 T5], .bool H]) _ at hlt2
              clear hTT hHH
              have hAB9 := hAB8.alloc (.cells #[.int .i64 T2, .int .i64 T3, .int .i64 T4, .int .i64 T5] 35)
              have y0 := hAB9.cell 0
              have y1 := hAB9.cell 1
              have y2 := hAB9.cell 2
              have y3 := hAB9.cell 3
              simp only [List.getElem?_toArray, List.getElem?_cons_succ, List.getElem?_cons_zero] at y0 y1 y2 y3
              go_wp2
              go_roundw
              case measure => simp [intOf]; omega
              case rel => exact ⟨(by first | omega | (have := hD28.lt; simp; omega) | (have := hb0.size; omega) | (have := hT8.1.lt; have := hk8'.size; simp; omega) | (have := hk8.size; have := hk5.size; omega) | (have := hk5.size; omega)), k + 1, F5, cl5, cs5, _, th, _, tv, by go_num, by omega, by omega, hT8.below ((Below.refl w8.heap.size w8).alloc (Nat.le_refl _) _), hL5, hb8.alloc hb8.size _, ⟨N1 + 1, by omega, hD8'.below ((Below.refl w8.heap.size w8).alloc (Nat.le_refl _) _)⟩, ⟨N2, by omega, hD28.below ((Below.refl w8.heap.size w8).alloc (Nat.le_refl _) _)⟩, hMO true hfr.symm⟩
        by_cases h2 : k0 = 2
        · as_aux_lemma =>
            subst h2
            have hak := tell_i hT a0 a1 a2 a3 wk4 wk5 (by unfold maxLen; omega)
            by_cases hE : tE cl a0 a1 a2 = 0
            · rw [hE] at hak
              go_wp2_with fail
              refine hak.mono ?_
              rintro e w5 ⟨rfl, cl5, hT5, hk5, hto⟩
              have hMI5 := hMO.out.1.tell hto
              have hOI5 := hMO.out.2.tell hto hE 0
              have hb5 := hb0.trans (hk5.below (B := w.heap.size) hb0.size (fun j hj e => by have := (hL j e).1; omega))
              have hB5 := hB.kept hk5 hnob
              have hD15 := hD1.kept hk5 (fun e => (hL _ e).2.1 rfl)
              have hD25 := hD2.kept hk5 (fun e => (hL _ e).2.2 rfl)
              have s4 := hB5.cell 4
              have s5 := hB5.cell 5
              have s6 := hB5.cell 6
              have s7 := hB5.cell 7
              simp only [List.getElem?_toArray, List.getElem?_cons_succ, List.getElem?_cons_zero] at s4 s5 s6 s7
              clear hak hT hB hD1 hD2 e1 e2 e3 e4 e5 e6 e7 hb0 hto hE
              obtain ⟨w8, hrun8, hD8, hk8⟩ := hD25.upd Try.underlying49 (show N2 < maxLen by unfold maxLen; omega) wk4 wk5 (.agg #[.int .i64 a0, .int .i64 a1, .int .i64 a2, .int .i64 a3])
              have tv_put : (fun x y => if x = a0 ∧ y = a1 then Value.agg #[.int .i64 a0, .int .i64 a1, .int .i64 a2, .int .i64 a3] else (tv x y).a) = fun x y => (if x = a0 ∧ y = a1 then (⟨0, true, a0, a1, a2, a3⟩ : Rq) else tv x y).a := by
                funext x y
                by_cases e : x = a0 ∧ y = a1
                · rw [if_pos e, if_pos e]; rfl
                · rw [if_neg e, if_neg e]
              have hD8' : DM rq0.a w8 m2 (N2 + 1) (fun x y => (if x = a0 ∧ y = a1 then (⟨0, true, a0, a1, a2, a3⟩ : Rq) else tv x y).a) (fun x y => if x = a0 ∧ y = a1 then true else th x y) := by
                have h := hD8
                try dsimp only at h
                rw [tv_put] at h
                exact h
              have hT8 := hT5.kept hk8 (fun g hg e => (hL g hg).2.2 e)
              have hb8 := hb5.trans (hk8.below (B := w.heap.size) hb5.size (fun j hj e => by omega))
              have hD18 := hD15.kept hk8 (fun e => hm12 e)
              have hfin : Hid (MInv cl5 (k + 1) ∧ OI1 cl5 fr (fun x y => if x = a0 ∧ y = a1 then true else th x y) (fun x y => if x = a0 ∧ y = a1 then (⟨0, true, a0, a1, a2, a3⟩ : Rq) else tv x y)) := Lib.hid ⟨hMI5.1, hOI5⟩
              clear hMI5 hOI5 tv_put hD8
              go_wp2
              go_roundw
              case measure => simp [intOf]; omega
              case rel => exact ⟨(by first | omega | (have := hD28.lt; simp; omega) | (have := hb0.size; omega) | (have := hT8.1.lt; have := hk8'.size; simp; omega) | (have := hk8.size; have := hk5.size; omega) | (have := hk5.size; omega)), k + 1, F, cl5, cs, fr, _, hs, _, by go_num, by omega, by omega, hT8, hL, hb8, ⟨N1, by omega, hD18⟩, ⟨N2 + 1, by omega, hD8'⟩, hfin⟩
            · obtain ⟨E, hEE⟩ : ∃ E, tE cl a0 a1 a2 = E := ⟨_, rfl⟩
              have g1 : (E == 0) = false := beq_eq_false_iff_ne.2 (by rw [← hEE]; exact hE)
              rw [hEE] at hak
              clear hEE
              go_wp2_with fail
              refine hak.mono ?_
              rintro e w5 ⟨rfl, cl5, hT5, hk5, hto⟩
              have hfin : Hid (MInv cl5 (k + 1) ∧ OI1 cl5 fr th tv) := Lib.hid ⟨(hMO.out.1.tell hto).1, hMO.out.2.tell_same hto hE⟩
              have hb5 := hb0.trans (hk5.below (B := w.heap.size) hb0.size (fun j hj e => by have := (hL j e).1; omega))
              have hD15 := hD1.kept hk5 (fun e => (hL _ e).2.1 rfl)
              have hD25 := hD2.kept hk5 (fun e => (hL _ e).2.2 rfl)
              clear hak hT hB hD1 hD2 e1 e2 e3 e4 e5 e6 e7 hb0 hto hE
              go_wp2
              go_roundw
              case measure => simp [intOf]; omega
              case rel => exact ⟨(by first | omega | (have := hD28.lt; simp; omega) | (have := hb0.size; omega) | (have := hT8.1.lt; have := hk8'.size; simp; omega) | (have := hk8.size; have := hk5.size; omega) | (have := hk5.size; omega)), k + 1, F, cl5, cs, fr, th, hs, tv, by go_num, by omega, by omega, hT5, hL, hb5, ⟨N1, by omega, hD15⟩, ⟨N2, by omega, hD25⟩, hfin⟩
        by_cases h3 : k0 = 3
        · as_aux_lemma =>
            subst h3
            have hak := low_i hT k1 k2 wk1 (by have := (hMO.out.1 k1).2.2.1; omega) (by unfold maxLen; omega)
            go_wp2_with fail
            refine hak.mono ?_
            rintro e w5 ⟨E, rfl, F5, cl5, cs5, hT5, hk5, hF5, hto⟩
            have hfin : Hid (MInv cl5 (k + 1) ∧ OI1 cl5 fr th tv) := Lib.hid ⟨(hMO.out.1.low hto).1.1, hMO.out.2.low hto⟩
            have hb5 := hb0.trans (hk5.below (B := w.heap.size) hb0.size (fun j hj e => by have := (hL j e).1; omega))
            have hz0 := hb0.size
            have hL5 : ∀ g, F5 g → w.heap.size ≤ g ∧ g ≠ m1 ∧ g ≠ m2 := fun g hg => (hF5 g hg).elim (hL g) (fun e => ⟨by omega, by omega, by omega⟩)
            have hD15 := hD1.kept hk5 (fun e => (hL _ e).2.1 rfl)
            have hD25 := hD2.kept hk5 (fun e => (hL _ e).2.2 rfl)
            clear hak hT hB hD1 hD2 e1 e2 e3 hb0 hto
            go_wp2
            go_roundw
            case measure => simp [intOf]; omega
            case rel => exact ⟨(by first | omega | (have := hD28.lt; simp; omega) | (have := hb0.size; omega) | (have := hT8.1.lt; have := hk8'.size; simp; omega) | (have := hk8.size; have := hk5.size; omega) | (have := hk5.size; omega)), k + 1, F5, cl5, cs5, fr, th, hs, tv, by go_num, by omega, by omega, hT5, hL5, hb5, ⟨N1, by omega, hD15⟩, ⟨N2, by omega, hD25⟩, hfin⟩
        as_aux_lemma =>
          go_wp2
          go_roundw
          case measure => simp [intOf]; omega
          case rel => exact ⟨(by first | omega | (have := hD28.lt; simp; omega) | (have := hb0.size; omega) | (have := hT8.1.lt; have := hk8'.size; simp; omega) | (have := hk8.size; have := hk5.size; omega) | (have := hk5.size; omega)), k + 1, F, cl, cs, fr, th, hs, tv, by go_num, by omega, by omega, hT.up (by omega), hL, hb0, ⟨N1, by omega, hD1⟩, ⟨N2, by omega, hD2⟩, Lib.hid ⟨fun i => ⟨(hMO.out.1 i).1, (hMO.out.1 i).2.1, by have := (hMO.out.1 i).2.2.1; omega, (hMO.out.1 i).2.2.2⟩, hMO.out.2⟩⟩
      · have hlz2 : ¬ (k : Int) < 200 := by omega
        clear hT hD1 hD2
        go_wp2
        go_ret
        exact ⟨rfl, hbr⟩
    · have hlz : ¬ (k : Int) < (len : Int) := by omega
      clear hT hD1 hD2
      go_wp2
      go_ret
      exact ⟨rfl, hbr⟩

namespace identOnceDone
open Go.ChangeShapes Go.WideShapes Go.ChangeAt
set_option maxRecDepth 100000 in
theorem lifted (os : Os) (started : os.Started) (H : Type) (enc : TypeId × Value → H) :
    ReturnsInHanded {} Try.checked os 4 .any (Rows.identOnceSpec.pre6 enc Try.prog Try.f4 Rows.identOnceRow.domain false) (Rows.identOnceSpec.post enc Try.prog Try.f4 false true false false) := by
  refine returnsInHanded_of_change_sized (C := Try.checked) own started (by kernel_rfl) Try.func4
    (ChangeSpec.witness6 (enc := enc) (C := Try.checked) false ⟨#[], #[Value.slice none 0 0], []⟩ 8 (by kernel_rfl) (by kernel_rfl) (by kernel_rfl) (by kernel_rfl)) ?_
  intro W base args ds gs before hval0 hW hcnd hsz0 _
  have hsz : (DataW.weightsEach Try.prog (Try.f4.params.toList ++ Rows.identOnceSpec.plain.varTypes Try.prog) (ds ++ gs)).all (· ≤ reachBytes) = true := hsz0
  clear hsz0
  have hval : ∀ (j : Nat) t v, Try.f4.params[j]? = some t → args[j]? = some v → Value.okWide Try.prog W .any base t v := hval0
  have hW' := hW
  obtain ⟨p, q, hA0, hV, rfl, hfz, hnd⟩ := hW
  have hA : DataW.TrodAll enc Try.prog W 0 (fun _ => true) true Try.f4.params.toList args.toList ds p := hA0
  rw [Try.params4] at hA hval hsz
  obtain ⟨v0, vs0, d0, ds0, p0, q0, hargs, rfl, rfl, h0, r0⟩ := trodAll_cons hA
  obtain ⟨rfl, rfl, rfl⟩ := trodAll_nil r0
  obtain rfl : args = #[v0] := by cases args; simp_all
  obtain ⟨rfl, rfl⟩ := trodVars_none hV
  obtain ⟨a0, len0, cap0, rfl⟩ := okWide_slice Try.underlying22 (hval 0 22 v0 rfl rfl)
  have k0 := h0
  have lt0 : ∀ x ∈ p0, x.block < W.heap.size := by obtain ⟨m, hm⟩ := k0; exact DataW.trod_lt m _ _ _ hm
  obtain ⟨f0, ho0, hc0, hm0⟩ := ops_open h0
  clear hA0 hval0
  refine (identOnce_walk (w := W) a0 len0 cap0 f0 ho0 hc0 hm0).mono fun e W' ⟨he, bel⟩ => ?_
  subst he
  exact ⟨_, rfl, _, _, _, [], _, [], hW', trodAll_mk1 (shut_bool Try.underlying4 _), (trodAll_cons_mk (Below.trod laidOut (by kernel_rfl) (of_decide_eq_true (by kernel_rfl)) k0 bel lt0) trodAll_mk0), rfl, bel.frame _, fun h => by cases h⟩

theorem over : Rows.identOnceRow.holds Try.pinned (OpenSpec.ofChange Rows.identOnceSpec) :=
  OpenClaim.holds_of_wide 4 Try.f4 rfl rfl rfl rfl rfl rfl rfl ⟨rfl, rfl, rfl, rfl, rfl⟩ rfl rfl rfl rfl rfl (by kernel_rfl) Try.func4 (by kernel_rfl)
    (of_decide_eq_true (by kernel_rfl)) (by unfold Func.isWrapper; first | (rw [if_pos (by decide +kernel)]; kernel_rfl) | (rw [if_neg (by decide +kernel)]; exact ⟨rfl, rfl⟩))
    (fun os started H enc _ => lifted os started H enc)

/-- The statement. -/
theorem proved : Rows.IdentOnceSaid := over
end identOnceDone
end Go.Proofs.Ytpendcaefjbomaa
