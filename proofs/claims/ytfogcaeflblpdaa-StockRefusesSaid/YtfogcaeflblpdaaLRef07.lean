/- 'StockRefuses' returns true for every input: the row of this law, proved. No condition. -/
import Derived.Test.YtfogcaeflblpdaaStlE
import Derived.Test.YtfogcaeflblpdaaRgT
import Derived.ProofKit
import Derived.OpenShut
import Derived.ShutString
import Derived.ChangeOld
import Derived.SizedLaws
namespace Go.Proofs.Ytfogcaeflblpdaa
open Go.RowKit
set_option linter.unusedVariables false
set_option linter.unusedSimpArgs false
open Go.Shelf
attribute [local go_sem] Oper.semAt_some
set_option maxRecDepth 100000 in
set_option maxHeartbeats 6400000 in
theorem stockRefuses_walk {w : World} (a : Option Addr) (len cap : Nat) (fo : Nat → OpX) (hOP : OPX w a len fo) (hc0 : len ≤ cap) (hm0 : cap ≤ 9223372036854775807)
    (o : OpV) (A : Option Addr) (c : Nat) (ho : OpVAt w o A c) (hl0 : c * 24 ≤ 140737488351232) :
    Calls Try.prog 5 #[.slice a len cap, .agg #[.int .i64 o.i0, .slice A o.l.length c, .string ⟨o.g2.toArray⟩, .int .i64 o.i3]] w fun e w' => e = .returned (.bool true) ∧ RowKit.Below w.heap.size w w' := by
  have hbw0 := (RowKit.Below.refl w.heap.size w).alloc (Nat.le_refl _) (.cells #[.int .i64 o.i0, .slice A o.l.length c, .string ⟨o.g2.toArray⟩, .int .i64 o.i3] 28)
  have hox := Blk.new w 28 #[.int .i64 o.i0, .slice A o.l.length c, .string ⟨o.g2.toArray⟩, .int .i64 o.i3]
  replace hOP := hOP.below hbw0
  go_enter Try.func5, Try.ntmps5
  go_wp2_with fail
  obtain ⟨w1, hw1⟩ : ∃ w1, w.alloc (.cells #[.int .i64 o.i0, .slice A o.l.length c, .string ⟨o.g2.toArray⟩, .int .i64 o.i3] 28) = w1 := ⟨_, rfl⟩
  rw [hw1] at hbw0 hox hOP ⊢
  clear hw1
  refine (snew_any w1).mono ?_
  rintro e v1 ⟨p, b, rfl, hS1, hpw, hbw, hb1⟩
  go_wp2_with fail
  refine (lives_any v1).mono ?_
  rintro e v2 ⟨rfl, hx2⟩
  have hS0 := hS1.below hx2
  have hb0 := hb1.trans (hx2.mono hb1.size)
  clear hS1 hb1 hx2
  have cells := Lib.hid (fun (W' : World) (hb : RowKit.Below w1.heap.size w1 W') => show W'.cell? ⟨w.heap.size, 0, none⟩ = some (.int .i64 o.i0) ∧ W'.cell? ⟨w.heap.size, 1, none⟩ = some (.slice A o.l.length c) ∧ W'.cell? ⟨w.heap.size, 2, none⟩ = some (.string ⟨o.g2.toArray⟩) ∧ W'.cell? ⟨w.heap.size, 3, none⟩ = some (.int .i64 o.i3) from by
    have h := hox.kept (Keep.of_below hb) (Nat.not_le.2 hox.lt)
    have h0 := h.cell 0
    have h1 := h.cell 1
    have h2 := h.cell 2
    have h3 := h.cell 3
    simp at h0 h1 h2 h3
    exact ⟨h0, h1, h2, h3⟩)
  obtain ⟨z0, z1, z2, z3⟩ := cells.out v2 hb0
  by_cases h100 : o.l.length ≤ 100
  case neg =>
    have hd : decide ((100 : Int) < (o.l.length : Int)) = true := decide_eq_true (by omega)
    go_wp2_with fail
    refine (lives_any v2).mono ?_
    rintro e w3 ⟨rfl, hx3⟩
    go_wp2
    go_ret
    exact ⟨rfl, hbw0.trans ((hb0.trans (hx3.mono hb0.size)).mono hbw0.size)⟩
  have hd : decide ((100 : Int) < (o.l.length : Int)) = false := decide_eq_false (by omega)
  go_wp2
  clear z0 z1 z2 z3 hd
  go_loopw [6] (fun i wr => ∃ (k N : Nat) (f : List UInt8 → Row) (ks : List (List UInt8)), i = .int .i64 (k : Int) ∧ k ≤ len ∧ k ≤ 60 ∧ ST wr p b N f ks ∧ N ≤ 100 * k ∧ ks.length ≤ 100 * k ∧ SK f ks ∧ RowKit.Below w1.heap.size w1 wr) (fun i _ => 60 - (intOf i).toNat)
  case atStart => exact ⟨0, 0, _, [], by go_num, by omega, by omega, hS0, by omega, by simp, SK.start, hb0⟩
  case round =>
    obtain ⟨k, N, f, ks, rfl, hkl, hk60, hS, hN, hks, hSK, hb⟩ := hrel
    clear hS0 hb0
    have hk0 : (0 : Int) ≤ (k : Int) := by omega
    by_cases hlt : k < len ∧ k < 60
    · as_aux_lemma =>
      obtain ⟨hlt1, hlt2⟩ := hlt
      have hlz : decide ((k : Int) < (len : Int)) = true := decide_eq_true (by omega)
      have hlz1 : (k : Int) < (len : Int) := by omega
      have hl60 : decide ((k : Int) < 60) = true := decide_eq_true (by omega)
      obtain ⟨bl, off, rfl, hblw, hops⟩ := hOP (by omega)
      have hok := hops k hlt1
      have hokr := hok.below hb
      obtain ⟨q0, q1⟩ := And.intro hokr.c0 hokr.c1
      by_cases h100 : (fo k).o.l.length ≤ 100
      · have hd100 : decide ((((fo k).o.l.length : Nat) : Int) ≤ 100) = true := decide_eq_true (by omega)
        have hSz : ST wr.drew p b N f ks := hS.below (RowKit.Below.refl wr.heap.size wr).drew
        have hbz := hb.drew
        have hoz := hok.below hbz
        have sd : (fun W' => W'.cell? ⟨bl, off + k * 4, none⟩ = some (.int .i64 (fo k).o.i0) ∧ W'.cell? ⟨bl, off + k * 4 + 1, none⟩ = some (.slice (fo k).A (fo k).o.l.length (fo k).c)) wr.drew := ⟨hoz.c0, hoz.c1⟩
        have hbb := hS.lt
        go_wp2
        refine wp_region_held_drew (S := (fun W' => W'.cell? ⟨bl, off + k * 4, none⟩ = some (.int .i64 (fo k).o.i0) ∧ W'.cell? ⟨bl, off + k * 4 + 1, none⟩ = some (.slice (fo k).A (fo k).o.l.length (fo k).c))) (by kernel_rfl) sd (fun hHeld => ?_)
        generalize wr.drew = wz at *
        (refine tkI 0 (by (simp only [List.getElem?_toArray, List.getElem?_cons_succ, List.getElem?_cons_zero]; rfl)) (by kernel_rfl) (by kernel_rfl) (by kernel_rfl) (by exact fun _ _ _ h => h) (by rfl) (by (intro w hSw; (try dsimp only at hSw); go_simp <;> with_reducible rfl)) (by assumption) ?_; try simp only [Act.put, List.setIfInBounds_toArray, List.set_cons_zero, List.set_cons_succ])
        (refine tkI 1 (by (simp only [List.getElem?_toArray, List.getElem?_cons_succ, List.getElem?_cons_zero]; rfl)) (by kernel_rfl) (by kernel_rfl) (by kernel_rfl) (by exact fun _ _ _ h => h) (by rfl) (by (intro w hSw; (try dsimp only at hSw); go_simp <;> with_reducible rfl)) (by assumption) ?_; try simp only [Act.put, List.setIfInBounds_toArray, List.set_cons_zero, List.set_cons_succ])
        (refine tkI 2 (by (simp only [List.getElem?_toArray, List.getElem?_cons_succ, List.getElem?_cons_zero]; rfl)) (by kernel_rfl) (by kernel_rfl) (by kernel_rfl) (by exact fun _ _ _ h => h) (by rfl) (by (intro w hSw; (try dsimp only at hSw); go_simp <;> with_reducible rfl)) (by assumption) ?_; try simp only [Act.put, List.setIfInBounds_toArray, List.set_cons_zero, List.set_cons_succ])
        (refine tkI 3 (by (simp only [List.getElem?_toArray, List.getElem?_cons_succ, List.getElem?_cons_zero]; rfl)) (by kernel_rfl) (by kernel_rfl) (by kernel_rfl) (by exact fun _ _ _ h => h) (by rfl) (by (intro w hSw; (try dsimp only at hSw); go_simp <;> with_reducible rfl)) (by assumption) ?_; try simp only [Act.put, List.setIfInBounds_toArray, List.set_cons_zero, List.set_cons_succ])
        (refine tkI 4 (by (simp only [List.getElem?_toArray, List.getElem?_cons_succ, List.getElem?_cons_zero]; rfl)) (by kernel_rfl) (by kernel_rfl) (by kernel_rfl) (by exact fun _ _ _ h => h) (by rfl) (by (intro w hSw; (try dsimp only at hSw); go_simp <;> with_reducible rfl)) (by assumption) ?_; try simp only [Act.put, List.setIfInBounds_toArray, List.set_cons_zero, List.set_cons_succ])
        (refine tkI 5 (by (simp only [List.getElem?_toArray, List.getElem?_cons_succ, List.getElem?_cons_zero]; rfl)) (by kernel_rfl) (by kernel_rfl) (by kernel_rfl) (by exact fun _ _ _ h => h) (by rfl) (by (intro w hSw; (try dsimp only at hSw); go_simp <;> with_reducible rfl)) (by assumption) ?_; try simp only [Act.put, List.setIfInBounds_toArray, List.set_cons_zero, List.set_cons_succ])
        (refine tkI 6 (by (simp only [List.getElem?_toArray, List.getElem?_cons_succ, List.getElem?_cons_zero]; rfl)) (by kernel_rfl) (by kernel_rfl) (by kernel_rfl) (by exact fun _ _ _ h => h) (by rfl) (by (intro w hSw; (try dsimp only at hSw); go_simp <;> with_reducible rfl)) (by assumption) ?_; try simp only [Act.put, List.setIfInBounds_toArray, List.set_cons_zero, List.set_cons_succ])
        (refine tkI 7 (by (simp only [List.getElem?_toArray, List.getElem?_cons_succ, List.getElem?_cons_zero]; rfl)) (by kernel_rfl) (by kernel_rfl) (by kernel_rfl) (by exact fun _ _ _ h => h) (by rfl) (by (intro w hSw; (try dsimp only at hSw); go_simp <;> with_reducible rfl)) (by assumption) ?_; try simp only [Act.put, List.setIfInBounds_toArray, List.set_cons_zero, List.set_cons_succ])
        (refine tkI 8 (by (simp only [List.getElem?_toArray, List.getElem?_cons_succ, List.getElem?_cons_zero]; rfl)) (by kernel_rfl) (by kernel_rfl) (by kernel_rfl) (by exact fun _ _ _ h => h) (by rfl) (by (intro w hSw; (try dsimp only at hSw); go_simp <;> with_reducible rfl)) (by assumption) ?_; try simp only [Act.put, List.setIfInBounds_toArray, List.set_cons_zero, List.set_cons_succ])
        (refine tkI 9 (by (simp only [List.getElem?_toArray, List.getElem?_cons_succ, List.getElem?_cons_zero]; rfl)) (by kernel_rfl) (by kernel_rfl) (by kernel_rfl) (by exact fun _ _ _ h => h) (by rfl) (by (intro w hSw; (try dsimp only at hSw); go_simp <;> with_reducible rfl)) (by assumption) ?_; try simp only [Act.put, List.setIfInBounds_toArray, List.set_cons_zero, List.set_cons_succ])
        (refine tkI 10 (by (simp only [List.getElem?_toArray, List.getElem?_cons_succ, List.getElem?_cons_zero]; rfl)) (by kernel_rfl) (by kernel_rfl) (by kernel_rfl) (by exact fun _ _ _ h => h) (by rfl) (by (intro w hSw; (try dsimp only at hSw); go_simp <;> with_reducible rfl)) (by assumption) ?_; try simp only [Act.put, List.setIfInBounds_toArray, List.set_cons_zero, List.set_cons_succ])
        refine wpAnyH_ready (rs := [11]) (by kernel_rfl) (by simp) ?_
        refine AllReadyH.cons (by (simp only [List.getElem?_toArray, List.getElem?_cons_succ, List.getElem?_cons_zero]; rfl)) (fun K hK => ?_) AllReadyH.nil
        go_simp
        refine (do_u (fo k).o.i0 (fo k).A _ (fo k).c (fo k).o.l wz hSz hoz.at_.il (by omega) (fun x hx => (hoz.at_.wl x hx).1) (by omega) (by omega)).mono ?_
        rintro e w9 ⟨rfl, ⟨N9, hN9, hS9⟩, hk9⟩
        have hb9 := hbz.trans (hk9.below (B := w1.heap.size) hbz.size (fun i hi e => by omega))
        have sd9 : (fun W' => W'.cell? ⟨bl, off + k * 4, none⟩ = some (.int .i64 (fo k).o.i0) ∧ W'.cell? ⟨bl, off + k * 4 + 1, none⟩ = some (.slice (fo k).A (fo k).o.l.length (fo k).c)) w9 := ⟨((hb9.cell (World.block_lt_of_cell? _ _ hok.c0)).trans hok.c0), ((hb9.cell (World.block_lt_of_cell? _ _ hok.c1)).trans hok.c1)⟩
        refine hK.out _ _ sd9 (fun hHeld2 => ?_)
        clear hK K hHeld
        have hHeld := hHeld2
        clear hHeld2
        try simp only [Act.put, List.setIfInBounds_toArray, List.set_cons_zero, List.set_cons_succ]
        refine wpAnyH_done (by kernel_rfl) ?_ _
        have hSK9 := hSK.do_ (fo k).o.i0 (fo k).o.l
        have hlen9 := doK_len f ks (fo k).o.i0 (fo k).o.l
        clear sd sd9 hSz hoz hbz hb hS hokr q0 q1
        go_wp2
        go_roundw
        case measure => simp [intOf]; omega
        case rel => exact ⟨k + 1, N9, _, _, by go_num, by omega, by omega, hS9, by omega, by omega, hSK9, hb9⟩
      · have hd100 : decide ((((fo k).o.l.length : Nat) : Int) ≤ 100) = false := decide_eq_false (by omega)
        go_wp2
        go_roundw
        case measure => simp [intOf]; omega
        case rel => exact ⟨k + 1, N, f, ks, by go_num, by omega, by omega, hS, by omega, by omega, hSK, hb⟩
    · clear hOP
      have hks64 : ks.length ≤ 1048576 := by omega
      have hN64 : N ≤ 6000 := by omega
      have hbb := hS.lt
      have hlive := hb.size
      by_cases hh : k < len
      · as_aux_lemma =>
        have hlz : decide ((k : Int) < (len : Int)) = true := decide_eq_true (by omega)
        have hl60 : decide ((k : Int) < 60) = false := decide_eq_false (by omega)
        clear hlt
        clear hk0
        have hb1 := hb
        obtain ⟨C, hC⟩ : ∃ C, packC f ks = C := ⟨_, rfl⟩
        have hpk := fun (W : World) (N : Nat) (h : ST W p b N f ks) => spack_any h hks64 hSK.len hSK.ints
        rw [hC] at hpk
        clear hC
        have hbeq : ((ByteArray.mk C.toArray) == (ByteArray.mk C.toArray)) = true := (str_eq C C).trans (by simp)
        have hbne : ((ByteArray.mk C.toArray) != (ByteArray.mk C.toArray)) = false := by rw [bne, hbeq]; rfl
        go_wp2_with fail
        refine (hpk wr N hS).mono ?_
        rintro e v1 ⟨A1, c1, rfl, hc1', hm1', hrb1, hx1, -⟩
        have hcv1 := run_str v1 A1 C.length c1 C hrb1
        have hS1 := hS.below hx1
        have hb1 := hb.trans (hx1.mono hb.size)
        clear hS hb hx1 hrb1
        obtain ⟨z0, z1, z2, z3⟩ := cells.out v1 hb1
        have hil1 := ho.il.below (hbw0.trans (hb1.mono hbw0.size))
        have d1 := do_u o.i0 A o.l.length c o.l v1 hS1 hil1 (by omega) (fun x hx => (ho.wl x hx).1) (by omega) (by omega)
        obtain ⟨f2, hf2⟩ : ∃ f2, doF f ks o.i0 o.l = f2 := ⟨_, rfl⟩
        obtain ⟨ks2, hk2e⟩ : ∃ ks2, doK f ks o.i0 o.l = ks2 := ⟨_, rfl⟩
        have hSK2 := hSK.do_ o.i0 o.l
        have hkl2 := doK_len f ks o.i0 o.l
        obtain ⟨E, hE⟩ : ∃ E, doE f ks o.i0 o.l = E := ⟨_, rfl⟩
        have hsame : E ≠ 0 → f2 = f ∧ ks2 = ks := fun h => by
          rw [← hE] at h
          rw [← hf2, ← hk2e]
          unfold doF doK
          rw [if_neg h, if_neg h]
          exact ⟨rfl, rfl⟩
        rw [hf2, hk2e, hE] at d1
        rw [hf2, hk2e] at hSK2
        rw [hk2e] at hkl2
        clear hf2 hk2e hE
        obtain ⟨C2, hC2⟩ : ∃ C2, packC f2 ks2 = C2 := ⟨_, rfl⟩
        have hpk2 := fun (W : World) (N : Nat) (h : ST W p b N f2 ks2) => spack_any h (by omega) hSK2.len hSK2.ints
        rw [hC2] at hpk2
        clear hC2
        have hbeq2 : ((ByteArray.mk C2.toArray) == (ByteArray.mk C2.toArray)) = true := (str_eq C2 C2).trans (by simp)
        go_wp2_with fail
        refine d1.mono ?_
        rintro e v2 ⟨rfl, ⟨N2, hN2, hS2⟩, hk2⟩
        have hb2 := hb1.trans (hk2.below (B := w1.heap.size) hb1.size (fun i hi e => by omega))
        clear d1 hk2 hS1 hil1 hb1 z0 z1 z2 z3
        by_cases h0 : E = 0
        · subst h0
          clear hpk hsame
          go_wp2_with fail
          refine (hpk2 v2 N2 hS2).mono ?_
          rintro e v4 ⟨A4, c4, rfl, hc4', hm4', hrb4, hx4, -⟩
          have hcv4 := run_str v4 A4 C2.length c4 C2 hrb4
          have hS4 := hS2.below hx4
          have hb4 := hb2.trans (hx4.mono hb2.size)
          obtain ⟨z0, z1, z2, z3⟩ := cells.out v4 hb4
          clear hS2 hx4 hrb4
          have d3 := count_u o.g2 o.i3 v4 hS4 ho.w2 (by omega)
          obtain ⟨CE, hCE⟩ : ∃ CE, cntE f2 ks2 o.g2 o.i3 = CE := ⟨_, rfl⟩
          have hcv : CE ≠ 0 → cntV f2 ks2 o.g2 o.i3 = 0 ∧ cntF f2 ks2 o.g2 o.i3 = f2 := fun h => by
            rw [← hCE] at h
            unfold cntV cntF
            rw [if_neg h, if_neg h]
            exact ⟨rfl, rfl⟩
          obtain ⟨CV, hCV⟩ : ∃ CV, cntV f2 ks2 o.g2 o.i3 = CV := ⟨_, rfl⟩
          rw [hCE, hCV] at d3
          rw [hCV] at hcv
          clear hCE hCV
          go_wp2_with fail
          refine d3.mono ?_
          rintro e v5 ⟨rfl, ⟨N5, hN5, hS5⟩, hk5⟩
          have hb5 := hb4.trans (hk5.below (B := w1.heap.size) hb4.size (fun i hi e => by omega))
          clear d3 hk5 hS4 z0 z1 z2 z3
          by_cases hc0 : CE = 0
          · subst hc0
            clear hcv
            go_wp2
            go_ret
            exact ⟨rfl, hbw0.trans (hb5.mono hbw0.size)⟩
          · obtain ⟨rfl, hcf⟩ := hcv hc0
            rw [hcf] at hS5
            have hcb : (CE == 0) = false := by simp [hc0]
            clear hcf hc0
            go_wp2_with fail
            refine (hpk2 v5 N5 hS5).mono ?_
            rintro e v6 ⟨A6, c6, rfl, hc6', hm6', hrb6, hx6, -⟩
            have hcv6 := run_str v6 A6 C2.length c6 C2 hrb6
            clear hrb6 hS5
            go_wp2
            go_ret
            exact ⟨rfl, (hbw0.trans (hb5.mono hbw0.size)).trans (hx6.mono (hbw0.trans (hb5.mono hbw0.size)).size)⟩
        · obtain ⟨hff, hkk⟩ := hsame h0
          subst hff hkk
          have hne : (E != 0) = true := by simp [h0]
          clear hsame h0
          go_wp2_with fail
          refine (hpk v2 N2 hS2).mono ?_
          rintro e v3 ⟨A3, c3, rfl, hc3', hm3', hrb3, hx3, -⟩
          have hcv3 := run_str v3 A3 C.length c3 C hrb3
          have hS3 := hS2.below hx3
          have hb3 := hb2.trans (hx3.mono hb2.size)
          clear hS2 hb2 hpk hrb3 hx3
          have hS2 := hS3
          have hb2 := hb3
          clear hS3 hb3
          go_wp2_with fail
          refine (hpk2 v3 N2 hS2).mono ?_
          rintro e v4 ⟨A4, c4, rfl, hc4', hm4', hrb4, hx4, -⟩
          have hcv4 := run_str v4 A4 C2.length c4 C2 hrb4
          have hS4 := hS2.below hx4
          have hb4 := hb2.trans (hx4.mono hb2.size)
          obtain ⟨z0, z1, z2, z3⟩ := cells.out v4 hb4
          clear hS2 hx4 hrb4
          have d3 := count_u o.g2 o.i3 v4 hS4 ho.w2 (by omega)
          obtain ⟨CE, hCE⟩ : ∃ CE, cntE f2 ks2 o.g2 o.i3 = CE := ⟨_, rfl⟩
          have hcv : CE ≠ 0 → cntV f2 ks2 o.g2 o.i3 = 0 ∧ cntF f2 ks2 o.g2 o.i3 = f2 := fun h => by
            rw [← hCE] at h
            unfold cntV cntF
            rw [if_neg h, if_neg h]
            exact ⟨rfl, rfl⟩
          obtain ⟨CV, hCV⟩ : ∃ CV, cntV f2 ks2 o.g2 o.i3 = CV := ⟨_, rfl⟩
          rw [hCE, hCV] at d3
          rw [hCV] at hcv
          clear hCE hCV
          go_wp2_with fail
          refine d3.mono ?_
          rintro e v5 ⟨rfl, ⟨N5, hN5, hS5⟩, hk5⟩
          have hb5 := hb4.trans (hk5.below (B := w1.heap.size) hb4.size (fun i hi e => by omega))
          clear d3 hk5 hS4 z0 z1 z2 z3
          by_cases hc0 : CE = 0
          · subst hc0
            clear hcv
            go_wp2
            go_ret
            exact ⟨rfl, hbw0.trans (hb5.mono hbw0.size)⟩
          · obtain ⟨rfl, hcf⟩ := hcv hc0
            rw [hcf] at hS5
            have hcb : (CE == 0) = false := by simp [hc0]
            clear hcf hc0
            go_wp2_with fail
            refine (hpk2 v5 N5 hS5).mono ?_
            rintro e v6 ⟨A6, c6, rfl, hc6', hm6', hrb6, hx6, -⟩
            have hcv6 := run_str v6 A6 C2.length c6 C2 hrb6
            clear hrb6 hS5
            go_wp2
            go_ret
            exact ⟨rfl, (hbw0.trans (hb5.mono hbw0.size)).trans (hx6.mono (hbw0.trans (hb5.mono hbw0.size)).size)⟩
      · as_aux_lemma =>
        have hlz : decide ((k : Int) < (len : Int)) = false := decide_eq_false (by omega)
        clear hlt
        clear hk0
        have hb1 := hb
        obtain ⟨C, hC⟩ : ∃ C, packC f ks = C := ⟨_, rfl⟩
        have hpk := fun (W : World) (N : Nat) (h : ST W p b N f ks) => spack_any h hks64 hSK.len hSK.ints
        rw [hC] at hpk
        clear hC
        have hbeq : ((ByteArray.mk C.toArray) == (ByteArray.mk C.toArray)) = true := (str_eq C C).trans (by simp)
        have hbne : ((ByteArray.mk C.toArray) != (ByteArray.mk C.toArray)) = false := by rw [bne, hbeq]; rfl
        go_wp2_with fail
        refine (hpk wr N hS).mono ?_
        rintro e v1 ⟨A1, c1, rfl, hc1', hm1', hrb1, hx1, -⟩
        have hcv1 := run_str v1 A1 C.length c1 C hrb1
        have hS1 := hS.below hx1
        have hb1 := hb.trans (hx1.mono hb.size)
        clear hS hb hx1 hrb1
        obtain ⟨z0, z1, z2, z3⟩ := cells.out v1 hb1
        have hil1 := ho.il.below (hbw0.trans (hb1.mono hbw0.size))
        have d1 := do_u o.i0 A o.l.length c o.l v1 hS1 hil1 (by omega) (fun x hx => (ho.wl x hx).1) (by omega) (by omega)
        obtain ⟨f2, hf2⟩ : ∃ f2, doF f ks o.i0 o.l = f2 := ⟨_, rfl⟩
        obtain ⟨ks2, hk2e⟩ : ∃ ks2, doK f ks o.i0 o.l = ks2 := ⟨_, rfl⟩
        have hSK2 := hSK.do_ o.i0 o.l
        have hkl2 := doK_len f ks o.i0 o.l
        obtain ⟨E, hE⟩ : ∃ E, doE f ks o.i0 o.l = E := ⟨_, rfl⟩
        have hsame : E ≠ 0 → f2 = f ∧ ks2 = ks := fun h => by
          rw [← hE] at h
          rw [← hf2, ← hk2e]
          unfold doF doK
          rw [if_neg h, if_neg h]
          exact ⟨rfl, rfl⟩
        rw [hf2, hk2e, hE] at d1
        rw [hf2, hk2e] at hSK2
        rw [hk2e] at hkl2
        clear hf2 hk2e hE
        obtain ⟨C2, hC2⟩ : ∃ C2, packC f2 ks2 = C2 := ⟨_, rfl⟩
        have hpk2 := fun (W : World) (N : Nat) (h : ST W p b N f2 ks2) => spack_any h (by omega) hSK2.len hSK2.ints
        rw [hC2] at hpk2
        clear hC2
        have hbeq2 : ((ByteArray.mk C2.toArray) == (ByteArray.mk C2.toArray)) = true := (str_eq C2 C2).trans (by simp)
        go_wp2_with fail
        refine d1.mono ?_
        rintro e v2 ⟨rfl, ⟨N2, hN2, hS2⟩, hk2⟩
        have hb2 := hb1.trans (hk2.below (B := w1.heap.size) hb1.size (fun i hi e => by omega))
        clear d1 hk2 hS1 hil1 hb1 z0 z1 z2 z3
        by_cases h0 : E = 0
        · subst h0
          clear hpk hsame
          go_wp2_with fail
          refine (hpk2 v2 N2 hS2).mono ?_
          rintro e v4 ⟨A4, c4, rfl, hc4', hm4', hrb4, hx4, -⟩
          have hcv4 := run_str v4 A4 C2.length c4 C2 hrb4
          have hS4 := hS2.below hx4
          have hb4 := hb2.trans (hx4.mono hb2.size)
          obtain ⟨z0, z1, z2, z3⟩ := cells.out v4 hb4
          clear hS2 hx4 hrb4
          have d3 := count_u o.g2 o.i3 v4 hS4 ho.w2 (by omega)
          obtain ⟨CE, hCE⟩ : ∃ CE, cntE f2 ks2 o.g2 o.i3 = CE := ⟨_, rfl⟩
          have hcv : CE ≠ 0 → cntV f2 ks2 o.g2 o.i3 = 0 ∧ cntF f2 ks2 o.g2 o.i3 = f2 := fun h => by
            rw [← hCE] at h
            unfold cntV cntF
            rw [if_neg h, if_neg h]
            exact ⟨rfl, rfl⟩
          obtain ⟨CV, hCV⟩ : ∃ CV, cntV f2 ks2 o.g2 o.i3 = CV := ⟨_, rfl⟩
          rw [hCE, hCV] at d3
          rw [hCV] at hcv
          clear hCE hCV
          go_wp2_with fail
          refine d3.mono ?_
          rintro e v5 ⟨rfl, ⟨N5, hN5, hS5⟩, hk5⟩
          have hb5 := hb4.trans (hk5.below (B := w1.heap.size) hb4.size (fun i hi e => by omega))
          clear d3 hk5 hS4 z0 z1 z2 z3
          by_cases hc0 : CE = 0
          · subst hc0
            clear hcv
            go_wp2
            go_ret
            exact ⟨rfl, hbw0.trans (hb5.mono hbw0.size)⟩
          · obtain ⟨rfl, hcf⟩ := hcv hc0
            rw [hcf] at hS5
            have hcb : (CE == 0) = false := by simp [hc0]
            clear hcf hc0
            go_wp2_with fail
            refine (hpk2 v5 N5 hS5).mono ?_
            rintro e v6 ⟨A6, c6, rfl, hc6', hm6', hrb6, hx6, -⟩
            have hcv6 := run_str v6 A6 C2.length c6 C2 hrb6
            clear hrb6 hS5
            go_wp2
            go_ret
            exact ⟨rfl, (hbw0.trans (hb5.mono hbw0.size)).trans (hx6.mono (hbw0.trans (hb5.mono hbw0.size)).size)⟩
        · obtain ⟨hff, hkk⟩ := hsame h0
          subst hff hkk
          have hne : (E != 0) = true := by simp [h0]
          clear hsame h0
          go_wp2_with fail
          refine (hpk v2 N2 hS2).mono ?_
          rintro e v3 ⟨A3, c3, rfl, hc3', hm3', hrb3, hx3, -⟩
          have hcv3 := run_str v3 A3 C.length c3 C hrb3
          have hS3 := hS2.below hx3
          have hb3 := hb2.trans (hx3.mono hb2.size)
          clear hS2 hb2 hpk hrb3 hx3
          have hS2 := hS3
          have hb2 := hb3
          clear hS3 hb3
          go_wp2_with fail
          refine (hpk2 v3 N2 hS2).mono ?_
          rintro e v4 ⟨A4, c4, rfl, hc4', hm4', hrb4, hx4, -⟩
          have hcv4 := run_str v4 A4 C2.length c4 C2 hrb4
          have hS4 := hS2.below hx4
          have hb4 := hb2.trans (hx4.mono hb2.size)
          obtain ⟨z0, z1, z2, z3⟩ := cells.out v4 hb4
          clear hS2 hx4 hrb4
          have d3 := count_u o.g2 o.i3 v4 hS4 ho.w2 (by omega)
          obtain ⟨CE, hCE⟩ : ∃ CE, cntE f2 ks2 o.g2 o.i3 = CE := ⟨_, rfl⟩
          have hcv : CE ≠ 0 → cntV f2 ks2 o.g2 o.i3 = 0 ∧ cntF f2 ks2 o.g2 o.i3 = f2 := fun h => by
            rw [← hCE] at h
            unfold cntV cntF
            rw [if_neg h, if_neg h]
            exact ⟨rfl, rfl⟩
          obtain ⟨CV, hCV⟩ : ∃ CV, cntV f2 ks2 o.g2 o.i3 = CV := ⟨_, rfl⟩
          rw [hCE, hCV] at d3
          rw [hCV] at hcv
          clear hCE hCV
          go_wp2_with fail
          refine d3.mono ?_
          rintro e v5 ⟨rfl, ⟨N5, hN5, hS5⟩, hk5⟩
          have hb5 := hb4.trans (hk5.below (B := w1.heap.size) hb4.size (fun i hi e => by omega))
          clear d3 hk5 hS4 z0 z1 z2 z3
          by_cases hc0 : CE = 0
          · subst hc0
            clear hcv
            go_wp2
            go_ret
            exact ⟨rfl, hbw0.trans (hb5.mono hbw0.size)⟩
          · obtain ⟨rfl, hcf⟩ := hcv hc0
            rw [hcf] at hS5
            have hcb : (CE == 0) = false := by simp [hc0]
            clear hcf hc0
            go_wp2_with fail
            refine (hpk2 v5 N5 hS5).mono ?_
            rintro e v6 ⟨A6, c6, rfl, hc6', hm6', hrb6, hx6, -⟩
            have hcv6 := run_str v6 A6 C2.length c6 C2 hrb6
            clear hrb6 hS5
            go_wp2
            go_ret
            exact ⟨rfl, (hbw0.trans (hb5.mono hbw0.size)).trans (hx6.mono (hbw0.trans (hb5.mono hbw0.size)).size)⟩

namespace stockRefusesDone
open Go.ChangeShapes Go.WideShapes Go.ChangeAt
set_option maxRecDepth 100000 in
theorem lifted (os : Os) (started : os.Started) (H : Type) (enc : TypeId × Value → H) :
    ReturnsInHanded {} Try.checked os 5 .any (Rows.stockRefusesSpec.pre6 enc Try.prog Try.f5 Rows.stockRefusesRow.domain false) (Rows.stockRefusesSpec.post enc Try.prog Try.f5 false true false false) := by
  refine returnsInHanded_of_change_sized (C := Try.checked) own started (by kernel_rfl) Try.func5
    (ChangeSpec.witness6 (enc := enc) (C := Try.checked) false ⟨#[], #[Value.slice none 0 0, Value.agg #[.int .i64 0, .slice none 0 0, .string ⟨#[]⟩, .int .i64 0]], []⟩ 8 (by kernel_rfl) (by kernel_rfl) (by kernel_rfl) (by kernel_rfl)) ?_
  intro W base args ds gs before hval0 hW hcnd hsz0 _
  have hsz : (DataW.weightsEach Try.prog (Try.f5.params.toList ++ Rows.stockRefusesSpec.plain.varTypes Try.prog) (ds ++ gs)).all (· ≤ reachBytes) = true := hsz0
  clear hsz0
  have hval : ∀ (j : Nat) t v, Try.f5.params[j]? = some t → args[j]? = some v → Value.okWide Try.prog W .any base t v := hval0
  have hW' := hW
  obtain ⟨p, q, hA0, hV, rfl, hfz, hnd⟩ := hW
  have hA : DataW.TrodAll enc Try.prog W 0 (fun _ => true) true Try.f5.params.toList args.toList ds p := hA0
  rw [Try.params5] at hA hval hsz
  obtain ⟨v0, vs0, d0, ds0, p0, q0, hargs, rfl, rfl, h0, r0⟩ := trodAll_cons hA
  obtain ⟨v1, vs1, d1, ds1, p1, q1, rfl, rfl, rfl, h1, r1⟩ := trodAll_cons r0
  obtain ⟨rfl, rfl, rfl⟩ := trodAll_nil r1
  obtain rfl : args = #[v0, v1] := by cases args; simp_all
  obtain ⟨rfl, rfl⟩ := trodVars_none hV
  obtain ⟨a0, len0, cap0, rfl⟩ := okWide_slice Try.underlying22 (hval 0 22 v0 rfl rfl)
  have k0 := h0
  have lt0 : ∀ x ∈ p0, x.block < W.heap.size := by obtain ⟨m, hm⟩ := k0; exact DataW.trod_lt m _ _ _ hm
  obtain ⟨f0, ho0, hc0, hm0⟩ := ops_open h0
  obtain ⟨o1, A1, c1, rfl, ho1, hw1⟩ := opv_open (hval 1 28 v1 rfl rfl) h1
  have hl1 : c1 * 24 ≤ 140737488351232 := by
    rcases hw1 with hz | hz
    · omega
    · have := List.all_eq_true.1 hsz _ (DataW.weights_mem_each (j := 1) rfl rfl _ hz)
      simp [reachBytes] at this
      first | omega | (have := of_decide_eq_true this; omega)
  have k1' := h1
  have lt1 : ∀ x ∈ p1, x.block < W.heap.size := by obtain ⟨m, hm⟩ := h1; exact DataW.trod_lt m _ _ _ hm
  clear hA0 hval0
  refine (stockRefuses_walk (w := W) a0 len0 cap0 f0 ho0 hc0 hm0 o1 A1 c1 ho1 hl1).mono fun e W' ⟨he, bel⟩ => ?_
  subst he
  exact ⟨_, rfl, _, _, _, [], _, [], hW', trodAll_mk1 (shut_bool Try.underlying4 _), (trodAll_cons_mk (Below.trod laidOut (by kernel_rfl) (of_decide_eq_true (by kernel_rfl)) k0 bel lt0) (trodAll_cons_mk (Below.trod laidOut (by kernel_rfl) (of_decide_eq_true (by kernel_rfl)) k1' bel lt1) trodAll_mk0)), rfl, bel.frame _, fun h => by cases h⟩

theorem over : Rows.stockRefusesRow.holds Try.pinned (OpenSpec.ofChange Rows.stockRefusesSpec) :=
  OpenClaim.holds_of_wide 5 Try.f5 rfl rfl rfl rfl rfl rfl rfl ⟨rfl, rfl, rfl, rfl, rfl⟩ rfl rfl rfl rfl rfl (by kernel_rfl) Try.func5 (by kernel_rfl)
    (of_decide_eq_true (by kernel_rfl)) (by unfold Func.isWrapper; first | (rw [if_pos (by decide +kernel)]; kernel_rfl) | (rw [if_neg (by decide +kernel)]; exact ⟨rfl, rfl⟩))
    (fun os started H enc _ => lifted os started H enc)

/-- The statement. -/
theorem proved : Rows.StockRefusesSaid := over
end stockRefusesDone
end Go.Proofs.Ytfogcaeflblpdaa
