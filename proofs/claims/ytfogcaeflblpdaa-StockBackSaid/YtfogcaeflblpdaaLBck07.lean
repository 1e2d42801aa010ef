/- 'StockBack' returns true for every input: the row of this law, proved. No condition. -/
import Derived.Test.YtfogcaeflblpdaaStlE
import Derived.Test.YtfogcaeflblpdaaRgT
import Derived.ProofKit
import Derived.OpenShut
import Derived.ShutString
import Derived.ChangeOld
import Derived.SizedLaws
namespace Go.Proofs.Ytfogcaeflblpdaa
open Go.RowKit
set_option linter.unusedVariables false
set_option linter.unusedSimpArgs false
open Go.Shelf
attribute [local go_sem] Oper.semAt_some
set_option maxRecDepth 100000 in
set_option maxHeartbeats 6400000 in
theorem stockBack_walk {w : World} (a : Option Addr) (len cap : Nat) (fo : Nat → OpX) (hOP : OPX w a len fo) (hc0 : len ≤ cap) (hm0 : cap ≤ 9223372036854775807)
    (a1 : Option Addr) (len1 cap1 : Nat) (z1 : List It) (hr1 : IL w a1 len1 z1) (hwl1 : WL z1) (hc1 : len1 ≤ cap1) (hm1 : cap1 ≤ 9223372036854775807) (hl1 : cap1 * 24 ≤ 140737488351232) :
    Calls Try.prog 3 #[.slice a len cap, .slice a1 len1 cap1] w fun e w' => e = .returned (.bool true) ∧ RowKit.Below w.heap.size w w' := by
  have hw1 : ∀ x ∈ z1, x.1.length ≤ maxLen := fun x hx => (hwl1 x hx).1
  go_enter Try.func3, Try.ntmps3
  go_wp2_with fail
  refine (snew_any w).mono ?_
  rintro e w1 ⟨p, b, rfl, hS1, hpw, hbw, hb1⟩
  go_wp2_with fail
  refine (lives_any w1).mono ?_
  rintro e w2 ⟨rfl, hx2⟩
  have hS0 := hS1.below hx2
  have hb0 := hb1.trans (hx2.mono hb1.size)
  clear hS1 hb1 hx2
  by_cases h100 : len1 ≤ 100
  case neg =>
    have hd : decide ((100 : Int) < (len1 : Int)) = true := decide_eq_true (by omega)
    go_wp2_with fail
    refine (lives_any w2).mono ?_
    rintro e w3 ⟨rfl, hx3⟩
    go_wp2
    go_ret
    exact ⟨rfl, hb0.trans (hx3.mono hb0.size)⟩
  have hd : decide ((100 : Int) < (len1 : Int)) = false := decide_eq_false (by omega)
  go_wp2
  go_loopw [6] (fun i wr => ∃ (k N : Nat) (f : List UInt8 → Row) (ks : List (List UInt8)), i = .int .i64 (k : Int) ∧ k ≤ len ∧ k ≤ 60 ∧ ST wr p b N f ks ∧ N ≤ 100 * k ∧ ks.length ≤ 100 * k ∧ SK f ks ∧ RowKit.Below w.heap.size w wr) (fun i _ => 60 - (intOf i).toNat)
  case atStart => exact ⟨0, 0, _, [], by go_num, by omega, by omega, hS0, by omega, by simp, SK.start, hb0⟩
  case round =>
    obtain ⟨k, N, f, ks, rfl, hkl, hk60, hS, hN, hks, hSK, hb⟩ := hrel
    clear hS0 hb0
    have hk0 : (0 : Int) ≤ (k : Int) := by omega
    by_cases hlt : k < len ∧ k < 60
    · as_aux_lemma =>
      obtain ⟨hlt1, hlt2⟩ := hlt
      have hlz : decide ((k : Int) < (len : Int)) = true := decide_eq_true (by omega)
      have hlz1 : (k : Int) < (len : Int) := by omega
      have hl60 : decide ((k : Int) < 60) = true := decide_eq_true (by omega)
      obtain ⟨bl, off, rfl, hblw, hops⟩ := hOP (by omega)
      have hok := hops k hlt1
      have hokr := hok.below hb
      obtain ⟨q0, q1⟩ := And.intro hokr.c0 hokr.c1
      by_cases h100 : (fo k).o.l.length ≤ 100
      · have hd100 : decide ((((fo k).o.l.length : Nat) : Int) ≤ 100) = true := decide_eq_true (by omega)
        have hSz : ST wr.drew p b N f ks := hS.below (RowKit.Below.refl wr.heap.size wr).drew
        have hbz := hb.drew
        have hoz := hok.below hbz
        have sd : (fun W' => W'.cell? ⟨bl, off + k * 4, none⟩ = some (.int .i64 (fo k).o.i0) ∧ W'.cell? ⟨bl, off + k * 4 + 1, none⟩ = some (.slice (fo k).A (fo k).o.l.length (fo k).c)) wr.drew := ⟨hoz.c0, hoz.c1⟩
        have hbb := hS.lt
        go_wp2
        refine wp_region_held_drew (S := (fun W' => W'.cell? ⟨bl, off + k * 4, none⟩ = some (.int .i64 (fo k).o.i0) ∧ W'.cell? ⟨bl, off + k * 4 + 1, none⟩ = some (.slice (fo k).A (fo k).o.l.length (fo k).c))) (by kernel_rfl) sd (fun hHeld => ?_)
        generalize wr.drew = wz at *
        (refine tkI 0 (by (simp only [List.getElem?_toArray, List.getElem?_cons_succ, List.getElem?_cons_zero]; rfl)) (by kernel_rfl) (by kernel_rfl) (by kernel_rfl) (by exact fun _ _ _ h => h) (by rfl) (by (intro w hSw; (try dsimp only at hSw); go_simp <;> with_reducible rfl)) (by assumption) ?_; try simp only [Act.put, List.setIfInBounds_toArray, List.set_cons_zero, List.set_cons_succ])
        (refine tkI 1 (by (simp only [List.getElem?_toArray, List.getElem?_cons_succ, List.getElem?_cons_zero]; rfl)) (by kernel_rfl) (by kernel_rfl) (by kernel_rfl) (by exact fun _ _ _ h => h) (by rfl) (by (intro w hSw; (try dsimp only at hSw); go_simp <;> with_reducible rfl)) (by assumption) ?_; try simp only [Act.put, List.setIfInBounds_toArray, List.set_cons_zero, List.set_cons_succ])
        (refine tkI 2 (by (simp only [List.getElem?_toArray, List.getElem?_cons_succ, List.getElem?_cons_zero]; rfl)) (by kernel_rfl) (by kernel_rfl) (by kernel_rfl) (by exact fun _ _ _ h => h) (by rfl) (by (intro w hSw; (try dsimp only at hSw); go_simp <;> with_reducible rfl)) (by assumption) ?_; try simp only [Act.put, List.setIfInBounds_toArray, List.set_cons_zero, List.set_cons_succ])
        (refine tkI 3 (by (simp only [List.getElem?_toArray, List.getElem?_cons_succ, List.getElem?_cons_zero]; rfl)) (by kernel_rfl) (by kernel_rfl) (by kernel_rfl) (by exact fun _ _ _ h => h) (by rfl) (by (intro w hSw; (try dsimp only at hSw); go_simp <;> with_reducible rfl)) (by assumption) ?_; try simp only [Act.put, List.setIfInBounds_toArray, List.set_cons_zero, List.set_cons_succ])
        (refine tkI 4 (by (simp only [List.getElem?_toArray, List.getElem?_cons_succ, List.getElem?_cons_zero]; rfl)) (by kernel_rfl) (by kernel_rfl) (by kernel_rfl) (by exact fun _ _ _ h => h) (by rfl) (by (intro w hSw; (try dsimp only at hSw); go_simp <;> with_reducible rfl)) (by assumption) ?_; try simp only [Act.put, List.setIfInBounds_toArray, List.set_cons_zero, List.set_cons_succ])
        (refine tkI 5 (by (simp only [List.getElem?_toArray, List.getElem?_cons_succ, List.getElem?_cons_zero]; rfl)) (by kernel_rfl) (by kernel_rfl) (by kernel_rfl) (by exact fun _ _ _ h => h) (by rfl) (by (intro w hSw; (try dsimp only at hSw); go_simp <;> with_reducible rfl)) (by assumption) ?_; try simp only [Act.put, List.setIfInBounds_toArray, List.set_cons_zero, List.set_cons_succ])
        (refine tkI 6 (by (simp only [List.getElem?_toArray, List.getElem?_cons_succ, List.getElem?_cons_zero]; rfl)) (by kernel_rfl) (by kernel_rfl) (by kernel_rfl) (by exact fun _ _ _ h => h) (by rfl) (by (intro w hSw; (try dsimp only at hSw); go_simp <;> with_reducible rfl)) (by assumption) ?_; try simp only [Act.put, List.setIfInBounds_toArray, List.set_cons_zero, List.set_cons_succ])
        (refine tkI 7 (by (simp only [List.getElem?_toArray, List.getElem?_cons_succ, List.getElem?_cons_zero]; rfl)) (by kernel_rfl) (by kernel_rfl) (by kernel_rfl) (by exact fun _ _ _ h => h) (by rfl) (by (intro w hSw; (try dsimp only at hSw); go_simp <;> with_reducible rfl)) (by assumption) ?_; try simp only [Act.put, List.setIfInBounds_toArray, List.set_cons_zero, List.set_cons_succ])
        (refine tkI 8 (by (simp only [List.getElem?_toArray, List.getElem?_cons_succ, List.getElem?_cons_zero]; rfl)) (by kernel_rfl) (by kernel_rfl) (by kernel_rfl) (by exact fun _ _ _ h => h) (by rfl) (by (intro w hSw; (try dsimp only at hSw); go_simp <;> with_reducible rfl)) (by assumption) ?_; try simp only [Act.put, List.setIfInBounds_toArray, List.set_cons_zero, List.set_cons_succ])
        (refine tkI 9 (by (simp only [List.getElem?_toArray, List.getElem?_cons_succ, List.getElem?_cons_zero]; rfl)) (by kernel_rfl) (by kernel_rfl) (by kernel_rfl) (by exact fun _ _ _ h => h) (by rfl) (by (intro w hSw; (try dsimp only at hSw); go_simp <;> with_reducible rfl)) (by assumption) ?_; try simp only [Act.put, List.setIfInBounds_toArray, List.set_cons_zero, List.set_cons_succ])
        (refine tkI 10 (by (simp only [List.getElem?_toArray, List.getElem?_cons_succ, List.getElem?_cons_zero]; rfl)) (by kernel_rfl) (by kernel_rfl) (by kernel_rfl) (by exact fun _ _ _ h => h) (by rfl) (by (intro w hSw; (try dsimp only at hSw); go_simp <;> with_reducible rfl)) (by assumption) ?_; try simp only [Act.put, List.setIfInBounds_toArray, List.set_cons_zero, List.set_cons_succ])
        refine wpAnyH_ready (rs := [11]) (by kernel_rfl) (by simp) ?_
        refine AllReadyH.cons (by (simp only [List.getElem?_toArray, List.getElem?_cons_succ, List.getElem?_cons_zero]; rfl)) (fun K hK => ?_) AllReadyH.nil
        go_simp
        refine (do_u (fo k).o.i0 (fo k).A _ (fo k).c (fo k).o.l wz hSz hoz.at_.il (by omega) (fun x hx => (hoz.at_.wl x hx).1) (by omega) (by omega)).mono ?_
        rintro e w9 ⟨rfl, ⟨N9, hN9, hS9⟩, hk9⟩
        have hb9 := hbz.trans (hk9.below (B := w.heap.size) hbz.size (fun i hi e => by omega))
        have sd9 : (fun W' => W'.cell? ⟨bl, off + k * 4, none⟩ = some (.int .i64 (fo k).o.i0) ∧ W'.cell? ⟨bl, off + k * 4 + 1, none⟩ = some (.slice (fo k).A (fo k).o.l.length (fo k).c)) w9 := ⟨((hb9.cell (World.block_lt_of_cell? _ _ hok.c0)).trans hok.c0), ((hb9.cell (World.block_lt_of_cell? _ _ hok.c1)).trans hok.c1)⟩
        refine hK.out _ _ sd9 (fun hHeld2 => ?_)
        clear hK K hHeld
        have hHeld := hHeld2
        clear hHeld2
        try simp only [Act.put, List.setIfInBounds_toArray, List.set_cons_zero, List.set_cons_succ]
        refine wpAnyH_done (by kernel_rfl) ?_ _
        have hSK9 := hSK.do_ (fo k).o.i0 (fo k).o.l
        have hlen9 := doK_len f ks (fo k).o.i0 (fo k).o.l
        clear sd sd9 hSz hoz hbz hb hS hokr q0 q1
        go_wp2
        go_roundw
        case measure => simp [intOf]; omega
        case rel => exact ⟨k + 1, N9, _, _, by go_num, by omega, by omega, hS9, by omega, by omega, hSK9, hb9⟩
      · have hd100 : decide ((((fo k).o.l.length : Nat) : Int) ≤ 100) = false := decide_eq_false (by omega)
        go_wp2
        go_roundw
        case measure => simp [intOf]; omega
        case rel => exact ⟨k + 1, N, f, ks, by go_num, by omega, by omega, hS, by omega, by omega, hSK, hb⟩
    · clear hOP
      have hks64 : ks.length ≤ 1048576 := by omega
      have hN64 : N ≤ 6000 := by omega
      have hbb := hS.lt
      have hlive := hb.size
      by_cases hh : k < len
      · as_aux_lemma =>
        have hlz : decide ((k : Int) < (len : Int)) = true := decide_eq_true (by omega)
        have hl60 : decide ((k : Int) < 60) = false := decide_eq_false (by omega)
        clear hlt
        have hil := hr1.below hb
        have hln1 := hr1.len
        have hn1 : len1 ≤ 100 := h100
        clear hk0 hr1
        obtain ⟨C, hC⟩ : ∃ C, packC f ks = C := ⟨_, rfl⟩
        have hpk := fun (W : World) (N : Nat) (h : ST W p b N f ks) => spack_any h hks64 hSK.len hSK.ints
        rw [hC] at hpk
        clear hC
        have hbeq : ((ByteArray.mk C.toArray) == (ByteArray.mk C.toArray)) = true := (str_eq C C).trans (by simp)
        go_wp2_with fail
        refine (hpk wr N hS).mono ?_
        rintro e v1 ⟨A1, c1, rfl, hc1', hm1', hrb1, hx1, -⟩
        have hcv1 := run_str v1 A1 C.length c1 C hrb1
        have hS1 := hS.below hx1
        have hil1 := hil.below hx1
        have hb1 := hb.trans (hx1.mono hb.size)
        clear hS hil hb hx1 hrb1
        have hilk := hil1.map_not hS1
        by_cases h0 : doE f ks 2 z1 = 0
        · obtain ⟨f1, f2, f3, e1, e2, e3, e4, e5, e6, e7, e8, e9, e10, e11⟩ := back_all hSK h0
          have d1 := do_u 2 a1 len1 cap1 z1 v1 hS1 hil1 (by omega) hw1 (by omega) (by omega)
          rw [h0, e1, e2] at d1
          go_wp2_with fail
          refine d1.mono ?_
          rintro e v2 ⟨rfl, ⟨N2, hN2, hS2⟩, hk2⟩
          have hb2 := hb1.trans (hk2.below (B := w.heap.size) hb1.size (fun i hi e => by omega))
          have hil2 := hil1.kept hk2 (fun ad e h => hilk ad e h)
          have d2 := do_u 4 a1 len1 cap1 z1 v2 hS2 hil2 (by omega) hw1 (by omega) (by omega)
          rw [e3, e4, e5] at d2
          clear d1 hk2 hS1 hil1 hb1 e1 e2 e3 e4 e5
          go_wp2_with fail
          refine d2.mono ?_
          rintro e v3 ⟨rfl, ⟨N3, hN3, hS3⟩, hk3⟩
          have hb3 := hb2.trans (hk3.below (B := w.heap.size) hb2.size (fun i hi e => by omega))
          have hil3 := hil2.kept hk3 (fun ad e h => hilk ad e h)
          have d3 := do_u 5 a1 len1 cap1 z1 v3 hS3 hil3 (by omega) hw1 (by omega) (by omega)
          rw [e6, e7, e8] at d3
          clear d2 hk3 hS2 hil2 hb2 e6 e7 e8
          go_wp2_with fail
          refine d3.mono ?_
          rintro e v4 ⟨rfl, ⟨N4, hN4, hS4⟩, hk4⟩
          have hb4 := hb3.trans (hk4.below (B := w.heap.size) hb3.size (fun i hi e => by omega))
          have hil4 := hil3.kept hk4 (fun ad e h => hilk ad e h)
          have d4 := do_u 3 a1 len1 cap1 z1 v4 hS4 hil4 (by omega) hw1 (by omega) (by omega)
          rw [e9, e10, e11] at d4
          clear d3 hk4 hS3 hil3 hb3 e9 e10 e11
          go_wp2_with fail
          refine d4.mono ?_
          rintro e v5 ⟨rfl, ⟨N5, hN5, hS5⟩, hk5⟩
          have hb5 := hb4.trans (hk5.below (B := w.heap.size) hb4.size (fun i hi e => by omega))
          clear d4 hk5 hS4 hil4 hb4
          go_wp2_with fail
          refine (hpk v5 N5 hS5).mono ?_
          rintro e v6 ⟨A6, c6, rfl, hc6', hm6', hrb6, hx6, -⟩
          have hcv6 := run_str v6 A6 C.length c6 C hrb6
          clear hpk hrb6 hS5
          go_wp2
          go_ret
          exact ⟨rfl, hb5.trans (hx6.mono hb5.size)⟩
        · have d1 := do_u 2 a1 len1 cap1 z1 v1 hS1 hil1 (by omega) hw1 (by omega) (by omega)
          rw [show doF f ks 2 z1 = f from by unfold doF; rw [if_neg h0], show doK f ks 2 z1 = ks from by unfold doK; rw [if_neg h0]] at d1
          obtain ⟨E, hE⟩ : ∃ E, doE f ks 2 z1 = E := ⟨_, rfl⟩
          rw [hE] at d1 h0
          have hne : (E != 0) = true := by simp [h0]
          clear hE h0
          go_wp2_with fail
          refine d1.mono ?_
          rintro e v2 ⟨rfl, ⟨N2, hN2, hS2⟩, hk2⟩
          have hb2 := hb1.trans (hk2.below (B := w.heap.size) hb1.size (fun i hi e => by omega))
          clear d1 hk2 hS1 hil1 hb1
          go_wp2_with fail
          refine (hpk v2 N2 hS2).mono ?_
          rintro e v6 ⟨A6, c6, rfl, hc6', hm6', hrb6, hx6, -⟩
          have hcv6 := run_str v6 A6 C.length c6 C hrb6
          clear hpk hrb6 hS2
          go_wp2
          go_ret
          exact ⟨rfl, hb2.trans (hx6.mono hb2.size)⟩
      · as_aux_lemma =>
        have hlz : decide ((k : Int) < (len : Int)) = false := decide_eq_false (by omega)
        clear hlt
        have hil := hr1.below hb
        have hln1 := hr1.len
        have hn1 : len1 ≤ 100 := h100
        clear hk0 hr1
        obtain ⟨C, hC⟩ : ∃ C, packC f ks = C := ⟨_, rfl⟩
        have hpk := fun (W : World) (N : Nat) (h : ST W p b N f ks) => spack_any h hks64 hSK.len hSK.ints
        rw [hC] at hpk
        clear hC
        have hbeq : ((ByteArray.mk C.toArray) == (ByteArray.mk C.toArray)) = true := (str_eq C C).trans (by simp)
        go_wp2_with fail
        refine (hpk wr N hS).mono ?_
        rintro e v1 ⟨A1, c1, rfl, hc1', hm1', hrb1, hx1, -⟩
        have hcv1 := run_str v1 A1 C.length c1 C hrb1
        have hS1 := hS.below hx1
        have hil1 := hil.below hx1
        have hb1 := hb.trans (hx1.mono hb.size)
        clear hS hil hb hx1 hrb1
        have hilk := hil1.map_not hS1
        by_cases h0 : doE f ks 2 z1 = 0
        · obtain ⟨f1, f2, f3, e1, e2, e3, e4, e5, e6, e7, e8, e9, e10, e11⟩ := back_all hSK h0
          have d1 := do_u 2 a1 len1 cap1 z1 v1 hS1 hil1 (by omega) hw1 (by omega) (by omega)
          rw [h0, e1, e2] at d1
          go_wp2_with fail
          refine d1.mono ?_
          rintro e v2 ⟨rfl, ⟨N2, hN2, hS2⟩, hk2⟩
          have hb2 := hb1.trans (hk2.below (B := w.heap.size) hb1.size (fun i hi e => by omega))
          have hil2 := hil1.kept hk2 (fun ad e h => hilk ad e h)
          have d2 := do_u 4 a1 len1 cap1 z1 v2 hS2 hil2 (by omega) hw1 (by omega) (by omega)
          rw [e3, e4, e5] at d2
          clear d1 hk2 hS1 hil1 hb1 e1 e2 e3 e4 e5
          go_wp2_with fail
          refine d2.mono ?_
          rintro e v3 ⟨rfl, ⟨N3, hN3, hS3⟩, hk3⟩
          have hb3 := hb2.trans (hk3.below (B := w.heap.size) hb2.size (fun i hi e => by omega))
          have hil3 := hil2.kept hk3 (fun ad e h => hilk ad e h)
          have d3 := do_u 5 a1 len1 cap1 z1 v3 hS3 hil3 (by omega) hw1 (by omega) (by omega)
          rw [e6, e7, e8] at d3
          clear d2 hk3 hS2 hil2 hb2 e6 e7 e8
          go_wp2_with fail
          refine d3.mono ?_
          rintro e v4 ⟨rfl, ⟨N4, hN4, hS4⟩, hk4⟩
          have hb4 := hb3.trans (hk4.below (B := w.heap.size) hb3.size (fun i hi e => by omega))
          have hil4 := hil3.kept hk4 (fun ad e h => hilk ad e h)
          have d4 := do_u 3 a1 len1 cap1 z1 v4 hS4 hil4 (by omega) hw1 (by omega) (by omega)
          rw [e9, e10, e11] at d4
          clear d3 hk4 hS3 hil3 hb3 e9 e10 e11
          go_wp2_with fail
          refine d4.mono ?_
          rintro e v5 ⟨rfl, ⟨N5, hN5, hS5⟩, hk5⟩
          have hb5 := hb4.trans (hk5.below (B := w.heap.size) hb4.size (fun i hi e => by omega))
          clear d4 hk5 hS4 hil4 hb4
          go_wp2_with fail
          refine (hpk v5 N5 hS5).mono ?_
          rintro e v6 ⟨A6, c6, rfl, hc6', hm6', hrb6, hx6, -⟩
          have hcv6 := run_str v6 A6 C.length c6 C hrb6
          clear hpk hrb6 hS5
          go_wp2
          go_ret
          exact ⟨rfl, hb5.trans (hx6.mono hb5.size)⟩
        · have d1 := do_u 2 a1 len1 cap1 z1 v1 hS1 hil1 (by omega) hw1 (by omega) (by omega)
          rw [show doF f ks 2 z1 = f from by unfold doF; rw [if_neg h0], show doK f ks 2 z1 = ks from by unfold doK; rw [if_neg h0]] at d1
          obtain ⟨E, hE⟩ : ∃ E, doE f ks 2 z1 = E := ⟨_, rfl⟩
          rw [hE] at d1 h0
          have hne : (E != 0) = true := by simp [h0]
          clear hE h0
          go_wp2_with fail
          refine d1.mono ?_
          rintro e v2 ⟨rfl, ⟨N2, hN2, hS2⟩, hk2⟩
          have hb2 := hb1.trans (hk2.below (B := w.heap.size) hb1.size (fun i hi e => by omega))
          clear d1 hk2 hS1 hil1 hb1
          go_wp2_with fail
          refine (hpk v2 N2 hS2).mono ?_
          rintro e v6 ⟨A6, c6, rfl, hc6', hm6', hrb6, hx6, -⟩
          have hcv6 := run_str v6 A6 C.length c6 C hrb6
          clear hpk hrb6 hS2
          go_wp2
          go_ret
          exact ⟨rfl, hb2.trans (hx6.mono hb2.size)⟩

namespace stockBackDone
open Go.ChangeShapes Go.WideShapes Go.ChangeAt
set_option maxRecDepth 100000 in
theorem lifted (os : Os) (started : os.Started) (H : Type) (enc : TypeId × Value → H) :
    ReturnsInHanded {} Try.checked os 3 .any (Rows.stockBackSpec.pre6 enc Try.prog Try.f3 Rows.stockBackRow.domain false) (Rows.stockBackSpec.post enc Try.prog Try.f3 false true false false) := by
  refine returnsInHanded_of_change_sized (C := Try.checked) own started (by kernel_rfl) Try.func3
    (ChangeSpec.witness6 (enc := enc) (C := Try.checked) false ⟨#[], #[Value.slice none 0 0, Value.slice none 0 0], []⟩ 8 (by kernel_rfl) (by kernel_rfl) (by kernel_rfl) (by kernel_rfl)) ?_
  intro W base args ds gs before hval0 hW hcnd hsz0 _
  have hsz : (DataW.weightsEach Try.prog (Try.f3.params.toList ++ Rows.stockBackSpec.plain.varTypes Try.prog) (ds ++ gs)).all (· ≤ reachBytes) = true := hsz0
  clear hsz0
  have hval : ∀ (j : Nat) t v, Try.f3.params[j]? = some t → args[j]? = some v → Value.okWide Try.prog W .any base t v := hval0
  have hW' := hW
  obtain ⟨p, q, hA0, hV, rfl, hfz, hnd⟩ := hW
  have hA : DataW.TrodAll enc Try.prog W 0 (fun _ => true) true Try.f3.params.toList args.toList ds p := hA0
  rw [Try.params3] at hA hval hsz
  obtain ⟨v0, vs0, d0, ds0, p0, q0, hargs, rfl, rfl, h0, r0⟩ := trodAll_cons hA
  obtain ⟨v1, vs1, d1, ds1, p1, q1, rfl, rfl, rfl, h1, r1⟩ := trodAll_cons r0
  obtain ⟨rfl, rfl, rfl⟩ := trodAll_nil r1
  obtain rfl : args = #[v0, v1] := by cases args; simp_all
  obtain ⟨rfl, rfl⟩ := trodVars_none hV
  obtain ⟨a0, len0, cap0, rfl⟩ := okWide_slice Try.underlying22 (hval 0 22 v0 rfl rfl)
  have k0 := h0
  have lt0 : ∀ x ∈ p0, x.block < W.heap.size := by obtain ⟨m, hm⟩ := k0; exact DataW.trod_lt m _ _ _ hm
  obtain ⟨f0, ho0, hc0, hm0⟩ := ops_open h0
  obtain ⟨a1, len1, cap1, rfl⟩ := okWide_slice Try.underlying23 (hval 1 23 v1 rfl rfl)
  have k1 := h1
  have lt1 : ∀ x ∈ p1, x.block < W.heap.size := by obtain ⟨m, hm⟩ := k1; exact DataW.trod_lt m _ _ _ hm
  obtain ⟨z1, hr1, hw1, hc1, hm1, hd1⟩ := items_open h1
  have hl1 : cap1 * 24 ≤ 140737488351232 := by
    rcases hd1 with ⟨_, h⟩ | ⟨es, sp, rfl, h⟩
    · omega
    · have := sized_slice hsz (j := 1) (t := 23) (e := 55) rfl rfl Try.underlying23
      rw [bytes_item] at this
      simp only [reachBytes] at this
      omega
  clear hA0 hval0
  refine (stockBack_walk (w := W) a0 len0 cap0 f0 ho0 hc0 hm0 a1 len1 cap1 z1 hr1 hw1 hc1 hm1 hl1).mono fun e W' ⟨he, bel⟩ => ?_
  subst he
  exact ⟨_, rfl, _, _, _, [], _, [], hW', trodAll_mk1 (shut_bool Try.underlying4 _), (trodAll_cons_mk (Below.trod laidOut (by kernel_rfl) (of_decide_eq_true (by kernel_rfl)) k0 bel lt0) (trodAll_cons_mk (Below.trod laidOut (by kernel_rfl) (of_decide_eq_true (by kernel_rfl)) k1 bel lt1) trodAll_mk0)), rfl, bel.frame _, fun h => by cases h⟩

theorem over : Rows.stockBackRow.holds Try.pinned (OpenSpec.ofChange Rows.stockBackSpec) :=
  OpenClaim.holds_of_wide 3 Try.f3 rfl rfl rfl rfl rfl rfl rfl ⟨rfl, rfl, rfl, rfl, rfl⟩ rfl rfl rfl rfl rfl (by kernel_rfl) Try.func3 (by kernel_rfl)
    (of_decide_eq_true (by kernel_rfl)) (by unfold Func.isWrapper; first | (rw [if_pos (by decide +kernel)]; kernel_rfl) | (rw [if_neg (by decide +kernel)]; exact ⟨rfl, rfl⟩))
    (fun os started H enc _ => lifted os started H enc)

/-- The statement. -/
theorem proved : Rows.StockBackSaid := over
end stockBackDone
end Go.Proofs.Ytfogcaeflblpdaa
