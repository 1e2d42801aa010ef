/- 'StockOffers' returns true for every input: the row of this law, proved. No condition. -/
import Derived.Test.YtfogcaeflblpdaaStlG
import Derived.Test.YtfogcaeflblpdaaRgT
import Derived.ProofKit
import Derived.OpenShut
import Derived.ShutString
import Derived.ChangeOld
import Derived.SizedLaws
namespace Go.Proofs.Ytfogcaeflblpdaa
open Go.RowKit
set_option linter.unusedVariables false
set_option linter.unusedSimpArgs false
open Go.Shelf
attribute [local go_sem] Oper.semAt_some
set_option maxRecDepth 100000 in
set_option maxHeartbeats 6400000 in
theorem stockOffers_walk {w : World} (a : Option Addr) (len cap : Nat) (fo : Nat → OpX) (hOP : OPX w a len fo) (hc0 : len ≤ cap) (hm0 : cap ≤ 9223372036854775807)
    (a1 : Option Addr) (len1 cap1 : Nat) (z1 : List It) (hr1 : IL w a1 len1 z1) (hwl1 : WL z1) (hc1 : len1 ≤ cap1) (hm1 : cap1 ≤ 9223372036854775807) (hl1 : cap1 * 24 ≤ 140737488351232) :
    Calls Try.prog 7 #[.slice a len cap, .slice a1 len1 cap1] w fun e w' => e = .returned (.bool true) ∧ RowKit.Below w.heap.size w w' := by
  have hw1 : ∀ x ∈ z1, x.1.length ≤ maxLen := fun x hx => (hwl1 x hx).1
  go_enter Try.func7, Try.ntmps7
  go_wp2_with fail
  refine (snew_any w).mono ?_
  rintro e w1 ⟨p, b, rfl, hS1, hpw, hbw, hb1⟩
  go_wp2_with fail
  refine (lives_any w1).mono ?_
  rintro e w2 ⟨rfl, hx2⟩
  have hS0 := hS1.below hx2
  have hb0 := hb1.trans (hx2.mono hb1.size)
  clear hS1 hb1 hx2
  by_cases h100 : len1 ≤ 100
  case neg =>
    have hd : decide ((100 : Int) < (len1 : Int)) = true := decide_eq_true (by omega)
    go_wp2_with fail
    refine (lives_any w2).mono ?_
    rintro e w3 ⟨rfl, hx3⟩
    go_wp2
    go_ret
    exact ⟨rfl, hb0.trans (hx3.mono hb0.size)⟩
  have hd : decide ((100 : Int) < (len1 : Int)) = false := decide_eq_false (by omega)
  go_wp2
  go_loopw [6] (fun i wr => ∃ (k N : Nat) (f : List UInt8 → Row) (ks : List (List UInt8)), i = .int .i64 (k : Int) ∧ k ≤ len ∧ k ≤ 60 ∧ ST wr p b N f ks ∧ N ≤ 100 * k ∧ ks.length ≤ 100 * k ∧ SKO f ks ∧ RowKit.Below w.heap.size w wr) (fun i _ => 60 - (intOf i).toNat)
  case atStart => exact ⟨0, 0, _, [], by go_num, by omega, by omega, hS0, by omega, by simp, SKO.start, hb0⟩
  case round =>
    obtain ⟨k, N, f, ks, rfl, hkl, hk60, hS, hN, hks, hSK, hb⟩ := hrel
    clear hS0 hb0
    have hk0 : (0 : Int) ≤ (k : Int) := by omega
    by_cases hlt : k < len ∧ k < 60
    · as_aux_lemma =>
      obtain ⟨hlt1, hlt2⟩ := hlt
      have hlz : decide ((k : Int) < (len : Int)) = true := decide_eq_true (by omega)
      have hlz1 : (k : Int) < (len : Int) := by omega
      have hl60 : decide ((k : Int) < 60) = true := decide_eq_true (by omega)
      obtain ⟨bl, off, rfl, hblw, hops⟩ := hOP (by omega)
      have hok := hops k hlt1
      have hokr := hok.below hb
      obtain ⟨q0, q1⟩ := And.intro hokr.c0 hokr.c1
      by_cases h100 : (fo k).o.l.length ≤ 100
      · have hd100 : decide ((((fo k).o.l.length : Nat) : Int) ≤ 100) = true := decide_eq_true (by omega)
        have hSz : ST wr.drew p b N f ks := hS.below (RowKit.Below.refl wr.heap.size wr).drew
        have hbz := hb.drew
        have hoz := hok.below hbz
        have sd : (fun W' => W'.cell? ⟨bl, off + k * 4, none⟩ = some (.int .i64 (fo k).o.i0) ∧ W'.cell? ⟨bl, off + k * 4 + 1, none⟩ = some (.slice (fo k).A (fo k).o.l.length (fo k).c)) wr.drew := ⟨hoz.c0, hoz.c1⟩
        have hbb := hS.lt
        go_wp2
        refine wp_region_held_drew (S := (fun W' => W'.cell? ⟨bl, off + k * 4, none⟩ = some (.int .i64 (fo k).o.i0) ∧ W'.cell? ⟨bl, off + k * 4 + 1, none⟩ = some (.slice (fo k).A (fo k).o.l.length (fo k).c))) (by kernel_rfl) sd (fun hHeld => ?_)
        generalize wr.drew = wz at *
        (refine tkI 0 (by (simp only [List.getElem?_toArray, List.getElem?_cons_succ, List.getElem?_cons_zero]; rfl)) (by kernel_rfl) (by kernel_rfl) (by kernel_rfl) (by exact fun _ _ _ h => h) (by rfl) (by (intro w hSw; (try dsimp only at hSw); go_simp <;> with_reducible rfl)) (by assumption) ?_; try simp only [Act.put, List.setIfInBounds_toArray, List.set_cons_zero, List.set_cons_succ])
        (refine tkI 1 (by (simp only [List.getElem?_toArray, List.getElem?_cons_succ, List.getElem?_cons_zero]; rfl)) (by kernel_rfl) (by kernel_rfl) (by kernel_rfl) (by exact fun _ _ _ h => h) (by rfl) (by (intro w hSw; (try dsimp only at hSw); go_simp <;> with_reducible rfl)) (by assumption) ?_; try simp only [Act.put, List.setIfInBounds_toArray, List.set_cons_zero, List.set_cons_succ])
        (refine tkI 2 (by (simp only [List.getElem?_toArray, List.getElem?_cons_succ, List.getElem?_cons_zero]; rfl)) (by kernel_rfl) (by kernel_rfl) (by kernel_rfl) (by exact fun _ _ _ h => h) (by rfl) (by (intro w hSw; (try dsimp only at hSw); go_simp <;> with_reducible rfl)) (by assumption) ?_; try simp only [Act.put, List.setIfInBounds_toArray, List.set_cons_zero, List.set_cons_succ])
        (refine tkI 3 (by (simp only [List.getElem?_toArray, List.getElem?_cons_succ, List.getElem?_cons_zero]; rfl)) (by kernel_rfl) (by kernel_rfl) (by kernel_rfl) (by exact fun _ _ _ h => h) (by rfl) (by (intro w hSw; (try dsimp only at hSw); go_simp <;> with_reducible rfl)) (by assumption) ?_; try simp only [Act.put, List.setIfInBounds_toArray, List.set_cons_zero, List.set_cons_succ])
        (refine tkI 4 (by (simp only [List.getElem?_toArray, List.getElem?_cons_succ, List.getElem?_cons_zero]; rfl)) (by kernel_rfl) (by kernel_rfl) (by kernel_rfl) (by exact fun _ _ _ h => h) (by rfl) (by (intro w hSw; (try dsimp only at hSw); go_simp <;> with_reducible rfl)) (by assumption) ?_; try simp only [Act.put, List.setIfInBounds_toArray, List.set_cons_zero, List.set_cons_succ])
        (refine tkI 5 (by (simp only [List.getElem?_toArray, List.getElem?_cons_succ, List.getElem?_cons_zero]; rfl)) (by kernel_rfl) (by kernel_rfl) (by kernel_rfl) (by exact fun _ _ _ h => h) (by rfl) (by (intro w hSw; (try dsimp only at hSw); go_simp <;> with_reducible rfl)) (by assumption) ?_; try simp only [Act.put, List.setIfInBounds_toArray, List.set_cons_zero, List.set_cons_succ])
        (refine tkI 6 (by (simp only [List.getElem?_toArray, List.getElem?_cons_succ, List.getElem?_cons_zero]; rfl)) (by kernel_rfl) (by kernel_rfl) (by kernel_rfl) (by exact fun _ _ _ h => h) (by rfl) (by (intro w hSw; (try dsimp only at hSw); go_simp <;> with_reducible rfl)) (by assumption) ?_; try simp only [Act.put, List.setIfInBounds_toArray, List.set_cons_zero, List.set_cons_succ])
        (refine tkI 7 (by (simp only [List.getElem?_toArray, List.getElem?_cons_succ, List.getElem?_cons_zero]; rfl)) (by kernel_rfl) (by kernel_rfl) (by kernel_rfl) (by exact fun _ _ _ h => h) (by rfl) (by (intro w hSw; (try dsimp only at hSw); go_simp <;> with_reducible rfl)) (by assumption) ?_; try simp only [Act.put, List.setIfInBounds_toArray, List.set_cons_zero, List.set_cons_succ])
        (refine tkI 8 (by (simp only [List.getElem?_toArray, List.getElem?_cons_succ, List.getElem?_cons_zero]; rfl)) (by kernel_rfl) (by kernel_rfl) (by kernel_rfl) (by exact fun _ _ _ h => h) (by rfl) (by (intro w hSw; (try dsimp only at hSw); go_simp <;> with_reducible rfl)) (by assumption) ?_; try simp only [Act.put, List.setIfInBounds_toArray, List.set_cons_zero, List.set_cons_succ])
        (refine tkI 9 (by (simp only [List.getElem?_toArray, List.getElem?_cons_succ, List.getElem?_cons_zero]; rfl)) (by kernel_rfl) (by kernel_rfl) (by kernel_rfl) (by exact fun _ _ _ h => h) (by rfl) (by (intro w hSw; (try dsimp only at hSw); go_simp <;> with_reducible rfl)) (by assumption) ?_; try simp only [Act.put, List.setIfInBounds_toArray, List.set_cons_zero, List.set_cons_succ])
        (refine tkI 10 (by (simp only [List.getElem?_toArray, List.getElem?_cons_succ, List.getElem?_cons_zero]; rfl)) (by kernel_rfl) (by kernel_rfl) (by kernel_rfl) (by exact fun _ _ _ h => h) (by rfl) (by (intro w hSw; (try dsimp only at hSw); go_simp <;> with_reducible rfl)) (by assumption) ?_; try simp only [Act.put, List.setIfInBounds_toArray, List.set_cons_zero, List.set_cons_succ])
        refine wpAnyH_ready (rs := [11]) (by kernel_rfl) (by simp) ?_
        refine AllReadyH.cons (by (simp only [List.getElem?_toArray, List.getElem?_cons_succ, List.getElem?_cons_zero]; rfl)) (fun K hK => ?_) AllReadyH.nil
        go_simp
        refine (do_u (fo k).o.i0 (fo k).A _ (fo k).c (fo k).o.l wz hSz hoz.at_.il (by omega) (fun x hx => (hoz.at_.wl x hx).1) (by omega) (by omega)).mono ?_
        rintro e w9 ⟨rfl, ⟨N9, hN9, hS9⟩, hk9⟩
        have hb9 := hbz.trans (hk9.below (B := w.heap.size) hbz.size (fun i hi e => by omega))
        have sd9 : (fun W' => W'.cell? ⟨bl, off + k * 4, none⟩ = some (.int .i64 (fo k).o.i0) ∧ W'.cell? ⟨bl, off + k * 4 + 1, none⟩ = some (.slice (fo k).A (fo k).o.l.length (fo k).c)) w9 := ⟨((hb9.cell (World.block_lt_of_cell? _ _ hok.c0)).trans hok.c0), ((hb9.cell (World.block_lt_of_cell? _ _ hok.c1)).trans hok.c1)⟩
        refine hK.out _ _ sd9 (fun hHeld2 => ?_)
        clear hK K hHeld
        have hHeld := hHeld2
        clear hHeld2
        try simp only [Act.put, List.setIfInBounds_toArray, List.set_cons_zero, List.set_cons_succ]
        refine wpAnyH_done (by kernel_rfl) ?_ _
        have hSK9 := hSK.do_ (fo k).o.i0 (fo k).o.l
        have hlen9 := doK_len f ks (fo k).o.i0 (fo k).o.l
        clear sd sd9 hSz hoz hbz hb hS hokr q0 q1
        go_wp2
        go_roundw
        case measure => simp [intOf]; omega
        case rel => exact ⟨k + 1, N9, _, _, by go_num, by omega, by omega, hS9, by omega, by omega, hSK9, hb9⟩
      · have hd100 : decide ((((fo k).o.l.length : Nat) : Int) ≤ 100) = false := decide_eq_false (by omega)
        go_wp2
        go_roundw
        case measure => simp [intOf]; omega
        case rel => exact ⟨k + 1, N, f, ks, by go_num, by omega, by omega, hS, by omega, by omega, hSK, hb⟩
    · clear hOP
      have hks64 : ks.length ≤ 1048576 := by omega
      have hN64 : N ≤ 6000 := by omega
      have hbb := hS.lt
      have hlive := hb.size
      by_cases hh : k < len
      · as_aux_lemma =>
        have hlz : decide ((k : Int) < (len : Int)) = true := decide_eq_true (by omega)
        have hl60 : decide ((k : Int) < 60) = false := decide_eq_false (by omega)
        clear hlt
        have hil := hr1.below hb
        have hln1 := hr1.len
        have hn1 : len1 ≤ 100 := h100
        clear hk0 hr1
        obtain ⟨O, hO⟩ : ∃ O, meetL z1 (freeL f z1) = O := ⟨_, rfl⟩
        have hyes := fun h => offer_ok hSK (l := z1) h
        have hno := fun h => offer_no (f := f) (ks := ks) (l := z1) h
        rw [hO] at hyes hno
        have d0 := offer_any a1 len1 cap1 z1 wr hS hil (by omega) hwl1 hw1
        rw [hO] at d0
        obtain ⟨E, hE⟩ : ∃ E, doE f ks 2 z1 = E := ⟨_, rfl⟩
        rw [hE] at hyes hno
        go_wp2_with fail
        refine d0.mono ?_
        rintro e v1 ⟨u1, rfl, hO1, hx1⟩
        obtain ⟨A1, c1, rfl, hlc1, hmc1, hilO1, hAO⟩ := hO1.form
        have hS1 := hS.below hx1
        have hil1 := hil.below hx1
        have hb1 := hb.trans (hx1.mono hb.size)
        have hOl : O.length ≤ 9223372036854775807 := by unfold maxLen at hmc1; omega
        clear d0 hS hil hb hx1 hO1 hO
        have hMa := refmay_b a1 len1 cap1 z1 v1 hil1 (by omega) (fun x hx => by have := hw1 x hx; unfold maxLen at this; omega)
        obtain ⟨M, hM⟩ : ∃ M, mayL z1 = M := ⟨_, rfl⟩
        rw [hM] at hMa hyes hno
        go_wp2_with fail
        refine hMa.mono ?_
        rintro e v2 ⟨rfl, hx2⟩
        have hS2 := hS1.below hx2
        have hil2 := hil1.below hx2
        have hilO2 := hilO1.below hx2
        have hb2 := hb1.trans (hx2.mono hb1.size)
        clear hMa hM hS1 hil1 hilO1 hb1 hx2
        cases M with
        | false =>
          obtain ⟨hO0, hE0⟩ := hno rfl
          subst hO0
          have hEb : (E == 0) = false := by simp [hE0]
          clear hyes hno hilO2 hE0
          go_wp2_with fail
          refine (fork_any v2 hS2).mono ?_
          rintro e v3 ⟨p', b', rfl, hS3', hS3, hp', hb', hx3⟩
          have hil3 := hil2.below hx3
          have hb3 := hb2.trans (hx3.mono hb2.size)
          clear hS2 hil2 hx3 hb2
          have hln0 : decide ((0 : Int) < ((0 : Nat) : Int)) = false := rfl
          have v4e : True := trivial
          have hS4 := hS3
          have hil4 := hil3
          have hb4 := hb3
          clear hS3 hil3 hb3 hS3'
          obtain ⟨v4, rfl⟩ : ∃ v4, v4 = v3 := ⟨_, rfl⟩
          have hbb4 := hS4.lt
          have d2 := do_u 2 a1 len1 cap1 z1 v4 hS4 hil4 (by omega) hw1 (by omega) (by have := hSK.len64; omega)
          rw [hE] at d2
          clear hE
          go_wp2_with fail
          refine d2.mono ?_
          rintro e v5 ⟨rfl, _, hk5⟩
          have hb5 := hb4.trans (hk5.below (B := w.heap.size) hb4.size (fun i hi e => by omega))
          clear d2 hk5 hS4 hil4 hb4
          go_wp2
          go_ret
          exact ⟨rfl, hb5⟩
        | true =>
        obtain ⟨hE1, hE2⟩ := hyes rfl
        clear hyes hno
        have hsm := same_b A1 a1 O.length c1 len1 cap1 O z1 v2 hilO2 hil2 hOl
        obtain ⟨BB, hBB⟩ : ∃ BB, decide (O = z1) = BB := ⟨_, rfl⟩
        rw [hBB] at hsm hE2
        have hEq : (E == 0) = BB := by rw [hE2]; by_cases h : E = 0 <;> simp [h]
        have hBB2 : (BB == BB) = true := by cases BB <;> rfl
        clear hBB hE2
        go_wp2_with fail
        refine hsm.mono ?_
        rintro e v2' ⟨rfl, hx2⟩
        have hS2' := hS2.below hx2
        have hil2' := hil2.below hx2
        have hilO2' := hilO2.below hx2
        have hb2' := hb2.trans (hx2.mono hb2.size)
        clear hsm hS2 hil2 hilO2 hb2 hx2
        go_wp2_with fail
        refine (fork_any v2' hS2').mono ?_
        rintro e v3 ⟨p', b', rfl, hS3', hS3, hp', hb', hx3⟩
        have hil3 := hil2'.below hx3
        have hilO3 := hilO2'.below hx3
        have hb3 := hb2'.trans (hx3.mono hb2'.size)
        have hz3 := hb2'.size
        have hlt2 := hS2'.lt
        clear hS2' hil2' hilO2' hx3 hb2'
        by_cases hL : O.length = 0
        · have hO0 := List.eq_nil_of_length_eq_zero hL
          subst hO0
          clear hL hilO3 hE1
          have hln0 : decide ((0 : Int) < ((0 : Nat) : Int)) = false := rfl
          have v4e : True := trivial
          have hS4 := hS3
          have hil4 := hil3
          have hb4 := hb3
          clear hS3 hil3 hb3 hS3'
          obtain ⟨v4, rfl⟩ : ∃ v4, v4 = v3 := ⟨_, rfl⟩
          have hbb4 := hS4.lt
          have d2 := do_u 2 a1 len1 cap1 z1 v4 hS4 hil4 (by omega) hw1 (by omega) (by have := hSK.len64; omega)
          rw [hE] at d2
          clear hE
          go_wp2_with fail
          refine d2.mono ?_
          rintro e v5 ⟨rfl, _, hk5⟩
          have hb5 := hb4.trans (hk5.below (B := w.heap.size) hb4.size (fun i hi e => by omega))
          clear d2 hk5 hS4 hil4 hb4
          go_wp2
          go_ret
          exact ⟨rfl, hb5⟩
        · have hLd : decide ((0 : Int) < (O.length : Int)) = true := decide_eq_true (by omega)
          have hO16 : O.length ≤ 16 := (MY.of_ (doE_zero hE1).2.1).len
          have hOw : ∀ x ∈ O, x.1.length ≤ maxLen := fun x hx => by have := gOK_len ((MY.of_ (doE_zero hE1).2.1).good x hx); unfold maxLen; omega
          have hmn := hil3.map_not hS3'
          have d1 := do_u 2 A1 O.length c1 O v3 hS3' hilO3 (by omega) hOw (by omega) (by have := hSK.len64; omega)
          rw [hE1] at d1
          go_wp2_with fail
          refine d1.mono ?_
          rintro e v4 ⟨rfl, _, hk4⟩
          have hS4 := hS3.kept hk4 (by omega) (by omega)
          have hil4 := hil3.kept hk4 (fun ad e h => hmn ad e h)
          have hb4 := hb3.trans (hk4.below (B := w.heap.size) hb3.size (fun i hi e => by omega))
          clear d1 hk4 hS3 hS3' hil3 hilO3 hb3 hmn
          have hbb4 := hS4.lt
          have d2 := do_u 2 a1 len1 cap1 z1 v4 hS4 hil4 (by omega) hw1 (by omega) (by have := hSK.len64; omega)
          rw [hE] at d2
          clear hE
          go_wp2_with fail
          refine d2.mono ?_
          rintro e v5 ⟨rfl, _, hk5⟩
          have hb5 := hb4.trans (hk5.below (B := w.heap.size) hb4.size (fun i hi e => by omega))
          clear d2 hk5 hS4 hil4 hb4
          go_wp2
          go_ret
          exact ⟨rfl, hb5⟩
      · as_aux_lemma =>
        have hlz : decide ((k : Int) < (len : Int)) = false := decide_eq_false (by omega)
        clear hlt
        have hil := hr1.below hb
        have hln1 := hr1.len
        have hn1 : len1 ≤ 100 := h100
        clear hk0 hr1
        obtain ⟨O, hO⟩ : ∃ O, meetL z1 (freeL f z1) = O := ⟨_, rfl⟩
        have hyes := fun h => offer_ok hSK (l := z1) h
        have hno := fun h => offer_no (f := f) (ks := ks) (l := z1) h
        rw [hO] at hyes hno
        have d0 := offer_any a1 len1 cap1 z1 wr hS hil (by omega) hwl1 hw1
        rw [hO] at d0
        obtain ⟨E, hE⟩ : ∃ E, doE f ks 2 z1 = E := ⟨_, rfl⟩
        rw [hE] at hyes hno
        go_wp2_with fail
        refine d0.mono ?_
        rintro e v1 ⟨u1, rfl, hO1, hx1⟩
        obtain ⟨A1, c1, rfl, hlc1, hmc1, hilO1, hAO⟩ := hO1.form
        have hS1 := hS.below hx1
        have hil1 := hil.below hx1
        have hb1 := hb.trans (hx1.mono hb.size)
        have hOl : O.length ≤ 9223372036854775807 := by unfold maxLen at hmc1; omega
        clear d0 hS hil hb hx1 hO1 hO
        have hMa := refmay_b a1 len1 cap1 z1 v1 hil1 (by omega) (fun x hx => by have := hw1 x hx; unfold maxLen at this; omega)
        obtain ⟨M, hM⟩ : ∃ M, mayL z1 = M := ⟨_, rfl⟩
        rw [hM] at hMa hyes hno
        go_wp2_with fail
        refine hMa.mono ?_
        rintro e v2 ⟨rfl, hx2⟩
        have hS2 := hS1.below hx2
        have hil2 := hil1.below hx2
        have hilO2 := hilO1.below hx2
        have hb2 := hb1.trans (hx2.mono hb1.size)
        clear hMa hM hS1 hil1 hilO1 hb1 hx2
        cases M with
        | false =>
          obtain ⟨hO0, hE0⟩ := hno rfl
          subst hO0
          have hEb : (E == 0) = false := by simp [hE0]
          clear hyes hno hilO2 hE0
          go_wp2_with fail
          refine (fork_any v2 hS2).mono ?_
          rintro e v3 ⟨p', b', rfl, hS3', hS3, hp', hb', hx3⟩
          have hil3 := hil2.below hx3
          have hb3 := hb2.trans (hx3.mono hb2.size)
          clear hS2 hil2 hx3 hb2
          have hln0 : decide ((0 : Int) < ((0 : Nat) : Int)) = false := rfl
          have v4e : True := trivial
          have hS4 := hS3
          have hil4 := hil3
          have hb4 := hb3
          clear hS3 hil3 hb3 hS3'
          obtain ⟨v4, rfl⟩ : ∃ v4, v4 = v3 := ⟨_, rfl⟩
          have hbb4 := hS4.lt
          have d2 := do_u 2 a1 len1 cap1 z1 v4 hS4 hil4 (by omega) hw1 (by omega) (by have := hSK.len64; omega)
          rw [hE] at d2
          clear hE
          go_wp2_with fail
          refine d2.mono ?_
          rintro e v5 ⟨rfl, _, hk5⟩
          have hb5 := hb4.trans (hk5.below (B := w.heap.size) hb4.size (fun i hi e => by omega))
          clear d2 hk5 hS4 hil4 hb4
          go_wp2
          go_ret
          exact ⟨rfl, hb5⟩
        | true =>
        obtain ⟨hE1, hE2⟩ := hyes rfl
        clear hyes hno
        have hsm := same_b A1 a1 O.length c1 len1 cap1 O z1 v2 hilO2 hil2 hOl
        obtain ⟨BB, hBB⟩ : ∃ BB, decide (O = z1) = BB := ⟨_, rfl⟩
        rw [hBB] at hsm hE2
        have hEq : (E == 0) = BB := by rw [hE2]; by_cases h : E = 0 <;> simp [h]
        have hBB2 : (BB == BB) = true := by cases BB <;> rfl
        clear hBB hE2
        go_wp2_with fail
        refine hsm.mono ?_
        rintro e v2' ⟨rfl, hx2⟩
        have hS2' := hS2.below hx2
        have hil2' := hil2.below hx2
        have hilO2' := hilO2.below hx2
        have hb2' := hb2.trans (hx2.mono hb2.size)
        clear hsm hS2 hil2 hilO2 hb2 hx2
        go_wp2_with fail
        refine (fork_any v2' hS2').mono ?_
        rintro e v3 ⟨p', b', rfl, hS3', hS3, hp', hb', hx3⟩
        have hil3 := hil2'.below hx3
        have hilO3 := hilO2'.below hx3
        have hb3 := hb2'.trans (hx3.mono hb2'.size)
        have hz3 := hb2'.size
        have hlt2 := hS2'.lt
        clear hS2' hil2' hilO2' hx3 hb2'
        by_cases hL : O.length = 0
        · have hO0 := List.eq_nil_of_length_eq_zero hL
          subst hO0
          clear hL hilO3 hE1
          have hln0 : decide ((0 : Int) < ((0 : Nat) : Int)) = false := rfl
          have v4e : True := trivial
          have hS4 := hS3
          have hil4 := hil3
          have hb4 := hb3
          clear hS3 hil3 hb3 hS3'
          obtain ⟨v4, rfl⟩ : ∃ v4, v4 = v3 := ⟨_, rfl⟩
          have hbb4 := hS4.lt
          have d2 := do_u 2 a1 len1 cap1 z1 v4 hS4 hil4 (by omega) hw1 (by omega) (by have := hSK.len64; omega)
          rw [hE] at d2
          clear hE
          go_wp2_with fail
          refine d2.mono ?_
          rintro e v5 ⟨rfl, _, hk5⟩
          have hb5 := hb4.trans (hk5.below (B := w.heap.size) hb4.size (fun i hi e => by omega))
          clear d2 hk5 hS4 hil4 hb4
          go_wp2
          go_ret
          exact ⟨rfl, hb5⟩
        · have hLd : decide ((0 : Int) < (O.length : Int)) = true := decide_eq_true (by omega)
          have hO16 : O.length ≤ 16 := (MY.of_ (doE_zero hE1).2.1).len
          have hOw : ∀ x ∈ O, x.1.length ≤ maxLen := fun x hx => by have := gOK_len ((MY.of_ (doE_zero hE1).2.1).good x hx); unfold maxLen; omega
          have hmn := hil3.map_not hS3'
          have d1 := do_u 2 A1 O.length c1 O v3 hS3' hilO3 (by omega) hOw (by omega) (by have := hSK.len64; omega)
          rw [hE1] at d1
          go_wp2_with fail
          refine d1.mono ?_
          rintro e v4 ⟨rfl, _, hk4⟩
          have hS4 := hS3.kept hk4 (by omega) (by omega)
          have hil4 := hil3.kept hk4 (fun ad e h => hmn ad e h)
          have hb4 := hb3.trans (hk4.below (B := w.heap.size) hb3.size (fun i hi e => by omega))
          clear d1 hk4 hS3 hS3' hil3 hilO3 hb3 hmn
          have hbb4 := hS4.lt
          have d2 := do_u 2 a1 len1 cap1 z1 v4 hS4 hil4 (by omega) hw1 (by omega) (by have := hSK.len64; omega)
          rw [hE] at d2
          clear hE
          go_wp2_with fail
          refine d2.mono ?_
          rintro e v5 ⟨rfl, _, hk5⟩
          have hb5 := hb4.trans (hk5.below (B := w.heap.size) hb4.size (fun i hi e => by omega))
          clear d2 hk5 hS4 hil4 hb4
          go_wp2
          go_ret
          exact ⟨rfl, hb5⟩

namespace stockOffersDone
open Go.ChangeShapes Go.WideShapes Go.ChangeAt
set_option maxRecDepth 100000 in
theorem lifted (os : Os) (started : os.Started) (H : Type) (enc : TypeId × Value → H) :
    ReturnsInHanded {} Try.checked os 7 .any (Rows.stockOffersSpec.pre6 enc Try.prog Try.f7 Rows.stockOffersRow.domain false) (Rows.stockOffersSpec.post enc Try.prog Try.f7 false true false false) := by
  refine returnsInHanded_of_change_sized (C := Try.checked) own started (by kernel_rfl) Try.func7
    (ChangeSpec.witness6 (enc := enc) (C := Try.checked) false ⟨#[], #[Value.slice none 0 0, Value.slice none 0 0], []⟩ 8 (by kernel_rfl) (by kernel_rfl) (by kernel_rfl) (by kernel_rfl)) ?_
  intro W base args ds gs before hval0 hW hcnd hsz0 _
  have hsz : (DataW.weightsEach Try.prog (Try.f7.params.toList ++ Rows.stockOffersSpec.plain.varTypes Try.prog) (ds ++ gs)).all (· ≤ reachBytes) = true := hsz0
  clear hsz0
  have hval : ∀ (j : Nat) t v, Try.f7.params[j]? = some t → args[j]? = some v → Value.okWide Try.prog W .any base t v := hval0
  have hW' := hW
  obtain ⟨p, q, hA0, hV, rfl, hfz, hnd⟩ := hW
  have hA : DataW.TrodAll enc Try.prog W 0 (fun _ => true) true Try.f7.params.toList args.toList ds p := hA0
  rw [Try.params7] at hA hval hsz
  obtain ⟨v0, vs0, d0, ds0, p0, q0, hargs, rfl, rfl, h0, r0⟩ := trodAll_cons hA
  obtain ⟨v1, vs1, d1, ds1, p1, q1, rfl, rfl, rfl, h1, r1⟩ := trodAll_cons r0
  obtain ⟨rfl, rfl, rfl⟩ := trodAll_nil r1
  obtain rfl : args = #[v0, v1] := by cases args; simp_all
  obtain ⟨rfl, rfl⟩ := trodVars_none hV
  obtain ⟨a0, len0, cap0, rfl⟩ := okWide_slice Try.underlying22 (hval 0 22 v0 rfl rfl)
  have k0 := h0
  have lt0 : ∀ x ∈ p0, x.block < W.heap.size := by obtain ⟨m, hm⟩ := k0; exact DataW.trod_lt m _ _ _ hm
  obtain ⟨f0, ho0, hc0, hm0⟩ := ops_open h0
  obtain ⟨a1, len1, cap1, rfl⟩ := okWide_slice Try.underlying23 (hval 1 23 v1 rfl rfl)
  have k1 := h1
  have lt1 : ∀ x ∈ p1, x.block < W.heap.size := by obtain ⟨m, hm⟩ := k1; exact DataW.trod_lt m _ _ _ hm
  obtain ⟨z1, hr1, hw1, hc1, hm1, hd1⟩ := items_open h1
  have hl1 : cap1 * 24 ≤ 140737488351232 := by
    rcases hd1 with ⟨_, h⟩ | ⟨es, sp, rfl, h⟩
    · omega
    · have := sized_slice hsz (j := 1) (t := 23) (e := 55) rfl rfl Try.underlying23
      rw [bytes_item] at this
      simp only [reachBytes] at this
      omega
  clear hA0 hval0
  refine (stockOffers_walk (w := W) a0 len0 cap0 f0 ho0 hc0 hm0 a1 len1 cap1 z1 hr1 hw1 hc1 hm1 hl1).mono fun e W' ⟨he, bel⟩ => ?_
  subst he
  exact ⟨_, rfl, _, _, _, [], _, [], hW', trodAll_mk1 (shut_bool Try.underlying4 _), (trodAll_cons_mk (Below.trod laidOut (by kernel_rfl) (of_decide_eq_true (by kernel_rfl)) k0 bel lt0) (trodAll_cons_mk (Below.trod laidOut (by kernel_rfl) (of_decide_eq_true (by kernel_rfl)) k1 bel lt1) trodAll_mk0)), rfl, bel.frame _, fun h => by cases h⟩

theorem over : Rows.stockOffersRow.holds Try.pinned (OpenSpec.ofChange Rows.stockOffersSpec) :=
  OpenClaim.holds_of_wide 7 Try.f7 rfl rfl rfl rfl rfl rfl rfl ⟨rfl, rfl, rfl, rfl, rfl⟩ rfl rfl rfl rfl rfl (by kernel_rfl) Try.func7 (by kernel_rfl)
    (of_decide_eq_true (by kernel_rfl)) (by unfold Func.isWrapper; first | (rw [if_pos (by decide +kernel)]; kernel_rfl) | (rw [if_neg (by decide +kernel)]; exact ⟨rfl, rfl⟩))
    (fun os started H enc _ => lifted os started H enc)

/-- The statement. -/
theorem proved : Rows.StockOffersSaid := over
end stockOffersDone
end Go.Proofs.Ytfogcaeflblpdaa
