/- 'GoodsKept' returns true for every input: the row of this law, proved. No condition. -/
import Derived.Test.YtipmamgmcipbfaaGdL
import Derived.Test.YtipmamgmcipbfaaRgT
import Derived.Deep.CutBlock
import Derived.Deep.CutRange
import Derived.ProofKit
import Derived.OpenShut
import Derived.ShutString
import Derived.ChangeOld
import Derived.SizedLaws
namespace Go.Proofs.Ytipmamgmcipbfaa
open Go.RowKit
set_option linter.unusedVariables false
set_option linter.unusedSimpArgs false
open Go.Shelf
attribute [local go_sem] Oper.semAt_some
set_option maxRecDepth 100000 in
set_option maxHeartbeats 6400000 in
theorem goodsKept_walk {w : World} (n : Int) (w0 : (Lit.int .i64 n).wf = true) (a : Option Addr) (len cap : Nat) (fo : Nat → OpX) (hOP : OPX w a len fo) (hc0 : len ≤ cap) (hm0 : cap ≤ 9223372036854775807)
    (ta : Option Addr) (tl tc : Nat) (tz : List Int) (hT : VL w ta tl (tz.map (Value.int .i64))) (htc : tl ≤ tc) (htm : tc ≤ 9223372036854775807) :
    Calls Try.prog 4 #[.int .i64 n, .slice a len cap, .slice ta tl tc] w fun e w' => e = .returned (.bool true) ∧ RowKit.Below w.heap.size w w' := by
  clear w0
  by_cases hn : 1 ≤ n ∧ n ≤ 5
  case neg =>
    by_cases h1 : n < 1
    · have hd : decide (n < 1) = true := decide_eq_true h1
      go_enter Try.func4, Try.ntmps4
      go_wp2_with fail
      refine (lives_any _).mono ?_
      rintro e w3 ⟨rfl, hx3⟩
      go_wp2
      go_ret
      exact ⟨rfl, hx3⟩
    · have hd : decide (n < 1) = false := decide_eq_false h1
      have hd2 : decide (5 < n) = true := decide_eq_true (by omega)
      go_enter Try.func4, Try.ntmps4
      go_wp2_with fail
      refine (lives_any _).mono ?_
      rintro e w3 ⟨rfl, hx3⟩
      go_wp2
      go_ret
      exact ⟨rfl, hx3⟩
  obtain ⟨hn1, hn5⟩ := hn
  obtain ⟨m, rfl⟩ : ∃ m : Nat, n = (m : Int) := ⟨n.toNat, by omega⟩
  have hd : decide ((m : Int) < 1) = false := decide_eq_false (by omega)
  have hd2 : decide ((5 : Int) < (m : Int)) = false := decide_eq_false (by omega)
  go_enter Try.func4, Try.ntmps4
  go_wp2
  clear hd hd2
  go_loopw [7, 8] (fun v i wr => ∃ (k : Nat) (A : Option Addr) (c : Nat) (P : List (Nat × Nat)) (l : List Sk), v = .slice A k c ∧ i = .int .i64 (k : Int) ∧ k ≤ m ∧ P.length = k ∧ PO w.heap.size wr (.slice A k c) (l.map Sk.v) ∧ AS wr P l 0 ∧ (∀ x ∈ l, x.f = fun _ => row0) ∧ (∀ pb ∈ P, w.heap.size ≤ pb.2) ∧ RowKit.Below w.heap.size w wr) (fun _ i _ => m - (intOf i).toNat)
  case atStart => exact ⟨0, none, 0, [], [], rfl, by go_num, by omega, rfl, PO.nil _ _, AS.nil _, fun x h => by simp at h, fun x h => by simp at h, RowKit.Below.refl _ _⟩
  case round =>
    obtain ⟨k, A, c, P, l, rfl, rfl, hk, hPl, hPO, hAS, hrow, hPb, hb⟩ := hrel
    have hll := hAS.len
    by_cases hlt : k < m
    · as_aux_lemma =>
      have hlz : (k : Int) < (m : Int) := by omega
      have hko : k + 1 ≤ 5 := by omega
      go_wp2_with fail
      refine (snew_any wr).mono ?_
      rintro e w1 ⟨p, b, rfl, hS, hpw, hbw, hbx⟩
      have hPO1 := (hPO.below hbx).below ((RowKit.Below.refl _ w1).alloc (Nat.le_refl _) (.cells #[.pointer (some ⟨p, 0, none⟩)] 48))
      have hAS1 := (hAS.snoc hS hbx hpw hbw).below ((RowKit.Below.refl _ w1).alloc (Nat.le_refl _) (.cells #[.pointer (some ⟨p, 0, none⟩)] 48))
      have hb1 := (hb.trans (hbx.mono hb.size)).alloc (hb.trans (hbx.mono hb.size)).size (.cells #[.pointer (some ⟨p, 0, none⟩)] 48)
      have hcl := (cell_new_a w1 (.pointer (some ⟨p, 0, none⟩)) 48).1
      have hVL : VL (w1.alloc (.cells #[.pointer (some ⟨p, 0, none⟩)] 48)) (some ⟨w1.heap.size, 0, none⟩) 1 [.pointer (some ⟨p, 0, none⟩)] := ⟨rfl, fun j x hj => ⟨w1.heap.size, 0, rfl, by
        match j, hj with
        | 0, hj => simp at hj; subst hj; exact hcl
        | j + 1, hj => simp at hj⟩⟩
      have hlo := Nat.le_trans hb.size hbw
      clear hcl hPO hAS hb hS hbx
      go_wp2_with (at_builtin; refine wpAppPs rfl _ _ rfl w.heap.size _ (l.map Sk.v) rfl hPO1 (some ⟨w1.heap.size, 0, none⟩) 1 1 [.pointer (some ⟨p, 0, none⟩)] rfl hVL (by simp; rfl) ⟨w1.heap.size, 0, none⟩ rfl (by simp; omega) hb1.size ?_; rintro v' w3 hO3 hk3 hl3)
      obtain ⟨A3, c3, rfl, -, -, -⟩ := hO3.form
      simp only [List.length_append, List.length_map, List.length_cons, List.length_nil, Nat.zero_add, hll, hPl] at hO3 ⊢
      have hAS3 := hAS1.keptO hPO1 hk3
      have hb3 := hb1.trans (hk3.below (B := w.heap.size) hb1.size (fun i hi e => by have := (hPO1.lt i e).1; omega))
      go_wp2
      go_roundw
      case measure => simp [intOf]; omega
      case rel => exact ⟨k + 1, A3, c3, _, _, rfl, by go_num, by omega, by simp [hPl], by rw [List.map_append]; exact hO3, hAS3, fun x hx => by
        rcases List.mem_append.1 hx with hx | hx
        · exact hrow x hx
        · simp at hx; subst hx; rfl, fun pb hpb => by
        rcases List.mem_append.1 hpb with hpb | hpb
        · exact hPb pb hpb
        · simp at hpb; subst hpb; have := hlo; dsimp only; omega, hb3⟩
    · have hlz : ¬ (k : Int) < (m : Int) := by omega
      have hkm : k = m := by omega
      subst hkm
      have hway := WayS.none l hrow
      have hvs : ∃ vs, l.map Sk.v = vs := ⟨_, rfl⟩
      obtain ⟨vs, hvs⟩ := hvs
      rw [hvs] at hPO
      have hl0 : l.length = k := by omega
      clear hlt hrow
      go_wp2
      go_loopw [10] (fun i wr => ∃ (k2 : Nat) (l : List Sk), i = .int .i64 (k2 : Int) ∧ k2 ≤ len ∧ k2 ≤ 60 ∧ l.map Sk.v = vs ∧ PO w.heap.size wr (.slice A k c) vs ∧ AS wr P l (300 * k2) ∧ WayS l ∧ RowKit.Below w.heap.size w wr) (fun i _ => 60 - (intOf i).toNat)
      case atStart => exact ⟨0, l, by go_num, by omega, by omega, hvs, hPO, hAS, hway, hb⟩
      case round =>
        clear hPO hAS hway hb hvs hl0 hll
        obtain ⟨k2, l, rfl, hk2, hk60, hvs, hPO, hAS, hway, hb⟩ := hrel
        have hll := hAS.len
        have hk0 : (0 : Int) ≤ (k2 : Int) := by omega
        by_cases hlt : k2 < len ∧ k2 < 60
        · as_aux_lemma =>
          obtain ⟨hlt1, hlt2⟩ := hlt
          have hlz : decide ((k2 : Int) < (len : Int)) = true := decide_eq_true (by omega)
          have hlz1 : (k2 : Int) < (len : Int) := by omega
          have hl60 : decide ((k2 : Int) < 60) = true := decide_eq_true (by omega)
          obtain ⟨bl, off, rfl, hblw, hops⟩ := hOP (by omega)
          have hok := (hops k2 hlt1).below hb
          obtain ⟨K0, hK0⟩ : ∃ x, (fo k2).o.i0 = x := ⟨_, rfl⟩
          obtain ⟨L, hL⟩ : ∃ x, (fo k2).o.l = x := ⟨_, rfl⟩
          obtain ⟨g2, hg2⟩ : ∃ x, (fo k2).o.g2 = x := ⟨_, rfl⟩
          obtain ⟨N3, hN3⟩ : ∃ x, (fo k2).o.i3 = x := ⟨_, rfl⟩
          obtain ⟨OA, hOA⟩ : ∃ x, (fo k2).A = x := ⟨_, rfl⟩
          obtain ⟨oc, hoc⟩ : ∃ x, (fo k2).c = x := ⟨_, rfl⟩
          have q0 := hok.c0
          have q1 := hok.c1
          have q2 := hok.c2
          have q3 := hok.c3
          have hat := hok.at_
          rw [hK0] at q0
          rw [hL, hOA, hoc] at q1
          rw [hg2] at q2
          rw [hN3] at q3
          have hil0 := hat.il
          have hwl0 := fun x hx => (hat.wl x hx).1
          rw [hL, hOA] at hil0
          rw [hL] at hwl0
          have hg2l := hat.w2
          rw [hg2] at hg2l
          clear hK0 hL hg2 hN3 hOA hoc hat hok hops hOP
          have hal := (RowKit.Below.refl _ wr).alloc (Nat.le_refl _) (.cells #[.int .i64 K0, .slice OA L.length oc, .string ⟨g2.toArray⟩, .int .i64 N3] 52)
          have hoB := Blk.new wr 52 #[.int .i64 K0, .slice OA L.length oc, .string ⟨g2.toArray⟩, .int .i64 N3]
          have hil := hil0.below hal
          have hPO1 := hPO.below hal
          have hAS1 := hAS.below hal
          have hb1 := hb.alloc hb.size (.cells #[.int .i64 K0, .slice OA L.length oc, .string ⟨g2.toArray⟩, .int .i64 N3] 52)
          have hobl : ∀ i p b, P[i]? = some (p, b) → b < wr.heap.size := fun i p b hi => (hAS.lt hi).2
          go_upto_region 15 with fail
          generalize wr.alloc (.cells #[.int .i64 K0, .slice OA L.length oc, .string ⟨g2.toArray⟩, .int .i64 N3] 52) = w1 at *
          obtain ⟨bo, hbo⟩ : ∃ bo, wr.heap.size = bo := ⟨_, rfl⟩
          rw [hbo] at hoB hobl ⊢
          clear hbo hal hil0 hPO hAS hb q0 q1 q2 q3
          have o0 := hoB.cell 0
          have o1 := hoB.cell 1
          simp only [List.getElem?_toArray, List.getElem?_cons_succ, List.getElem?_cons_zero] at o0 o1
          by_cases h100 : L.length ≤ 100
          case neg =>
            have hd100 : decide ((100 : Int) < ((L.length : Nat) : Int)) = true := decide_eq_true (by omega)
            go_wp2
            go_roundw
            case measure => simp [intOf]; omega
            case rel => exact ⟨k2 + 1, l, by go_num, by omega, by omega, hvs, hPO1, hAS1.mono (by omega), hway, hb1⟩
          have hd100 : decide ((100 : Int) < ((L.length : Nat) : Int)) = false := decide_eq_false (by omega)
          by_cases h11 : K0 = 11
          · subst h11
            go_wp2
            go_roundw
            case measure => simp [intOf]; omega
            case rel => exact ⟨k2 + 1, l, by go_num, by omega, by omega, hvs, hPO1, hAS1.mono (by omega), hway, hb1⟩
          have hd11 : (K0 == 11) = false := by simp [h11]
          have hm0 : ((k : Int) == 0) = false := by simp; omega
          go_upto_if 62 with fail
          obtain ⟨fr, hfr⟩ : ∃ fr, k2 % k = fr := ⟨_, rfl⟩
          have hfrk : fr < k := by rw [← hfr]; exact Nat.mod_lt _ (by omega)
          rw [show (k2 : Int) % (k : Int) = ((fr : Nat) : Int) from by rw [← hfr]; exact (Int.natCast_emod k2 k).symm]
          clear hfr hd100 hd11
          go_cut [13] from 62 to 72 (fun s13 wc => ∃ j : Nat, s13 = .int .i64 (j : Int) ∧ j < k ∧ wc = w1)
          case first =>
            by_cases hkt : k2 < tl
            · as_aux_lemma =>
              have hkz : decide ((k2 : Int) < (tl : Int)) = true := decide_eq_true (by omega)
              obtain ⟨bt, ot, x, rfl, hx, hcell⟩ := (hT.below hb1).place hkt
              rw [List.getElem?_map] at hx
              obtain ⟨zz, hz, hxz⟩ := Option.map_eq_some_iff.1 hx
              subst hxz
              clear hx hz hT
              have hkt' : (k2 : Int) < (tl : Int) := by omega
              obtain ⟨r, hr⟩ : ∃ r, zz.tmod (k : Int) = r := ⟨_, rfl⟩
              have hrb : -(k : Int) < r ∧ r < (k : Int) := by
                rw [← hr]
                exact ⟨Int.lt_tmod_of_pos _ (by omega), Int.tmod_lt_of_pos _ (by omega)⟩
              by_cases hneg : r < 0
              · have hdn : decide (r < 0) = true := decide_eq_true hneg
                go_wp2
                go_meet
                refine ⟨(-r).toNat, ?_, by omega, rfl⟩
                congr 1
                first | omega | (unfold wrap64; omega) | (rw [IntKind.wrap_i64, wrap64]; omega)
              · have hdn : decide (r < 0) = false := decide_eq_false hneg
                go_wp2
                go_meet
                refine ⟨r.toNat, ?_, by omega, rfl⟩
                congr 1
                first | omega | (unfold wrap64; omega) | (rw [IntKind.wrap_i64, wrap64]; omega)
            · as_aux_lemma =>
              have hkz : decide ((k2 : Int) < (tl : Int)) = false := decide_eq_false (by omega)
              go_wp2
              go_meet
              exact ⟨0, rfl, by omega, rfl⟩
          case rest =>
          obtain ⟨j, rfl, hj, hwc⟩ := hcut
          have hwc' := hwc.symm
          subst hwc'
          clear hwc hT
          go_upto_block 4 with fail
          go_cut [] from 75 to 113 (fun wc => ∃ l' : List Sk, l'.map Sk.v = vs ∧ PO w.heap.size wc (.slice A k c) vs ∧ AS wc P l' (300 * (k2 + 1)) ∧ WayS l' ∧ RowKit.Below w.heap.size w wc)
          case first =>
            obtain ⟨p, b, sx, hPi, hli, hsv, hsb⟩ := hAS1.place (i := fr) (by omega)
            have hbw := hPb _ (List.mem_of_getElem? hPi)
            dsimp only at hbw
            obtain ⟨AA, cc, hAe, -, -, hVL⟩ := hPO1.form
            obtain ⟨bA, oA, hA2, hcA⟩ := hVL.at_ fr (.pointer (some ⟨p, 0, none⟩)) (by rw [← hvs, List.getElem?_map, hli]; simp [hsv])
            injection hAe with hA3 hA4 hA5
            rw [hA2] at hA3
            subst hA3
            have hvl := Lib.hid hA4
            clear hA4 hA5
            obtain ⟨sx2, NN, hli2, -, hST, -⟩ := hAS1.at_ fr p b hPi
            have hnb : ¬ bA = b := hPO1.nb hST bA rfl
            have hbob : ¬ bo = b := by have := hobl fr p b hPi; omega
            have hn200 : 300 * k2 ≤ 20000 := by omega
            have hin : (fr : Int) < (k : Int) := by omega
            have hdz := (RowKit.Below.refl w1.heap.size w1).drew
            have hASz : AS w1.drew P l (300 * k2) := hAS1.below hdz
            have hPOz : PO w.heap.size w1.drew _ vs := hPO1.below hdz
            have hilz : IL w1.drew OA L.length L := hil.below hdz
            have hbz := hb1.drew
            have hcz : ∀ W', Keep (fun i => i = b) w1.drew W' → W'.cell? ⟨bA, oA + fr, none⟩ = some (.pointer (some ⟨p, 0, none⟩)) ∧ Blk W' bo 52 #[.int .i64 K0, .slice OA L.length oc, .string ⟨g2.toArray⟩, .int .i64 N3] := fun W' hk => ⟨hk.cell (show w1.drew.cell? _ = _ from hcA) hnb, Blk.kept (show Blk w1.drew _ _ _ from hoB) hk hbob⟩
            have hSF : ∀ W', Keep (fun i => i = b) w1.drew W' → (fun W' : World => W'.cell? ⟨bA, oA + fr, none⟩ = some (.pointer (some ⟨p, 0, none⟩)) ∧ W'.cell? ⟨bo, 0, none⟩ = some (.int .i64 K0) ∧ W'.cell? ⟨bo, 1, none⟩ = some (.slice OA L.length oc) ∧ W'.cell? ⟨bo, 2, none⟩ = some (.string ⟨g2.toArray⟩) ∧ W'.cell? ⟨bo, 3, none⟩ = some (.int .i64 N3)) W' := fun W' hk => ⟨(hcz W' hk).1, (hcz W' hk).2.cell 0, (hcz W' hk).2.cell 1, (hcz W' hk).2.cell 2, (hcz W' hk).2.cell 3⟩
            have hilb := fun (ad : Addr) (e : OA = some ad) => hil.map_not hST ad e
            have sd := hSF _ (Keep.refl _ _)
            clear o0 o1 hcA hVL hST hli2 hA2
            by_cases h12 : K0 = 12
            · as_aux_lemma =>
              subst h12
              go_wp2
              refine wp_region_held_drew (S := (fun W' : World => W'.cell? ⟨bA, oA + fr, none⟩ = some (.pointer (some ⟨p, 0, none⟩)) ∧ W'.cell? ⟨bo, 0, none⟩ = some (.int .i64 12) ∧ W'.cell? ⟨bo, 1, none⟩ = some (.slice OA L.length oc) ∧ W'.cell? ⟨bo, 2, none⟩ = some (.string ⟨g2.toArray⟩) ∧ W'.cell? ⟨bo, 3, none⟩ = some (.int .i64 N3))) (by kernel_rfl) sd (fun hHeld => ?_)
              generalize w1.drew = wz at *
              (refine tkI 0 (by (simp only [List.getElem?_toArray, List.getElem?_cons_succ, List.getElem?_cons_zero]; rfl)) (by kernel_rfl) (by kernel_rfl) (by kernel_rfl) (by exact fun _ _ _ h => h) (by rfl) (by (intro w hSw; (try dsimp only at hSw); go_simp <;> with_reducible rfl)) (by assumption) ?_; try simp only [Act.put, List.setIfInBounds_toArray, List.set_cons_zero, List.set_cons_succ])
              (refine tkI 1 (by (simp only [List.getElem?_toArray, List.getElem?_cons_succ, List.getElem?_cons_zero]; rfl)) (by kernel_rfl) (by kernel_rfl) (by kernel_rfl) (by exact fun _ _ _ h => h) (by rfl) (by (intro w hSw; (try dsimp only at hSw); go_simp <;> with_reducible rfl)) (by assumption) ?_; try simp only [Act.put, List.setIfInBounds_toArray, List.set_cons_zero, List.set_cons_succ])
              (refine tkI 2 (by (simp only [List.getElem?_toArray, List.getElem?_cons_succ, List.getElem?_cons_zero]; rfl)) (by kernel_rfl) (by kernel_rfl) (by kernel_rfl) (by exact fun _ _ _ h => h) (by rfl) (by (intro w hSw; (try dsimp only at hSw); go_simp <;> with_reducible rfl)) (by assumption) ?_; try simp only [Act.put, List.setIfInBounds_toArray, List.set_cons_zero, List.set_cons_succ])
              (refine tkI 3 (by (simp only [List.getElem?_toArray, List.getElem?_cons_succ, List.getElem?_cons_zero]; rfl)) (by kernel_rfl) (by kernel_rfl) (by kernel_rfl) (by exact fun _ _ _ h => h) (by rfl) (by (intro w hSw; (try dsimp only at hSw); go_simp <;> with_reducible rfl)) (by assumption) ?_; try simp only [Act.put, List.setIfInBounds_toArray, List.set_cons_zero, List.set_cons_succ])
              (refine tkI 4 (by (simp only [List.getElem?_toArray, List.getElem?_cons_succ, List.getElem?_cons_zero]; rfl)) (by kernel_rfl) (by kernel_rfl) (by kernel_rfl) (by exact fun _ _ _ h => h) (by rfl) (by (intro w hSw; (try dsimp only at hSw); go_simp <;> with_reducible rfl)) (by assumption) ?_; try simp only [Act.put, List.setIfInBounds_toArray, List.set_cons_zero, List.set_cons_succ])
              (refine tkI 5 (by (simp only [List.getElem?_toArray, List.getElem?_cons_succ, List.getElem?_cons_zero]; rfl)) (by kernel_rfl) (by kernel_rfl) (by kernel_rfl) (by exact fun _ _ _ h => h) (by rfl) (by (intro w hSw; (try dsimp only at hSw); go_simp <;> with_reducible rfl)) (by assumption) ?_; try simp only [Act.put, List.setIfInBounds_toArray, List.set_cons_zero, List.set_cons_succ])
              (refine tkI 6 (by (simp only [List.getElem?_toArray, List.getElem?_cons_succ, List.getElem?_cons_zero]; rfl)) (by kernel_rfl) (by kernel_rfl) (by kernel_rfl) (by exact fun _ _ _ h => h) (by rfl) (by (intro w hSw; (try dsimp only at hSw); go_simp <;> with_reducible rfl)) (by assumption) ?_; try simp only [Act.put, List.setIfInBounds_toArray, List.set_cons_zero, List.set_cons_succ])
              (refine tkI 7 (by (simp only [List.getElem?_toArray, List.getElem?_cons_succ, List.getElem?_cons_zero]; rfl)) (by kernel_rfl) (by kernel_rfl) (by kernel_rfl) (by exact fun _ _ _ h => h) (by rfl) (by (intro w hSw; (try dsimp only at hSw); go_simp <;> with_reducible rfl)) (by assumption) ?_; try simp only [Act.put, List.setIfInBounds_toArray, List.set_cons_zero, List.set_cons_succ])
              refine wpAnyH_ready (rs := [8]) (by kernel_rfl) (by simp) ?_
              refine AllReadyH.cons (by (simp only [List.getElem?_toArray, List.getElem?_cons_succ, List.getElem?_cons_zero]; rfl)) (fun K hK => ?_) AllReadyH.nil
              go_simp
              refine (hASz.cnt hPi hli g2 N3 hg2l (by omega)).mono ?_
              rintro e w9 ⟨rfl, hAS9, hk9⟩
              have s9 : (fun W' : World => W'.cell? ⟨bA, oA + fr, none⟩ = some (.pointer (some ⟨p, 0, none⟩)) ∧ W'.cell? ⟨bo, 0, none⟩ = some (.int .i64 12) ∧ W'.cell? ⟨bo, 1, none⟩ = some (.slice OA L.length oc) ∧ W'.cell? ⟨bo, 2, none⟩ = some (.string ⟨g2.toArray⟩) ∧ W'.cell? ⟨bo, 3, none⟩ = some (.int .i64 N3)) w9 := hSF w9 hk9
              refine hK.out _ _ s9 (fun hHeld2 => ?_)
              clear hK K hHeld
              have hHeld := hHeld2
              clear hHeld2
              try simp only [Act.put, List.setIfInBounds_toArray, List.set_cons_zero, List.set_cons_succ]
              refine wpAnyH_done (by kernel_rfl) ?_ _
              have hb9 := hbz.trans (hk9.below (B := w.heap.size) hbz.size (fun i hi e => by omega))
              have hPO9 := hPOz.kept hk9 (fun g hg e => by cases hg; exact hnb e)
              go_wp2
              go_meet
              exact ⟨_, (map_set_v l fr sx _ hli (by rfl)).trans hvs, hPO9, hAS9.mono (by omega), hway.same hli (fun g => way_cnt g), hb9⟩
            have hd12 : (K0 == 12) = false := by simp [h12]
            by_cases h10 : K0 = 10
            · as_aux_lemma =>
              subst h10
              have cD := hASz.do_ hPi hli 10 OA _ oc L hilz (by omega) hwl0 (by omega)
              by_cases h0 : doE sx.f sx.ks 10 L = 0
              · rw [h0] at cD
                go_wp2
                refine wp_region_held_drew (S := (fun W' : World => W'.cell? ⟨bA, oA + fr, none⟩ = some (.pointer (some ⟨p, 0, none⟩)) ∧ W'.cell? ⟨bo, 0, none⟩ = some (.int .i64 10) ∧ W'.cell? ⟨bo, 1, none⟩ = some (.slice OA L.length oc) ∧ W'.cell? ⟨bo, 2, none⟩ = some (.string ⟨g2.toArray⟩) ∧ W'.cell? ⟨bo, 3, none⟩ = some (.int .i64 N3))) (by kernel_rfl) sd (fun hHeld => ?_)
                generalize w1.drew = wz at *
                (refine tkI 0 (by (simp only [List.getElem?_toArray, List.getElem?_cons_succ, List.getElem?_cons_zero]; rfl)) (by kernel_rfl) (by kernel_rfl) (by kernel_rfl) (by exact fun _ _ _ h => h) (by rfl) (by (intro w hSw; (try dsimp only at hSw); go_simp <;> with_reducible rfl)) (by assumption) ?_; try simp only [Act.put, List.setIfInBounds_toArray, List.set_cons_zero, List.set_cons_succ])
                (refine tkI 1 (by (simp only [List.getElem?_toArray, List.getElem?_cons_succ, List.getElem?_cons_zero]; rfl)) (by kernel_rfl) (by kernel_rfl) (by kernel_rfl) (by exact fun _ _ _ h => h) (by rfl) (by (intro w hSw; (try dsimp only at hSw); go_simp <;> with_reducible rfl)) (by assumption) ?_; try simp only [Act.put, List.setIfInBounds_toArray, List.set_cons_zero, List.set_cons_succ])
                (refine tkI 2 (by (simp only [List.getElem?_toArray, List.getElem?_cons_succ, List.getElem?_cons_zero]; rfl)) (by kernel_rfl) (by kernel_rfl) (by kernel_rfl) (by exact fun _ _ _ h => h) (by rfl) (by (intro w hSw; (try dsimp only at hSw); go_simp <;> with_reducible rfl)) (by assumption) ?_; try simp only [Act.put, List.setIfInBounds_toArray, List.set_cons_zero, List.set_cons_succ])
                (refine tkI 3 (by (simp only [List.getElem?_toArray, List.getElem?_cons_succ, List.getElem?_cons_zero]; rfl)) (by kernel_rfl) (by kernel_rfl) (by kernel_rfl) (by exact fun _ _ _ h => h) (by rfl) (by (intro w hSw; (try dsimp only at hSw); go_simp <;> with_reducible rfl)) (by assumption) ?_; try simp only [Act.put, List.setIfInBounds_toArray, List.set_cons_zero, List.set_cons_succ])
                (refine tkI 4 (by (simp only [List.getElem?_toArray, List.getElem?_cons_succ, List.getElem?_cons_zero]; rfl)) (by kernel_rfl) (by kernel_rfl) (by kernel_rfl) (by exact fun _ _ _ h => h) (by rfl) (by (intro w hSw; (try dsimp only at hSw); go_simp <;> with_reducible rfl)) (by assumption) ?_; try simp only [Act.put, List.setIfInBounds_toArray, List.set_cons_zero, List.set_cons_succ])
                (refine tkI 5 (by (simp only [List.getElem?_toArray, List.getElem?_cons_succ, List.getElem?_cons_zero]; rfl)) (by kernel_rfl) (by kernel_rfl) (by kernel_rfl) (by exact fun _ _ _ h => h) (by rfl) (by (intro w hSw; (try dsimp only at hSw); go_simp <;> with_reducible rfl)) (by assumption) ?_; try simp only [Act.put, List.setIfInBounds_toArray, List.set_cons_zero, List.set_cons_succ])
                (refine tkI 6 (by (simp only [List.getElem?_toArray, List.getElem?_cons_succ, List.getElem?_cons_zero]; rfl)) (by kernel_rfl) (by kernel_rfl) (by kernel_rfl) (by exact fun _ _ _ h => h) (by rfl) (by (intro w hSw; (try dsimp only at hSw); go_simp <;> with_reducible rfl)) (by assumption) ?_; try simp only [Act.put, List.setIfInBounds_toArray, List.set_cons_zero, List.set_cons_succ])
                (refine tkI 7 (by (simp only [List.getElem?_toArray, List.getElem?_cons_succ, List.getElem?_cons_zero]; rfl)) (by kernel_rfl) (by kernel_rfl) (by kernel_rfl) (by exact fun _ _ _ h => h) (by rfl) (by (intro w hSw; (try dsimp only at hSw); go_simp <;> with_reducible rfl)) (by assumption) ?_; try simp only [Act.put, List.setIfInBounds_toArray, List.set_cons_zero, List.set_cons_succ])
                refine wpAnyH_ready (rs := [8]) (by kernel_rfl) (by simp) ?_
                refine AllReadyH.cons (by (simp only [List.getElem?_toArray, List.getElem?_cons_succ, List.getElem?_cons_zero]; rfl)) (fun K hK => ?_) AllReadyH.nil
                go_simp
                refine cD.mono ?_
                rintro e w9 ⟨rfl, hAS9, hk9⟩
                have s9 : (fun W' : World => W'.cell? ⟨bA, oA + fr, none⟩ = some (.pointer (some ⟨p, 0, none⟩)) ∧ W'.cell? ⟨bo, 0, none⟩ = some (.int .i64 10) ∧ W'.cell? ⟨bo, 1, none⟩ = some (.slice OA L.length oc) ∧ W'.cell? ⟨bo, 2, none⟩ = some (.string ⟨g2.toArray⟩) ∧ W'.cell? ⟨bo, 3, none⟩ = some (.int .i64 N3)) w9 := hSF w9 hk9
                refine hK.out _ _ s9 (fun hHeld2 => ?_)
                clear hK K hHeld
                have hHeld := hHeld2
                clear hHeld2
                try simp only [Act.put, List.setIfInBounds_toArray, List.set_cons_zero, List.set_cons_succ]
                (refine tkI 9 (by (simp only [List.getElem?_toArray, List.getElem?_cons_succ, List.getElem?_cons_zero]; rfl)) (by kernel_rfl) (by kernel_rfl) (by kernel_rfl) (by exact fun _ _ _ h => h) (by rfl) (by (intro w hSw; (try dsimp only at hSw); go_simp <;> with_reducible rfl)) (by assumption) ?_; try simp only [Act.put, List.setIfInBounds_toArray, List.set_cons_zero, List.set_cons_succ])
                refine wpAnyH_done (by kernel_rfl) ?_ _
                have hb9 := hbz.trans (hk9.below (B := w.heap.size) hbz.size (fun i hi e => by omega))
                have hPO9 := hPOz.kept hk9 (fun g hg e => by cases hg; exact hnb e)
                have ho9 := (hcz w9 hk9).2
                have hil9 := hilz.kept hk9 (fun ad e hn e2 => hilb ad e hn e2)
                obtain ⟨p2, b2, sx2, hPi2, hli2, hsv2, hsb2⟩ := hAS9.place (i := j) (by omega)
                have hbw2 := hPb _ (List.mem_of_getElem? hPi2)
                dsimp only at hbw2
                have hvs9 : (l.set fr ⟨sx.v, doF sx.f sx.ks 10 L, doK sx.f sx.ks 10 L⟩).map Sk.v = vs := (map_set_v l fr sx _ hli (by rfl)).trans hvs
                obtain ⟨AA9, cc9, hAe9, -, -, hVL9⟩ := hPO9.form
                obtain ⟨bA9, oA9, hA9, hcA9⟩ := hVL9.at_ j (.pointer (some ⟨p2, 0, none⟩)) (by rw [← hvs9, List.getElem?_map, hli2]; simp [hsv2])
                injection hAe9 with hA93 hA94 hA95
                rw [hA9] at hA93
                injection hA93 with hA93
                injection hA93 with hA96 hA97
                rw [← hA96, ← hA97] at hcA9
                clear hA9 hA94 hA95 hA96 hA97 hVL9
                obtain ⟨sx9, NN9, hli9, -, hST9, -⟩ := hAS9.at_ j p2 b2 hPi2
                have hnb2 : ¬ bA = b2 := hPO9.nb hST9 bA rfl
                have hbob2 : ¬ bo = b2 := by have := hobl j p2 b2 hPi2; omega
                have hjn : (j : Int) < (k : Int) := by omega
                have hdz2 := (RowKit.Below.refl w9.heap.size w9).drew
                have hASy := hAS9.below hdz2
                have hPOy : PO w.heap.size w9.drew _ vs := hPO9.below hdz2
                have hily := hil9.below hdz2
                have hby := hb9.drew
                have hSF2 : ∀ W', Keep (fun i => i = b2) w9.drew W' → (fun W' : World => W'.cell? ⟨bA, oA + j, none⟩ = some (.pointer (some ⟨p2, 0, none⟩)) ∧ W'.cell? ⟨bo, 0, none⟩ = some (.int .i64 10) ∧ W'.cell? ⟨bo, 1, none⟩ = some (.slice OA L.length oc) ∧ W'.cell? ⟨bo, 2, none⟩ = some (.string ⟨g2.toArray⟩) ∧ W'.cell? ⟨bo, 3, none⟩ = some (.int .i64 N3)) W' := fun W' hk => by
                  have h1 := Blk.kept (show Blk w9.drew _ _ _ from ho9) hk hbob2
                  exact ⟨hk.cell (show w9.drew.cell? _ = _ from hcA9) hnb2, h1.cell 0, h1.cell 1, h1.cell 2, h1.cell 3⟩
                have sd2 := hSF2 _ (Keep.refl _ _)
                have cE := hASy.do_ hPi2 hli2 11 OA _ oc L hily (by omega) hwl0 (by omega)
                clear sd hcz hSF cD hilz hbz hPOz hASz hcA9 ho9 hST9 hli9
                go_wp2
                refine wp_region_held_drew (S := (fun W' : World => W'.cell? ⟨bA, oA + j, none⟩ = some (.pointer (some ⟨p2, 0, none⟩)) ∧ W'.cell? ⟨bo, 0, none⟩ = some (.int .i64 10) ∧ W'.cell? ⟨bo, 1, none⟩ = some (.slice OA L.length oc) ∧ W'.cell? ⟨bo, 2, none⟩ = some (.string ⟨g2.toArray⟩) ∧ W'.cell? ⟨bo, 3, none⟩ = some (.int .i64 N3))) (by kernel_rfl) sd2 (fun hHeld => ?_)
                generalize w9.drew = wy at *
                (refine tkI 0 (by (simp only [List.getElem?_toArray, List.getElem?_cons_succ, List.getElem?_cons_zero]; rfl)) (by kernel_rfl) (by kernel_rfl) (by kernel_rfl) (by exact fun _ _ _ h => h) (by rfl) (by (intro w hSw; (try dsimp only at hSw); go_simp <;> with_reducible rfl)) (by assumption) ?_; try simp only [Act.put, List.setIfInBounds_toArray, List.set_cons_zero, List.set_cons_succ])
                (refine tkI 1 (by (simp only [List.getElem?_toArray, List.getElem?_cons_succ, List.getElem?_cons_zero]; rfl)) (by kernel_rfl) (by kernel_rfl) (by kernel_rfl) (by exact fun _ _ _ h => h) (by rfl) (by (intro w hSw; (try dsimp only at hSw); go_simp <;> with_reducible rfl)) (by assumption) ?_; try simp only [Act.put, List.setIfInBounds_toArray, List.set_cons_zero, List.set_cons_succ])
                (refine tkI 2 (by (simp only [List.getElem?_toArray, List.getElem?_cons_succ, List.getElem?_cons_zero]; rfl)) (by kernel_rfl) (by kernel_rfl) (by kernel_rfl) (by exact fun _ _ _ h => h) (by rfl) (by (intro w hSw; (try dsimp only at hSw); go_simp <;> with_reducible rfl)) (by assumption) ?_; try simp only [Act.put, List.setIfInBounds_toArray, List.set_cons_zero, List.set_cons_succ])
                (refine tkI 3 (by (simp only [List.getElem?_toArray, List.getElem?_cons_succ, List.getElem?_cons_zero]; rfl)) (by kernel_rfl) (by kernel_rfl) (by kernel_rfl) (by exact fun _ _ _ h => h) (by rfl) (by (intro w hSw; (try dsimp only at hSw); go_simp <;> with_reducible rfl)) (by assumption) ?_; try simp only [Act.put, List.setIfInBounds_toArray, List.set_cons_zero, List.set_cons_succ])
                (refine tkI 4 (by (simp only [List.getElem?_toArray, List.getElem?_cons_succ, List.getElem?_cons_zero]; rfl)) (by kernel_rfl) (by kernel_rfl) (by kernel_rfl) (by exact fun _ _ _ h => h) (by rfl) (by (intro w hSw; (try dsimp only at hSw); go_simp <;> with_reducible rfl)) (by assumption) ?_; try simp only [Act.put, List.setIfInBounds_toArray, List.set_cons_zero, List.set_cons_succ])
                (refine tkI 5 (by (simp only [List.getElem?_toArray, List.getElem?_cons_succ, List.getElem?_cons_zero]; rfl)) (by kernel_rfl) (by kernel_rfl) (by kernel_rfl) (by exact fun _ _ _ h => h) (by rfl) (by (intro w hSw; (try dsimp only at hSw); go_simp <;> with_reducible rfl)) (by assumption) ?_; try simp only [Act.put, List.setIfInBounds_toArray, List.set_cons_zero, List.set_cons_succ])
                refine wpAnyH_ready (rs := [6]) (by kernel_rfl) (by simp) ?_
                refine AllReadyH.cons (by (simp only [List.getElem?_toArray, List.getElem?_cons_succ, List.getElem?_cons_zero]; rfl)) (fun K hK => ?_) AllReadyH.nil
                go_simp
                refine cE.mono ?_
                rintro e w10 ⟨rfl, hAS10, hk10⟩
                have s10 : (fun W' : World => W'.cell? ⟨bA, oA + j, none⟩ = some (.pointer (some ⟨p2, 0, none⟩)) ∧ W'.cell? ⟨bo, 0, none⟩ = some (.int .i64 10) ∧ W'.cell? ⟨bo, 1, none⟩ = some (.slice OA L.length oc) ∧ W'.cell? ⟨bo, 2, none⟩ = some (.string ⟨g2.toArray⟩) ∧ W'.cell? ⟨bo, 3, none⟩ = some (.int .i64 N3)) w10 := hSF2 w10 hk10
                refine hK.out _ _ s10 (fun hHeld2 => ?_)
                clear hK K hHeld
                have hHeld := hHeld2
                clear hHeld2
                try simp only [Act.put, List.setIfInBounds_toArray, List.set_cons_zero, List.set_cons_succ]
                refine wpAnyH_done (by kernel_rfl) ?_ _
                have hb10 := hby.trans (hk10.below (B := w.heap.size) hby.size (fun i hi e => by omega))
                have hPO10 := hPOy.kept hk10 (fun g hg e => by cases hg; exact hnb2 e)
                go_wp2
                go_meet
                exact ⟨_, (map_set_v _ j sx2 _ hli2 (by rfl)).trans hvs9, hPO10, hAS10.mono (by omega), hway.sent hli hsb h0 rfl hli2 hsb2 rfl, hb10⟩
              · obtain ⟨E, hE⟩ : ∃ E, doE sx.f sx.ks 10 L = E := ⟨_, rfl⟩
                rw [hE] at cD
                have hEn : (E == 0) = false := by rw [hE] at h0; simp [h0]
                have hnn : ∀ g, (doF sx.f sx.ks 10 L g).se = (sx.f g).se ∧ (doF sx.f sx.ks 10 L g).cm = (sx.f g).cm := fun g => by
                  unfold doF
                  rw [if_neg h0]
                  exact ⟨rfl, rfl⟩
                have hnn := Lib.hid hnn
                clear hE h0
                go_wp2
                refine wp_region_held_drew (S := (fun W' : World => W'.cell? ⟨bA, oA + fr, none⟩ = some (.pointer (some ⟨p, 0, none⟩)) ∧ W'.cell? ⟨bo, 0, none⟩ = some (.int .i64 10) ∧ W'.cell? ⟨bo, 1, none⟩ = some (.slice OA L.length oc) ∧ W'.cell? ⟨bo, 2, none⟩ = some (.string ⟨g2.toArray⟩) ∧ W'.cell? ⟨bo, 3, none⟩ = some (.int .i64 N3))) (by kernel_rfl) sd (fun hHeld => ?_)
                generalize w1.drew = wz at *
                (refine tkI 0 (by (simp only [List.getElem?_toArray, List.getElem?_cons_succ, List.getElem?_cons_zero]; rfl)) (by kernel_rfl) (by kernel_rfl) (by kernel_rfl) (by exact fun _ _ _ h => h) (by rfl) (by (intro w hSw; (try dsimp only at hSw); go_simp <;> with_reducible rfl)) (by assumption) ?_; try simp only [Act.put, List.setIfInBounds_toArray, List.set_cons_zero, List.set_cons_succ])
                (refine tkI 1 (by (simp only [List.getElem?_toArray, List.getElem?_cons_succ, List.getElem?_cons_zero]; rfl)) (by kernel_rfl) (by kernel_rfl) (by kernel_rfl) (by exact fun _ _ _ h => h) (by rfl) (by (intro w hSw; (try dsimp only at hSw); go_simp <;> with_reducible rfl)) (by assumption) ?_; try simp only [Act.put, List.setIfInBounds_toArray, List.set_cons_zero, List.set_cons_succ])
                (refine tkI 2 (by (simp only [List.getElem?_toArray, List.getElem?_cons_succ, List.getElem?_cons_zero]; rfl)) (by kernel_rfl) (by kernel_rfl) (by kernel_rfl) (by exact fun _ _ _ h => h) (by rfl) (by (intro w hSw; (try dsimp only at hSw); go_simp <;> with_reducible rfl)) (by assumption) ?_; try simp only [Act.put, List.setIfInBounds_toArray, List.set_cons_zero, List.set_cons_succ])
                (refine tkI 3 (by (simp only [List.getElem?_toArray, List.getElem?_cons_succ, List.getElem?_cons_zero]; rfl)) (by kernel_rfl) (by kernel_rfl) (by kernel_rfl) (by exact fun _ _ _ h => h) (by rfl) (by (intro w hSw; (try dsimp only at hSw); go_simp <;> with_reducible rfl)) (by assumption) ?_; try simp only [Act.put, List.setIfInBounds_toArray, List.set_cons_zero, List.set_cons_succ])
                (refine tkI 4 (by (simp only [List.getElem?_toArray, List.getElem?_cons_succ, List.getElem?_cons_zero]; rfl)) (by kernel_rfl) (by kernel_rfl) (by kernel_rfl) (by exact fun _ _ _ h => h) (by rfl) (by (intro w hSw; (try dsimp only at hSw); go_simp <;> with_reducible rfl)) (by assumption) ?_; try simp only [Act.put, List.setIfInBounds_toArray, List.set_cons_zero, List.set_cons_succ])
                (refine tkI 5 (by (simp only [List.getElem?_toArray, List.getElem?_cons_succ, List.getElem?_cons_zero]; rfl)) (by kernel_rfl) (by kernel_rfl) (by kernel_rfl) (by exact fun _ _ _ h => h) (by rfl) (by (intro w hSw; (try dsimp only at hSw); go_simp <;> with_reducible rfl)) (by assumption) ?_; try simp only [Act.put, List.setIfInBounds_toArray, List.set_cons_zero, List.set_cons_succ])
                (refine tkI 6 (by (simp only [List.getElem?_toArray, List.getElem?_cons_succ, List.getElem?_cons_zero]; rfl)) (by kernel_rfl) (by kernel_rfl) (by kernel_rfl) (by exact fun _ _ _ h => h) (by rfl) (by (intro w hSw; (try dsimp only at hSw); go_simp <;> with_reducible rfl)) (by assumption) ?_; try simp only [Act.put, List.setIfInBounds_toArray, List.set_cons_zero, List.set_cons_succ])
                (refine tkI 7 (by (simp only [List.getElem?_toArray, List.getElem?_cons_succ, List.getElem?_cons_zero]; rfl)) (by kernel_rfl) (by kernel_rfl) (by kernel_rfl) (by exact fun _ _ _ h => h) (by rfl) (by (intro w hSw; (try dsimp only at hSw); go_simp <;> with_reducible rfl)) (by assumption) ?_; try simp only [Act.put, List.setIfInBounds_toArray, List.set_cons_zero, List.set_cons_succ])
                refine wpAnyH_ready (rs := [8]) (by kernel_rfl) (by simp) ?_
                refine AllReadyH.cons (by (simp only [List.getElem?_toArray, List.getElem?_cons_succ, List.getElem?_cons_zero]; rfl)) (fun K hK => ?_) AllReadyH.nil
                go_simp
                refine cD.mono ?_
                rintro e w9 ⟨rfl, hAS9, hk9⟩
                have s9 : (fun W' : World => W'.cell? ⟨bA, oA + fr, none⟩ = some (.pointer (some ⟨p, 0, none⟩)) ∧ W'.cell? ⟨bo, 0, none⟩ = some (.int .i64 10) ∧ W'.cell? ⟨bo, 1, none⟩ = some (.slice OA L.length oc) ∧ W'.cell? ⟨bo, 2, none⟩ = some (.string ⟨g2.toArray⟩) ∧ W'.cell? ⟨bo, 3, none⟩ = some (.int .i64 N3)) w9 := hSF w9 hk9
                refine hK.out _ _ s9 (fun hHeld2 => ?_)
                clear hK K hHeld
                have hHeld := hHeld2
                clear hHeld2
                try simp only [Act.put, List.setIfInBounds_toArray, List.set_cons_zero, List.set_cons_succ]
                (refine tkI 9 (by (simp only [List.getElem?_toArray, List.getElem?_cons_succ, List.getElem?_cons_zero]; rfl)) (by kernel_rfl) (by kernel_rfl) (by kernel_rfl) (by exact fun _ _ _ h => h) (by rfl) (by (intro w hSw; (try dsimp only at hSw); go_simp <;> with_reducible rfl)) (by assumption) ?_; try simp only [Act.put, List.setIfInBounds_toArray, List.set_cons_zero, List.set_cons_succ])
                refine wpAnyH_done (by kernel_rfl) ?_ _
                have hb9 := hbz.trans (hk9.below (B := w.heap.size) hbz.size (fun i hi e => by omega))
                have hPO9 := hPOz.kept hk9 (fun g hg e => by cases hg; exact hnb e)
                go_wp2
                go_meet
                exact ⟨_, (map_set_v l fr sx _ hli (by rfl)).trans hvs, hPO9, hAS9.mono (by omega), hway.same hli hnn.out, hb9⟩
            · as_aux_lemma =>
              have hd10 : (K0 == 10) = false := by simp [h10]
              go_wp2
              refine wp_region_held_drew (S := (fun W' : World => W'.cell? ⟨bA, oA + fr, none⟩ = some (.pointer (some ⟨p, 0, none⟩)) ∧ W'.cell? ⟨bo, 0, none⟩ = some (.int .i64 K0) ∧ W'.cell? ⟨bo, 1, none⟩ = some (.slice OA L.length oc) ∧ W'.cell? ⟨bo, 2, none⟩ = some (.string ⟨g2.toArray⟩) ∧ W'.cell? ⟨bo, 3, none⟩ = some (.int .i64 N3))) (by kernel_rfl) sd (fun hHeld => ?_)
              generalize w1.drew = wz at *
              (refine tkI 0 (by (simp only [List.getElem?_toArray, List.getElem?_cons_succ, List.getElem?_cons_zero]; rfl)) (by kernel_rfl) (by kernel_rfl) (by kernel_rfl) (by exact fun _ _ _ h => h) (by rfl) (by (intro w hSw; (try dsimp only at hSw); go_simp <;> with_reducible rfl)) (by assumption) ?_; try simp only [Act.put, List.setIfInBounds_toArray, List.set_cons_zero, List.set_cons_succ])
              (refine tkI 1 (by (simp only [List.getElem?_toArray, List.getElem?_cons_succ, List.getElem?_cons_zero]; rfl)) (by kernel_rfl) (by kernel_rfl) (by kernel_rfl) (by exact fun _ _ _ h => h) (by rfl) (by (intro w hSw; (try dsimp only at hSw); go_simp <;> with_reducible rfl)) (by assumption) ?_; try simp only [Act.put, List.setIfInBounds_toArray, List.set_cons_zero, List.set_cons_succ])
              (refine tkI 2 (by (simp only [List.getElem?_toArray, List.getElem?_cons_succ, List.getElem?_cons_zero]; rfl)) (by kernel_rfl) (by kernel_rfl) (by kernel_rfl) (by exact fun _ _ _ h => h) (by rfl) (by (intro w hSw; (try dsimp only at hSw); go_simp <;> with_reducible rfl)) (by assumption) ?_; try simp only [Act.put, List.setIfInBounds_toArray, List.set_cons_zero, List.set_cons_succ])
              (refine tkI 3 (by (simp only [List.getElem?_toArray, List.getElem?_cons_succ, List.getElem?_cons_zero]; rfl)) (by kernel_rfl) (by kernel_rfl) (by kernel_rfl) (by exact fun _ _ _ h => h) (by rfl) (by (intro w hSw; (try dsimp only at hSw); go_simp <;> with_reducible rfl)) (by assumption) ?_; try simp only [Act.put, List.setIfInBounds_toArray, List.set_cons_zero, List.set_cons_succ])
              (refine tkI 4 (by (simp only [List.getElem?_toArray, List.getElem?_cons_succ, List.getElem?_cons_zero]; rfl)) (by kernel_rfl) (by kernel_rfl) (by kernel_rfl) (by exact fun _ _ _ h => h) (by rfl) (by (intro w hSw; (try dsimp only at hSw); go_simp <;> with_reducible rfl)) (by assumption) ?_; try simp only [Act.put, List.setIfInBounds_toArray, List.set_cons_zero, List.set_cons_succ])
              (refine tkI 5 (by (simp only [List.getElem?_toArray, List.getElem?_cons_succ, List.getElem?_cons_zero]; rfl)) (by kernel_rfl) (by kernel_rfl) (by kernel_rfl) (by exact fun _ _ _ h => h) (by rfl) (by (intro w hSw; (try dsimp only at hSw); go_simp <;> with_reducible rfl)) (by assumption) ?_; try simp only [Act.put, List.setIfInBounds_toArray, List.set_cons_zero, List.set_cons_succ])
              (refine tkI 6 (by (simp only [List.getElem?_toArray, List.getElem?_cons_succ, List.getElem?_cons_zero]; rfl)) (by kernel_rfl) (by kernel_rfl) (by kernel_rfl) (by exact fun _ _ _ h => h) (by rfl) (by (intro w hSw; (try dsimp only at hSw); go_simp <;> with_reducible rfl)) (by assumption) ?_; try simp only [Act.put, List.setIfInBounds_toArray, List.set_cons_zero, List.set_cons_succ])
              (refine tkI 7 (by (simp only [List.getElem?_toArray, List.getElem?_cons_succ, List.getElem?_cons_zero]; rfl)) (by kernel_rfl) (by kernel_rfl) (by kernel_rfl) (by exact fun _ _ _ h => h) (by rfl) (by (intro w hSw; (try dsimp only at hSw); go_simp <;> with_reducible rfl)) (by assumption) ?_; try simp only [Act.put, List.setIfInBounds_toArray, List.set_cons_zero, List.set_cons_succ])
              refine wpAnyH_ready (rs := [8]) (by kernel_rfl) (by simp) ?_
              refine AllReadyH.cons (by (simp only [List.getElem?_toArray, List.getElem?_cons_succ, List.getElem?_cons_zero]; rfl)) (fun K hK => ?_) AllReadyH.nil
              go_simp
              skip
              refine (hASz.do_ hPi hli K0 OA _ oc L hilz (by omega) hwl0 (by omega)).mono ?_
              rintro e w9 ⟨rfl, hAS9, hk9⟩
              have s9 : (fun W' : World => W'.cell? ⟨bA, oA + fr, none⟩ = some (.pointer (some ⟨p, 0, none⟩)) ∧ W'.cell? ⟨bo, 0, none⟩ = some (.int .i64 K0) ∧ W'.cell? ⟨bo, 1, none⟩ = some (.slice OA L.length oc) ∧ W'.cell? ⟨bo, 2, none⟩ = some (.string ⟨g2.toArray⟩) ∧ W'.cell? ⟨bo, 3, none⟩ = some (.int .i64 N3)) w9 := hSF w9 hk9
              refine hK.out _ _ s9 (fun hHeld2 => ?_)
              clear hK K hHeld
              have hHeld := hHeld2
              clear hHeld2
              try simp only [Act.put, List.setIfInBounds_toArray, List.set_cons_zero, List.set_cons_succ]
              refine wpAnyH_done (by kernel_rfl) ?_ _
              have hb9 := hbz.trans (hk9.below (B := w.heap.size) hbz.size (fun i hi e => by omega))
              have hPO9 := hPOz.kept hk9 (fun g hg e => by cases hg; exact hnb e)
              go_wp2
              go_meet
              exact ⟨_, (map_set_v l fr sx _ hli (by rfl)).trans hvs, hPO9, hAS9.mono (by omega), hway.same hli (fun g => way_same h10 h11 g), hb9⟩
          case rest =>
          as_aux_lemma =>
          obtain ⟨l', hvs', hPO', hAS', hway', hb'⟩ := hcut
          obtain ⟨AA, cc, hAe, -, -, hVL⟩ := hPO'.form
          injection hAe with hA3 hA4 hA5
          rw [← hA3, ← hA4, ← hvs'] at hVL
          clear hA3 hA4 hA5
          have hl5 : l'.length ≤ 5 := by have := hAS'.len; omega
          have c9 := gall_any A k c l' wc hVL hAS'.sp hAS'.ks (by omega)
          rw [allK_sys l' hAS'.sb hl5 hway'] at c9
          clear hPO1 hAS1 hway hb1 hoB hil hvs hll o0 o1
          go_wp2_with fail
          refine c9.mono ?_
          rintro e w9 ⟨rfl, hx9⟩
          go_wp2
          go_roundw
          case measure => simp [intOf]; omega
          case rel => exact ⟨k2 + 1, l', by go_num, by omega, by omega, hvs', hPO'.below hx9, hAS'.below hx9, hway', hb'.trans (hx9.mono hb'.size)⟩
        · by_cases hh : k2 < len
          · as_aux_lemma =>
            have hlz : decide ((k2 : Int) < (len : Int)) = true := decide_eq_true (by omega)
            have hl60 : decide ((k2 : Int) < 60) = false := decide_eq_false (by omega)
            clear hlt
            go_wp2_with fail
            refine (lives_any wr).mono ?_
            rintro e w9 ⟨rfl, hx9⟩
            go_wp2
            go_ret
            exact ⟨rfl, hb.trans (hx9.mono hb.size)⟩
          · as_aux_lemma =>
            have hlz : decide ((k2 : Int) < (len : Int)) = false := decide_eq_false (by omega)
            clear hlt
            go_wp2_with fail
            refine (lives_any wr).mono ?_
            rintro e w9 ⟨rfl, hx9⟩
            go_wp2
            go_ret
            exact ⟨rfl, hb.trans (hx9.mono hb.size)⟩

namespace goodsKeptDone
open Go.ChangeShapes Go.WideShapes Go.ChangeAt
set_option maxRecDepth 100000 in
theorem lifted (os : Os) (started : os.Started) (H : Type) (enc : TypeId × Value → H) :
    ReturnsInHanded {} Try.checked os 4 .any (Rows.goodsKeptSpec.pre6 enc Try.prog Try.f4 Rows.goodsKeptRow.domain false) (Rows.goodsKeptSpec.post enc Try.prog Try.f4 false true false false) := by
  refine returnsInHanded_of_change_sized (C := Try.checked) own started (by kernel_rfl) Try.func4
    (ChangeSpec.witness6 (enc := enc) (C := Try.checked) false ⟨#[], #[Value.int .i64 0, Value.slice none 0 0, Value.slice none 0 0], []⟩ 8 (by kernel_rfl) (by kernel_rfl) (by kernel_rfl) (by kernel_rfl)) ?_
  intro W base args ds gs before hval0 hW hcnd hsz0 _
  have hsz : (DataW.weightsEach Try.prog (Try.f4.params.toList ++ Rows.goodsKeptSpec.plain.varTypes Try.prog) (ds ++ gs)).all (· ≤ reachBytes) = true := hsz0
  clear hsz0
  have hval : ∀ (j : Nat) t v, Try.f4.params[j]? = some t → args[j]? = some v → Value.okWide Try.prog W .any base t v := hval0
  have hW' := hW
  obtain ⟨p, q, hA0, hV, rfl, hfz, hnd⟩ := hW
  have hA : DataW.TrodAll enc Try.prog W 0 (fun _ => true) true Try.f4.params.toList args.toList ds p := hA0
  rw [Try.params4] at hA hval hsz
  obtain ⟨v0, vs0, d0, ds0, p0, q0, hargs, rfl, rfl, h0, r0⟩ := trodAll_cons hA
  obtain ⟨v1, vs1, d1, ds1, p1, q1, rfl, rfl, rfl, h1, r1⟩ := trodAll_cons r0
  obtain ⟨v2, vs2, d2, ds2, p2, q2, rfl, rfl, rfl, h2, r2⟩ := trodAll_cons r1
  obtain ⟨rfl, rfl, rfl⟩ := trodAll_nil r2
  obtain rfl : args = #[v0, v1, v2] := by cases args; simp_all
  obtain ⟨rfl, rfl⟩ := trodVars_none hV
  obtain ⟨a0, rfl, rfl, rfl, w0⟩ := open_int Try.underlying3 (hval 0 3 v0 rfl rfl) h0
  obtain ⟨a1, len1, cap1, rfl⟩ := okWide_slice Try.underlying46 (hval 1 46 v1 rfl rfl)
  have k1 := h1
  have lt1 : ∀ x ∈ p1, x.block < W.heap.size := by obtain ⟨m, hm⟩ := k1; exact DataW.trod_lt m _ _ _ hm
  obtain ⟨f1, ho1, hc1, hm1⟩ := ops_open h1
  obtain ⟨a2, len2, cap2, rfl⟩ := okWide_slice Try.underlying47 (hval 2 47 v2 rfl rfl)
  have k2 := h2
  have lt2 : ∀ x ∈ p2, x.block < W.heap.size := by obtain ⟨m, hm⟩ := k2; exact DataW.trod_lt m _ _ _ hm
  obtain ⟨f2, ho2, hc2, hm2⟩ := ints_open h2
  clear hA0 hval0
  refine (goodsKept_walk (w := W) a0 w0 a1 len1 cap1 f1 ho1 hc1 hm1 a2 len2 cap2 f2 ho2 hc2 hm2).mono fun e W' ⟨he, bel⟩ => ?_
  subst he
  exact ⟨_, rfl, _, _, _, [], _, [], hW', trodAll_mk1 (shut_bool Try.underlying4 _), (trodAll_cons_mk (shut_int Try.underlying3 w0) (trodAll_cons_mk (Below.trod laidOut (by kernel_rfl) (of_decide_eq_true (by kernel_rfl)) k1 bel lt1) (trodAll_cons_mk (Below.trod laidOut (by kernel_rfl) (of_decide_eq_true (by kernel_rfl)) k2 bel lt2) trodAll_mk0))), rfl, bel.frame _, fun h => by cases h⟩

theorem over : Rows.goodsKeptRow.holds Try.pinned (OpenSpec.ofChange Rows.goodsKeptSpec) :=
  OpenClaim.holds_of_wide 4 Try.f4 rfl rfl rfl rfl rfl rfl rfl ⟨rfl, rfl, rfl, rfl, rfl⟩ rfl rfl rfl rfl rfl (by kernel_rfl) Try.func4 (by kernel_rfl)
    (of_decide_eq_true (by kernel_rfl)) (by unfold Func.isWrapper; first | (rw [if_pos (by decide +kernel)]; kernel_rfl) | (rw [if_neg (by decide +kernel)]; exact ⟨rfl, rfl⟩))
    (fun os started H enc _ => lifted os started H enc)

/-- The statement. -/
theorem proved : Rows.GoodsKeptSaid := over
end goodsKeptDone
end Go.Proofs.Ytipmamgmcipbfaa
