/- 'CountMarks' returns true for every input: the row of this law, proved. No condition. -/
import Derived.Test.YtlookiicogbkmaaOp5
import Derived.Test.YtlookiicogbkmaaArr8
import Derived.ProofKit
import Derived.Deep.LoopGhost
import Derived.Deep.CutRange
import Derived.Deep.CutBlock
import Derived.StillTailTactics
import Derived.Deep.RegionHeld3
import Derived.OpenShut
import Derived.ShutString
import Derived.ChangeOld
import Derived.SizedLaws
namespace Go.Proofs.Ytlookiicogbkmaa
open Go.RowKit
set_option linter.unusedVariables false
set_option linter.unusedSimpArgs false
theorem zeros8m : ints (List.replicate 8 0) = #[Value.int .i64 0, Value.int .i64 0, Value.int .i64 0, Value.int .i64 0, Value.int .i64 0, Value.int .i64 0, Value.int .i64 0, Value.int .i64 0] := rfl

set_option maxRecDepth 100000 in
set_option maxHeartbeats 3200000 in
theorem countMarks_walk {w : World} (A : Option Addr) (n c : Nat) (f : Nat → OpV) (ho : OPS w A n f) (hc : n ≤ c) (hm : c ≤ 9223372036854775807) :
    Calls Try.prog 7 #[.slice A n c] w fun e w' => e = .returned (.bool true) ∧ Below w.heap.size w w' := by
  go_enter Try.func7, Try.ntmps7
  go_wp2_with fail
  refine (new_any _).mono ?_
  rintro e w1 ⟨rfl, hb1, ht1⟩
  have hg : w.heap.size < w1.heap.size := ht1.lt
  generalize hgt : w.heap.size = g at *
  rw [← hgt] at hb1
  go_wp2_with fail
  refine (lives_any _).mono ?_
  rintro e w2 ⟨rfl, hb2⟩
  have hb02 := hb1.trans (hb2.mono hb1.size)
  have ht2 := ht1.kept (Keep.of_below hb2) (by omega)
  have hg2 : g < w2.heap.size := ht2.lt
  clear hb1 hb2 ht1
  have hb03 := hb02.alloc hb02.size (.cells (ints (List.replicate 8 0)) 41)
  have ht3 := ht2.alloc (.cells (ints (List.replicate 8 0)) 41)
  have hx3 := Blk.new w2 41 (ints (List.replicate 8 0))
  rw [zeros8m] at hb03 ht3
  have hx3 : Blk (w2.alloc (.cells #[Value.int .i64 0, Value.int .i64 0, Value.int .i64 0, Value.int .i64 0, Value.int .i64 0, Value.int .i64 0, Value.int .i64 0, Value.int .i64 0] 41)) w2.heap.size 41 (ints (List.replicate 8 0)) := hx3
  go_wp2_with fail
  generalize w2.heap.size = bx at *
  generalize hw3 : w2.alloc (.cells #[Value.int .i64 0, Value.int .i64 0, Value.int .i64 0, Value.int .i64 0, Value.int .i64 0, Value.int .i64 0, Value.int .i64 0, Value.int .i64 0] 41) = w3 at *
  clear hw3 hb02 ht2
  have hgb : w.heap.size ≤ g := by omega
  have hbx : w.heap.size ≤ bx := by omega
  go_loopg [5, 6] n (fun g1 sv v wr => ∃ (k : Nat) (xs : List Int) (d : Bool), v = .int .i64 (k : Int) ∧ k ≤ n ∧ g1 = n - k ∧ sv = .bool d ∧ Below w.heap.size w wr ∧ TL wr g xs (if d then 1 else 0) 0 ∧ Blk wr bx 41 (ints xs))
  case atStart => exact ⟨0, List.replicate 8 0, false, by go_num, by omega, rfl, rfl, hb03, ht3, hx3⟩
  case round =>
    obtain ⟨k, xs, d, rfl, hk, hg1, rfl, hb, ht, hx⟩ := hrel
    clear hb03 ht3 hx3
    by_cases hlt : k < n
    · have hlz : (k : Int) < (n : Int) := by omega
      obtain ⟨b, off, rfl, hbl, hat⟩ := ho (by omega)
      obtain ⟨c0, c1, c2⟩ := (hat k hlt).below hb hbl
      generalize f k = o at *
      obtain ⟨ok, oi, on⟩ := o
      have hop := Blk.new wr 43 #[.int .i64 ok, .int .i64 oi, .int .i64 on]
      have ht0 := ht.alloc (.cells #[.int .i64 ok, .int .i64 oi, .int .i64 on] 43)
      have hx0 := hx.alloc (.cells #[.int .i64 ok, .int .i64 oi, .int .i64 on] 43)
      have hb0 := hb.alloc hb.size (.cells #[.int .i64 ok, .int .i64 oi, .int .i64 on] 43)
      have hxl := hx.lt
      have hgl := ht.lt
      have hbo : w.heap.size ≤ wr.heap.size := hb.size
      simp only at c0 c1 c2
      cases hin : isIn oi with
      | true =>
        obtain ⟨hi0, hi1⟩ := (isIn_iff _).1 hin
        go_upto_block 2 with fail
        generalize wr.heap.size = bo at *
        generalize wr.alloc (.cells #[.int .i64 ok, .int .i64 oi, .int .i64 on] 43) = w0 at *
        clear ht hx hb c0 c1 c2 hat ho
        go_cut [5, 9, 10, 11] from 19 to 160 (fun s5 s9 s10 s11 wc => ∃ xs' d', s5 = Value.bool d' ∧ TL wc g xs' (if d' then 1 else 0) 0 ∧ Blk wc bx 41 (ints xs') ∧ Below w.heap.size w wc ∧ Blk wc bo 43 #[.int .i64 ok, .int .i64 oi, .int .i64 on])
        case first =>
          as_aux_lemma =>
            have hlt0 := ht0.lt
            have hlx0 := hx0.lt
            have hlo0 := hop.lt
            have hi8 : oi.toNat < 8 := by omega
            obtain ⟨q, hq⟩ : ∃ q, oi.toNat = q := ⟨_, rfl⟩
            obtain ⟨xi, hxi⟩ : ∃ x, xs.getD q 0 = x := ⟨_, rfl⟩
            have hq8 : q < 8 := by omega
            have hcx := hx0.cell q
            rw [ints_at _ _ (by rw [ht0.len]; exact hq8), hxi] at hcx
            have hfx := hx0.frozen q
            have o0 := hop.cell 0
            have o1 := hop.cell 1
            have o2 := hop.cell 2
            simp at o0 o1 o2
            by_cases h1 : ok = 1
            · as_aux_lemma =>
                subst h1
                obtain ⟨s, hs⟩ : ∃ s, IntKind.i64.wrap (xi + on) = s := ⟨_, rfl⟩
                go_wp2_with fail
                go_still_tail 10, (by kernel_rfl)
                change wpList _ _ _ _ _ w0.drew
                have htd := ht0.drew
                have hxd := hx0.drew
                have hopd := hop.drew
                have hbd := Below.drew hb0
                generalize w0.drew = wd at htd hxd hopd hbd ⊢
                have o0 := hopd.cell 0
                have o1 := hopd.cell 1
                have o2 := hopd.cell 2
                simp at o0 o1 o2
                have hcx := hxd.cell q
                rw [ints_at _ _ (by rw [htd.len]; exact hq8), hxi] at hcx
                have hfx := hxd.frozen q
                have ht1 := htd.kept ((Keep.refl (fun i => i = bx) wd).setCell (p := ⟨bx, q, none⟩) (fun _ => rfl) (.int .i64 s)) (by omega)
                have hct1 := ht1.mark q hq8
                rw [hxi] at hct1
                have hx1 := hxd.set_ q (.int .i64 s)
                rw [ints_set] at hx1
                have hop1 := hopd.kept ((Keep.refl (fun i => i = bx) wd).setCell (p := ⟨bx, q, none⟩) (fun _ => rfl) (.int .i64 s)) (by omega)
                have hb1 := hbd.setCell (p := ⟨bx, q, none⟩) hbx (.int .i64 s)
                have mk := Mark_in g oi on hi0 hi1 xi s _ (by rw [hq]; exact hct1) (by rw [hq]; exact ht1.frozen q) hs
                rw [hq] at mk
                go_wp2_with (go_at_call 21; refine mk.mono ?_; rintro e w' ⟨rfl, rfl⟩)
                go_meet
                exact ⟨_, d, rfl, ht1.set_mark q hq8 s, hx1.kept ((Keep.refl (fun i => i = g) _).setCell (p := ⟨g, q, none⟩) (fun _ => rfl) (.int .i64 s)) (by omega), hb1.setCell (p := ⟨g, q, none⟩) hgb (.int .i64 s), hop1.kept ((Keep.refl (fun i => i = g) _).setCell (p := ⟨g, q, none⟩) (fun _ => rfl) (.int .i64 s)) (by omega)⟩
            · by_cases h2 : ok = 2
              · as_aux_lemma =>
                  subst h2
                  by_cases hgt2 : xi < on
                  · have hdt : decide (xi < on) = true := decide_eq_true hgt2
                    go_wp2_with fail
                    go_quiet (fail)
                    have htd := ht0.drewN nq
                    have hxd := hx0.drewN nq
                    have hopd := hop.drewN nq
                    have hbd := below_drewN hb0 nq
                    generalize w0.drewN nq = wd at htd hxd hopd hbd ⊢
                    have o0 := hopd.cell 0
                    have o1 := hopd.cell 1
                    have o2 := hopd.cell 2
                    simp at o0 o1 o2
                    have hcx := hxd.cell q
                    rw [ints_at _ _ (by rw [htd.len]; exact hq8), hxi] at hcx
                    have hfx := hxd.frozen q
                    have ht1 := htd.kept ((Keep.refl (fun i => i = bx) wd).setCell (p := ⟨bx, q, none⟩) (fun _ => rfl) (.int .i64 on)) (by omega)
                    have hct1 := ht1.mark q hq8
                    rw [hxi] at hct1
                    have hx1 := hxd.set_ q (.int .i64 on)
                    rw [ints_set] at hx1
                    have hop1 := hopd.kept ((Keep.refl (fun i => i = bx) wd).setCell (p := ⟨bx, q, none⟩) (fun _ => rfl) (.int .i64 on)) (by omega)
                    have hb1 := hbd.setCell (p := ⟨bx, q, none⟩) hbx (.int .i64 on)
                    have mk := Most_in g oi on xi (if d then 1 else 0) 0 xs hi0 hi1 _ ht1 (by rw [hq]; exact hxi)
                    simp only [hdt, if_true, hq] at mk
                    go_wp2_with (go_at_call 22; refine (mk).mono ?_; rintro e w' ⟨rfl, hk2, ht2⟩)
                    go_meet
                    exact ⟨_, d, rfl, ht2, hx1.kept hk2 (by omega), hb1.trans (hk2.below hb1.size fun i hi e => by omega), hop1.kept hk2 (by omega)⟩
                  · have hdt : decide (xi < on) = false := decide_eq_false hgt2
                    go_wp2_with fail
                    go_quiet (fail)
                    have htd := ht0.drewN nq
                    have hxd := hx0.drewN nq
                    have hopd := hop.drewN nq
                    have hbd := below_drewN hb0 nq
                    generalize w0.drewN nq = wd at htd hxd hopd hbd ⊢
                    have o0 := hopd.cell 0
                    have o1 := hopd.cell 1
                    have o2 := hopd.cell 2
                    simp at o0 o1 o2
                    have hcx := hxd.cell q
                    rw [ints_at _ _ (by rw [htd.len]; exact hq8), hxi] at hcx
                    have hfx := hxd.frozen q
                    have mk := Most_in g oi on xi (if d then 1 else 0) 0 xs hi0 hi1 _ htd (by rw [hq]; exact hxi)
                    simp only [hdt, Bool.false_eq_true, if_false] at mk
                    go_wp2_with (go_at_call 22; refine (mk).mono ?_; rintro e w' ⟨rfl, hk2, ht2⟩)
                    go_meet
                    exact ⟨_, d, rfl, ht2, hxd.kept hk2 (by omega), hbd.trans (hk2.below hbd.size fun i hi e => by omega), hopd.kept hk2 (by omega)⟩
              · by_cases h3 : ok = 3
                · as_aux_lemma =>
                    subst h3
                    by_cases hA : 0 ≤ on
                    · have hAd : decide (0 ≤ on) = true := decide_eq_true hA
                      by_cases hB : on ≤ xi
                      · have hBd : decide (on ≤ xi) = true := decide_eq_true hB
                        obtain ⟨s, hs⟩ : ∃ s, wrap64 (xi - on) = s := ⟨_, rfl⟩
                        have hs' : IntKind.i64.wrap (xi - on) = s := by rw [← hs, IntKind.wrap_i64, wrap64]
                        go_wp2_with fail
                        go_quiet (fail)
                        have hte := ht0.drewN nq
                        have hxe := hx0.drewN nq
                        have hope := hop.drewN nq
                        have hbe := below_drewN hb0 nq
                        generalize w0.drewN nq = we at hte hxe hope hbe ⊢
                        have o0 := hope.cell 0
                        have o1 := hope.cell 1
                        have o2 := hope.cell 2
                        simp at o0 o1 o2
                        have hcx := hxe.cell q
                        rw [ints_at _ _ (by rw [hte.len]; exact hq8), hxi] at hcx
                        have hfx := hxe.frozen q
                        go_wp2_with fail
                        go_still_tail 10, (by kernel_rfl)
                        change wpList _ _ _ _ _ we.drew
                        have htd := hte.drew
                        have hxd := hxe.drew
                        have hopd := hope.drew
                        have hbd := Below.drew hbe
                        generalize we.drew = wd at htd hxd hopd hbd ⊢
                        have o0 := hopd.cell 0
                        have o1 := hopd.cell 1
                        have o2 := hopd.cell 2
                        simp at o0 o1 o2
                        have hcx := hxd.cell q
                        rw [ints_at _ _ (by rw [htd.len]; exact hq8), hxi] at hcx
                        have hfx := hxd.frozen q
                        have ht1 := htd.kept ((Keep.refl (fun i => i = bx) wd).setCell (p := ⟨bx, q, none⟩) (fun _ => rfl) (.int .i64 s)) (by omega)
                        have hct1 := ht1.mark q hq8
                        rw [hxi] at hct1
                        have hx1 := hxd.set_ q (.int .i64 s)
                        rw [ints_set] at hx1
                        have hop1 := hopd.kept ((Keep.refl (fun i => i = bx) wd).setCell (p := ⟨bx, q, none⟩) (fun _ => rfl) (.int .i64 s)) (by omega)
                        have hb1 := hbd.setCell (p := ⟨bx, q, none⟩) hbx (.int .i64 s)
                        have mk := Take_in g oi on xi (if d then 1 else 0) 0 xs hi0 hi1 _ ht1 (by rw [hq]; exact hxi)
                        simp only [hAd, hBd, Bool.and_self, if_true, hq, hs] at mk
                        go_wp2_with (go_at_call 23; refine (mk).mono ?_; rintro e w' ⟨rfl, hk2, ht2⟩)
                        go_meet
                        exact ⟨_, d, rfl, ht2, hx1.kept hk2 (by omega), hb1.trans (hk2.below hb1.size fun i hi e => by omega), hop1.kept hk2 (by omega)⟩
                      · have hBd : decide (on ≤ xi) = false := decide_eq_false hB
                        go_wp2_with fail
                        go_quiet (fail)
                        have htd := ht0.drewN nq
                        have hxd := hx0.drewN nq
                        have hopd := hop.drewN nq
                        have hbd := below_drewN hb0 nq
                        generalize w0.drewN nq = wd at htd hxd hopd hbd ⊢
                        have o0 := hopd.cell 0
                        have o1 := hopd.cell 1
                        have o2 := hopd.cell 2
                        simp at o0 o1 o2
                        have hcx := hxd.cell q
                        rw [ints_at _ _ (by rw [htd.len]; exact hq8), hxi] at hcx
                        have hfx := hxd.frozen q
                        have mk := Take_in g oi on xi (if d then 1 else 0) 0 xs hi0 hi1 _ htd (by rw [hq]; exact hxi)
                        simp only [hAd, hBd, Bool.and_false, Bool.false_eq_true, if_false] at mk
                        go_wp2_with (go_at_call 23; refine (mk).mono ?_; rintro e w' ⟨rfl, hk2, ht2⟩)
                        go_meet
                        exact ⟨_, d, rfl, ht2, hxd.kept hk2 (by omega), hbd.trans (hk2.below hbd.size fun i hi e => by omega), hopd.kept hk2 (by omega)⟩
                    · have hAd : decide (0 ≤ on) = false := decide_eq_false hA
                      go_wp2_with fail
                      go_quiet (fail)
                      have htd := ht0.drewN nq
                      have hxd := hx0.drewN nq
                      have hopd := hop.drewN nq
                      have hbd := below_drewN hb0 nq
                      generalize w0.drewN nq = wd at htd hxd hopd hbd ⊢
                      have o0 := hopd.cell 0
                      have o1 := hopd.cell 1
                      have o2 := hopd.cell 2
                      simp at o0 o1 o2
                      have hcx := hxd.cell q
                      rw [ints_at _ _ (by rw [htd.len]; exact hq8), hxi] at hcx
                      have hfx := hxd.frozen q
                      have mk := Take_in g oi on xi (if d then 1 else 0) 0 xs hi0 hi1 _ htd (by rw [hq]; exact hxi)
                      simp only [hAd, Bool.false_and, Bool.false_eq_true, if_false] at mk
                      go_wp2_with (go_at_call 23; refine (mk).mono ?_; rintro e w' ⟨rfl, hk2, ht2⟩)
                      go_meet
                      exact ⟨_, d, rfl, ht2, hxd.kept hk2 (by omega), hbd.trans (hk2.below hbd.size fun i hi e => by omega), hopd.kept hk2 (by omega)⟩
                · by_cases h4 : ok = 4
                  · as_aux_lemma =>
                      subst h4
                      cases d with
                      | true =>
                        have ht0' : TL w0 g xs 1 0 := ht0
                        go_wp2_with (go_at_call 24; refine (Start_again g xs 0 _ ht0').mono ?_; rintro e w' ⟨rfl, hk2⟩)
                        go_meet
                        exact ⟨_, true, rfl, ht0'.kept (Keep.of_below hk2) (by omega), hx0.kept (Keep.of_below hk2) (by omega), hb0.trans (hk2.mono hb0.size), hop.kept (Keep.of_below hk2) (by omega)⟩
                      | false =>
                        have ht0' : TL w0 g xs 0 0 := ht0
                        go_wp2_with (go_at_call 24; refine (Start_first g xs _ ht0').mono ?_; rintro e w' ⟨rfl, hk2, ht2⟩)
                        go_meet
                        exact ⟨_, true, rfl, ht2, hx0.kept hk2 (by omega), hb0.trans (hk2.below hb0.size fun i hi e => by omega), hop.kept hk2 (by omega)⟩
                  · as_aux_lemma =>
                      go_wp2_with fail
                      go_meet
                      exact ⟨xs, d, rfl, ht0, hx0, hb0, hop⟩
        case rest =>
          as_aux_lemma =>
            obtain ⟨xs', d', rfl, ht1, hx1, hb1, hop1⟩ := hcut
            clear ht0 hx0 hb0 hop
            have hi8 : oi.toNat < 8 := by omega
            obtain ⟨q, hq⟩ : ∃ q, oi.toNat = q := ⟨_, rfl⟩
            have hq8 : q < 8 := by omega
            obtain ⟨xi, hxi⟩ : ∃ x, xs'.getD q 0 = x := ⟨_, rfl⟩
            have hcx := hx1.cell q
            rw [ints_at _ _ (by rw [ht1.len]; exact hq8), hxi] at hcx
            have hct := ht1.mark q hq8
            rw [hxi] at hct
            have hall := All_live g (if d' then 1 else 0) 0 xs' wc.drew ht1.drew
            have hlen := ht1.len
            obtain ⟨x0, x1, x2, x3, x4, x5, x6, x7, hxs⟩ := eight xs' hlen
            have y0 := hx1.cell 0
            have y1 := hx1.cell 1
            have y2 := hx1.cell 2
            have y3 := hx1.cell 3
            have y4 := hx1.cell 4
            have y5 := hx1.cell 5
            have y6 := hx1.cell 6
            have y7 := hx1.cell 7
            have o1 := hop1.cell 1
            simp [hxs, ints] at y0 y1 y2 y3 y4 y5 y6 y7
            simp at o1
            have heq : ∀ W : World, (Op.equalIn 10000 41 (.agg #[.int .i64 x0, .int .i64 x1, .int .i64 x2, .int .i64 x3, .int .i64 x4, .int .i64 x5, .int .i64 x6, .int .i64 x7]) (.agg #[.int .i64 x0, .int .i64 x1, .int .i64 x2, .int .i64 x3, .int .i64 x4, .int .i64 x5, .int .i64 x6, .int .i64 x7])).run Try.prog W = .ok true W := fun W => equal_eight [x0, x1, x2, x3, x4, x5, x6, x7] rfl W
            have hints : ints xs' = #[.int .i64 x0, .int .i64 x1, .int .i64 x2, .int .i64 x3, .int .i64 x4, .int .i64 x5, .int .i64 x6, .int .i64 x7] := by rw [hxs]; rfl
            have hgl1 := ht1.lt
            have hxl1 := hx1.lt
            have hol1 := hop1.lt
            go_wp2_with fail
            refine wp_region_held_drew (S := (fun w' => w'.cell? ⟨bo, 1, none⟩ = some (.int .i64 oi) ∧ w'.cell? ⟨bx, q, none⟩ = some (.int .i64 xi) ∧ w'.cell? ⟨g, q, none⟩ = some (.int .i64 xi) ∧ w'.cell? ⟨bx, 0, none⟩ = some (.int .i64 x0) ∧ w'.cell? ⟨bx, 1, none⟩ = some (.int .i64 x1) ∧ w'.cell? ⟨bx, 2, none⟩ = some (.int .i64 x2) ∧ w'.cell? ⟨bx, 3, none⟩ = some (.int .i64 x3) ∧ w'.cell? ⟨bx, 4, none⟩ = some (.int .i64 x4) ∧ w'.cell? ⟨bx, 5, none⟩ = some (.int .i64 x5) ∧ w'.cell? ⟨bx, 6, none⟩ = some (.int .i64 x6) ∧ w'.cell? ⟨bx, 7, none⟩ = some (.int .i64 x7))) (by kernel_rfl) ⟨o1, hcx, hct, y0, y1, y2, y3, y4, y5, y6, y7⟩ (fun hHeld => ?_)
            refine wpAnyH_take (i := 0) (oi := ?oi0a) (v := ?v0a) ?hi0a (by kernel_rfl) (by kernel_rfl) (by kernel_rfl) ?hq0a (Or.inl ⟨?hw0a, ?hy0a⟩) (by assumption) ?rest0a
            case hi0a => (simp only [List.getElem?_toArray, List.getElem?_cons_succ, List.getElem?_cons_zero]; try rfl)
            case hq0a => exact fun _ _ _ h => h
            case hw0a => rfl
            case hy0a => (intro w hSw; (try dsimp only at hSw); go_simp <;> with_reducible rfl)
            try simp only [Act.put, List.setIfInBounds_toArray, List.set_cons_zero, List.set_cons_succ]
            refine wpAnyH_take (i := 1) (oi := ?oi1a) (v := ?v1a) ?hi1a (by kernel_rfl) (by kernel_rfl) (by kernel_rfl) ?hq1a (Or.inl ⟨?hw1a, ?hy1a⟩) (by assumption) ?rest1a
            case hi1a => (simp only [List.getElem?_toArray, List.getElem?_cons_succ, List.getElem?_cons_zero]; try rfl)
            case hq1a => exact fun _ _ _ h => h
            case hw1a => rfl
            case hy1a => (intro w hSw; (try dsimp only at hSw); go_simp <;> with_reducible rfl)
            try simp only [Act.put, List.setIfInBounds_toArray, List.set_cons_zero, List.set_cons_succ]
            refine wpAnyH_take (i := 2) (oi := ?oi2a) (v := ?v2a) ?hi2a (by kernel_rfl) (by kernel_rfl) (by kernel_rfl) ?hq2a (Or.inl ⟨?hw2a, ?hy2a⟩) (by assumption) ?rest2a
            case hi2a => (simp only [List.getElem?_toArray, List.getElem?_cons_succ, List.getElem?_cons_zero]; try rfl)
            case hq2a => exact fun _ _ _ h => h
            case hw2a => rfl
            case hy2a => (intro w hSw; (try dsimp only at hSw); go_simp <;> with_reducible rfl)
            try simp only [Act.put, List.setIfInBounds_toArray, List.set_cons_zero, List.set_cons_succ]
            refine wpAnyH_take (i := 3) (oi := ?oi3a) (v := ?v3a) ?hi3a (by kernel_rfl) (by kernel_rfl) (by kernel_rfl) ?hq3a (Or.inl ⟨?hw3a, ?hy3a⟩) (by assumption) ?rest3a
            case hi3a => (simp only [List.getElem?_toArray, List.getElem?_cons_succ, List.getElem?_cons_zero]; try rfl)
            case hq3a => exact fun _ _ _ h => h
            case hw3a => rfl
            case hy3a => (intro w hSw; (try dsimp only at hSw); go_simp <;> with_reducible rfl)
            try simp only [Act.put, List.setIfInBounds_toArray, List.set_cons_zero, List.set_cons_succ]
            refine wpAnyH_take (i := 4) (oi := ?oi4a) (v := ?v4a) ?hi4a (by kernel_rfl) (by kernel_rfl) (by kernel_rfl) ?hq4a (Or.inl ⟨?hw4a, ?hy4a⟩) (by assumption) ?rest4a
            case hi4a => (simp only [List.getElem?_toArray, List.getElem?_cons_succ, List.getElem?_cons_zero]; try rfl)
            case hq4a => exact fun _ _ _ h => h
            case hw4a => rfl
            case hy4a => (intro w hSw; (try dsimp only at hSw); go_simp <;> with_reducible rfl)
            try simp only [Act.put, List.setIfInBounds_toArray, List.set_cons_zero, List.set_cons_succ]
            refine wpAnyH_take (i := 6) (oi := ?oi6a) (v := ?v6a) ?hi6a (by kernel_rfl) (by kernel_rfl) (by kernel_rfl) ?hq6a (Or.inl ⟨?hw6a, ?hy6a⟩) (by assumption) ?rest6a
            case hi6a => (simp only [List.getElem?_toArray, List.getElem?_cons_succ, List.getElem?_cons_zero]; try rfl)
            case hq6a => exact fun _ _ _ h => h
            case hw6a => rfl
            case hy6a => (intro w hSw; (try dsimp only at hSw); go_simp <;> with_reducible rfl)
            try simp only [Act.put, List.setIfInBounds_toArray, List.set_cons_zero, List.set_cons_succ]
            refine wpAnyH_take (i := 7) (oi := ?oi7a) (v := ?v7a) ?hi7a (by kernel_rfl) (by kernel_rfl) (by kernel_rfl) ?hq7a (Or.inl ⟨?hw7a, ?hy7a⟩) (by assumption) ?rest7a
            case hi7a => (simp only [List.getElem?_toArray, List.getElem?_cons_succ, List.getElem?_cons_zero]; try rfl)
            case hq7a => exact fun _ _ _ h => h
            case hw7a => rfl
            case hy7a => (intro w hSw; (try dsimp only at hSw); go_simp <;> with_reducible rfl)
            try simp only [Act.put, List.setIfInBounds_toArray, List.set_cons_zero, List.set_cons_succ]
            refine wpAnyH_take (i := 8) (oi := ?oi8a) (v := ?v8a) ?hi8a (by kernel_rfl) (by kernel_rfl) (by kernel_rfl) ?hq8a (Or.inl ⟨?hw8a, ?hy8a⟩) (by assumption) ?rest8a
            case hi8a => (simp only [List.getElem?_toArray, List.getElem?_cons_succ, List.getElem?_cons_zero]; try rfl)
            case hq8a => exact fun _ _ _ h => h
            case hw8a => rfl
            case hy8a => (intro w hSw; (try dsimp only at hSw); go_simp <;> with_reducible rfl)
            try simp only [Act.put, List.setIfInBounds_toArray, List.set_cons_zero, List.set_cons_succ]
            refine wpAnyH_take (i := 9) (oi := ?oi9a) (v := ?v9a) ?hi9a (by kernel_rfl) (by kernel_rfl) (by kernel_rfl) ?hq9a (Or.inl ⟨?hw9a, ?hy9a⟩) (by assumption) ?rest9a
            case hi9a => (simp only [List.getElem?_toArray, List.getElem?_cons_succ, List.getElem?_cons_zero]; try rfl)
            case hq9a => exact fun _ _ _ h => h
            case hw9a => rfl
            case hy9a => (intro w hSw; (try dsimp only at hSw); go_simp <;> with_reducible rfl)
            try simp only [Act.put, List.setIfInBounds_toArray, List.set_cons_zero, List.set_cons_succ]
            refine wpAnyH_ready (rs := [5]) (by kernel_rfl) (by simp) ?_
            refine AllReadyH.cons (o := ?o5) ?hi5a (fun K hK => ?st5a) AllReadyH.nil
            case hi5a => (simp only [List.getElem?_toArray, List.getElem?_cons_succ, List.getElem?_cons_zero]; try rfl)
            go_simp
            refine (get_in g oi hi0 hi1 xi _ (by rw [hq]; exact hct)).mono ?_
            rintro e w' ⟨rfl, rfl⟩
            refine hK.out _ _ ⟨o1, hcx, hct, y0, y1, y2, y3, y4, y5, y6, y7⟩ (fun hHeld2 => ?_)
            clear hK K hHeld
            have hHeld := hHeld2
            clear hHeld2
            try simp only [Act.put, List.setIfInBounds_toArray, List.set_cons_zero, List.set_cons_succ]
            refine wpAnyH_take (i := 10) (oi := ?oi10a) (v := ?v10a) ?hi10a (by kernel_rfl) (by kernel_rfl) (by kernel_rfl) ?hq10a (Or.inl ⟨?hw10a, ?hy10a⟩) (by assumption) ?rest10a
            case hi10a => (simp only [List.getElem?_toArray, List.getElem?_cons_succ, List.getElem?_cons_zero]; try rfl)
            case hq10a => exact fun _ _ _ h => h
            case hw10a => rfl
            case hy10a => (intro w hSw; (try dsimp only at hSw); go_simp <;> with_reducible rfl)
            try simp only [Act.put, List.setIfInBounds_toArray, List.set_cons_zero, List.set_cons_succ]
            refine wpAnyH_take (i := 11) (oi := ?oi11a) (v := ?v11a) ?hi11a (by kernel_rfl) (by kernel_rfl) (by kernel_rfl) ?hq11a (Or.inl ⟨?hw11a, ?hy11a⟩) (by assumption) ?rest11a
            case hi11a => (simp only [List.getElem?_toArray, List.getElem?_cons_succ, List.getElem?_cons_zero]; try rfl)
            case hq11a => exact fun _ _ _ h => h
            case hw11a => rfl
            case hy11a => (intro w hSw; (try dsimp only at hSw); go_simp <;> with_reducible rfl)
            try simp only [Act.put, List.setIfInBounds_toArray, List.set_cons_zero, List.set_cons_succ]
            refine wpAnyH_take (i := 12) (oi := ?oi12a) (v := ?v12a) ?hi12a (by kernel_rfl) (by kernel_rfl) (by kernel_rfl) ?hq12a (Or.inl ⟨?hw12a, ?hy12a⟩) (by assumption) ?rest12a
            case hi12a => (simp only [List.getElem?_toArray, List.getElem?_cons_succ, List.getElem?_cons_zero]; try rfl)
            case hq12a => exact fun _ _ _ h => h
            case hw12a => rfl
            case hy12a => (intro w hSw; (try dsimp only at hSw); go_simp <;> with_reducible rfl)
            try simp only [Act.put, List.setIfInBounds_toArray, List.set_cons_zero, List.set_cons_succ]
            refine wpAnyH_take (i := 13) (oi := ?oi13a) (v := ?v13a) ?hi13a (by kernel_rfl) (by kernel_rfl) (by kernel_rfl) ?hq13a (Or.inl ⟨?hw13a, ?hy13a⟩) (by assumption) ?rest13a
            case hi13a => (simp only [List.getElem?_toArray, List.getElem?_cons_succ, List.getElem?_cons_zero]; try rfl)
            case hq13a => exact fun _ _ _ h => h
            case hw13a => rfl
            case hy13a => (intro w hSw; (try dsimp only at hSw); go_simp <;> with_reducible rfl)
            try simp only [Act.put, List.setIfInBounds_toArray, List.set_cons_zero, List.set_cons_succ]
            refine wpAnyH_take (i := 14) (oi := ?oi14a) (v := ?v14a) ?hi14a (by kernel_rfl) (by kernel_rfl) (by kernel_rfl) ?hq14a (Or.inl ⟨?hw14a, ?hy14a⟩) (by assumption) ?rest14a
            case hi14a => (simp only [List.getElem?_toArray, List.getElem?_cons_succ, List.getElem?_cons_zero]; try rfl)
            case hq14a => exact fun _ _ _ h => h
            case hw14a => rfl
            case hy14a => (intro w hSw; (try dsimp only at hSw); go_simp <;> with_reducible rfl)
            try simp only [Act.put, List.setIfInBounds_toArray, List.set_cons_zero, List.set_cons_succ]
            refine wpAnyH_take (i := 15) (oi := ?oi15a) (v := ?v15a) ?hi15a (by kernel_rfl) (by kernel_rfl) (by kernel_rfl) ?hq15a (Or.inl ⟨?hw15a, ?hy15a⟩) (by assumption) ?rest15a
            case hi15a => (simp only [List.getElem?_toArray, List.getElem?_cons_succ, List.getElem?_cons_zero]; try rfl)
            case hq15a => exact fun _ _ _ h => h
            case hw15a => rfl
            case hy15a => (intro w hSw; (try dsimp only at hSw); go_simp <;> with_reducible rfl)
            try simp only [Act.put, List.setIfInBounds_toArray, List.set_cons_zero, List.set_cons_succ]
            refine wpAnyH_take (i := 16) (oi := ?oi16a) (v := undef) ?hi16a (by kernel_rfl) (by kernel_rfl) (by kernel_rfl) ?hq16a (Or.inr ⟨?hw16a, rfl⟩) (by assumption) ?rest16a
            case hi16a => (simp only [List.getElem?_toArray, List.getElem?_cons_succ, List.getElem?_cons_zero]; try rfl)
            case hq16a => exact fun _ _ _ h => h
            case hw16a => rfl
            try simp only [Act.put, List.setIfInBounds_toArray, List.set_cons_zero, List.set_cons_succ]
            refine wpAnyH_take (i := 17) (oi := ?oi17a) (v := undef) ?hi17a (by kernel_rfl) (by kernel_rfl) (by kernel_rfl) ?hq17a (Or.inr ⟨?hw17a, rfl⟩) (by assumption) ?rest17a
            case hi17a => (simp only [List.getElem?_toArray, List.getElem?_cons_succ, List.getElem?_cons_zero]; try rfl)
            case hq17a => exact fun _ _ _ h => h
            case hw17a => rfl
            try simp only [Act.put, List.setIfInBounds_toArray, List.set_cons_zero, List.set_cons_succ]
            refine wpAnyH_take (i := 18) (oi := ?oi18a) (v := undef) ?hi18a (by kernel_rfl) (by kernel_rfl) (by kernel_rfl) ?hq18a (Or.inr ⟨?hw18a, rfl⟩) (by assumption) ?rest18a
            case hi18a => (simp only [List.getElem?_toArray, List.getElem?_cons_succ, List.getElem?_cons_zero]; try rfl)
            case hq18a => exact fun _ _ _ h => h
            case hw18a => rfl
            try simp only [Act.put, List.setIfInBounds_toArray, List.set_cons_zero, List.set_cons_succ]
            refine wpAnyH_take (i := 19) (oi := ?oi19a) (v := undef) ?hi19a (by kernel_rfl) (by kernel_rfl) (by kernel_rfl) ?hq19a (Or.inr ⟨?hw19a, rfl⟩) (by assumption) ?rest19a
            case hi19a => (simp only [List.getElem?_toArray, List.getElem?_cons_succ, List.getElem?_cons_zero]; try rfl)
            case hq19a => exact fun _ _ _ h => h
            case hw19a => rfl
            try simp only [Act.put, List.setIfInBounds_toArray, List.set_cons_zero, List.set_cons_succ]
            refine wpAnyH_take (i := 20) (oi := ?oi20a) (v := undef) ?hi20a (by kernel_rfl) (by kernel_rfl) (by kernel_rfl) ?hq20a (Or.inr ⟨?hw20a, rfl⟩) (by assumption) ?rest20a
            case hi20a => (simp only [List.getElem?_toArray, List.getElem?_cons_succ, List.getElem?_cons_zero]; try rfl)
            case hq20a => exact fun _ _ _ h => h
            case hw20a => rfl
            try simp only [Act.put, List.setIfInBounds_toArray, List.set_cons_zero, List.set_cons_succ]
            refine wpAnyH_take (i := 21) (oi := ?oi21a) (v := ?v21a) ?hi21a (by kernel_rfl) (by kernel_rfl) (by kernel_rfl) ?hq21a (Or.inl ⟨?hw21a, ?hy21a⟩) (by assumption) ?rest21a
            case hi21a => (simp only [List.getElem?_toArray, List.getElem?_cons_succ, List.getElem?_cons_zero]; try rfl)
            case hq21a => exact fun _ _ _ h => h
            case hw21a => rfl
            case hy21a => (intro w hSw; (try dsimp only at hSw); go_simp <;> with_reducible rfl)
            try simp only [Act.put, List.setIfInBounds_toArray, List.set_cons_zero, List.set_cons_succ]
            refine wpAnyH_take (i := 22) (oi := ?oi22a) (v := ?v22a) ?hi22a (by kernel_rfl) (by kernel_rfl) (by kernel_rfl) ?hq22a (Or.inl ⟨?hw22a, ?hy22a⟩) (by assumption) ?rest22a
            case hi22a => (simp only [List.getElem?_toArray, List.getElem?_cons_succ, List.getElem?_cons_zero]; try rfl)
            case hq22a => exact fun _ _ _ h => h
            case hw22a => rfl
            case hy22a => (intro w hSw; (try dsimp only at hSw); go_simp <;> with_reducible rfl)
            try simp only [Act.put, List.setIfInBounds_toArray, List.set_cons_zero, List.set_cons_succ]
            refine wpAnyH_take (i := 23) (oi := ?oi23a) (v := ?v23a) ?hi23a (by kernel_rfl) (by kernel_rfl) (by kernel_rfl) ?hq23a (Or.inl ⟨?hw23a, ?hy23a⟩) (by assumption) ?rest23a
            case hi23a => (simp only [List.getElem?_toArray, List.getElem?_cons_succ, List.getElem?_cons_zero]; try rfl)
            case hq23a => exact fun _ _ _ h => h
            case hw23a => rfl
            case hy23a => (intro w hSw; (try dsimp only at hSw); go_simp <;> with_reducible rfl)
            try simp only [Act.put, List.setIfInBounds_toArray, List.set_cons_zero, List.set_cons_succ]
            refine wpAnyH_take (i := 24) (oi := ?oi24a) (v := ?v24a) ?hi24a (by kernel_rfl) (by kernel_rfl) (by kernel_rfl) ?hq24a (Or.inl ⟨?hw24a, ?hy24a⟩) (by assumption) ?rest24a
            case hi24a => (simp only [List.getElem?_toArray, List.getElem?_cons_succ, List.getElem?_cons_zero]; try rfl)
            case hq24a => exact fun _ _ _ h => h
            case hw24a => rfl
            case hy24a => (intro w hSw; (try dsimp only at hSw); go_simp <;> with_reducible rfl)
            try simp only [Act.put, List.setIfInBounds_toArray, List.set_cons_zero, List.set_cons_succ]
            refine wpAnyH_take (i := 26) (oi := ?oi26a) (v := ?v26a) ?hi26a (by kernel_rfl) (by kernel_rfl) (by kernel_rfl) ?hq26a (Or.inl ⟨?hw26a, ?hy26a⟩) (by assumption) ?rest26a
            case hi26a => (simp only [List.getElem?_toArray, List.getElem?_cons_succ, List.getElem?_cons_zero]; try rfl)
            case hq26a => exact fun _ _ _ h => h
            case hw26a => rfl
            case hy26a => (intro w hSw; (try dsimp only at hSw); go_simp <;> with_reducible rfl)
            try simp only [Act.put, List.setIfInBounds_toArray, List.set_cons_zero, List.set_cons_succ]
            refine wpAnyH_ready (rs := [25]) (by kernel_rfl) (by simp) ?_
            refine AllReadyH.cons (o := ?o25) ?hi25a (fun K hK => ?st25a) AllReadyH.nil
            case hi25a => (simp only [List.getElem?_toArray, List.getElem?_cons_succ, List.getElem?_cons_zero]; try rfl)
            go_simp
            refine hall.mono ?_
            rintro e w4 ⟨rfl, hb4⟩
            rw [hints]
            refine hK.out _ _ ⟨(hb4.cell (p := ⟨bo, 1, none⟩) hol1).trans o1, (hb4.cell (p := ⟨bx, q, none⟩) hxl1).trans hcx, (hb4.cell (p := ⟨g, q, none⟩) hgl1).trans hct, (hb4.cell (p := ⟨bx, 0, none⟩) hxl1).trans y0, (hb4.cell (p := ⟨bx, 1, none⟩) hxl1).trans y1, (hb4.cell (p := ⟨bx, 2, none⟩) hxl1).trans y2, (hb4.cell (p := ⟨bx, 3, none⟩) hxl1).trans y3, (hb4.cell (p := ⟨bx, 4, none⟩) hxl1).trans y4, (hb4.cell (p := ⟨bx, 5, none⟩) hxl1).trans y5, (hb4.cell (p := ⟨bx, 6, none⟩) hxl1).trans y6, (hb4.cell (p := ⟨bx, 7, none⟩) hxl1).trans y7⟩ (fun hHeld2 => ?_)
            clear hK K hHeld
            have hHeld := hHeld2
            clear hHeld2
            try simp only [Act.put, List.setIfInBounds_toArray, List.set_cons_zero, List.set_cons_succ]
            refine wpAnyH_take (i := 27) (oi := ?oi27a) (v := ?v27a) ?hi27a (by kernel_rfl) (by kernel_rfl) (by kernel_rfl) ?hq27a (Or.inl ⟨?hw27a, ?hy27a⟩) (by assumption) ?rest27a
            case hi27a => (simp only [List.getElem?_toArray, List.getElem?_cons_succ, List.getElem?_cons_zero]; try rfl)
            case hq27a => exact fun _ _ _ h => h
            case hw27a => rfl
            case hy27a => (intro w hSw; (try dsimp only at hSw); go_simp <;> with_reducible rfl)
            try simp only [Act.put, List.setIfInBounds_toArray, List.set_cons_zero, List.set_cons_succ]
            refine wpAnyH_take (i := 28) (oi := ?oi28a) (v := ?v28a) ?hi28a (by kernel_rfl) (by kernel_rfl) (by kernel_rfl) ?hq28a (Or.inl ⟨?hw28a, ?hy28a⟩) (by assumption) ?rest28a
            case hi28a => (simp only [List.getElem?_toArray, List.getElem?_cons_succ, List.getElem?_cons_zero]; try rfl)
            case hq28a => exact fun _ _ _ h => h
            case hw28a => rfl
            case hy28a => (intro w hSw; (try dsimp only at hSw); go_simp <;> with_reducible rfl)
            try simp only [Act.put, List.setIfInBounds_toArray, List.set_cons_zero, List.set_cons_succ]
            refine wpAnyH_done (by kernel_rfl) ?_ _
            have hb14 := (Below.drew hb1).trans (hb4.mono hb1.size)
            have ht4 := ht1.drew.kept (Keep.of_below hb4) (by have := ht1.lt; show ¬ wc.heap.size ≤ g; omega)
            have hx4 := hx1.drew.kept (Keep.of_below hb4) (by have := hx1.lt; show ¬ wc.heap.size ≤ bx; omega)
            clear ht1 hx1 hop1 hb1 hall heq hints hct hcx hHeld
            go_wp2_with fail
            go_roundg (n - (k + 1))
            case measure => omega
            case rel => exact ⟨k + 1, xs', d', by go_num, by omega, rfl, rfl, hb14, ht4, hx4⟩
      | false =>
        rcases (isIn_not _).1 hin with hi0 | hi1
        · go_upto_block 2 with fail
          generalize wr.heap.size = bo at *
          generalize wr.alloc (.cells #[.int .i64 ok, .int .i64 oi, .int .i64 on] 43) = w0 at *
          clear ht hx hb c0 c1 c2 hat ho
          go_cut [5, 9, 10, 11] from 19 to 160 (fun s5 s9 s10 s11 wc => ∃ xs' d', s5 = Value.bool d' ∧ TL wc g xs' (if d' then 1 else 0) 0 ∧ Blk wc bx 41 (ints xs') ∧ Below w.heap.size w wc ∧ Blk wc bo 43 #[.int .i64 ok, .int .i64 oi, .int .i64 on])
          case first =>
            as_aux_lemma =>
              have hlt0 := ht0.lt
              have hlx0 := hx0.lt
              have hlo0 := hop.lt
              have o0 := hop.cell 0
              have o1 := hop.cell 1
              have o2 := hop.cell 2
              simp at o0 o1 o2
              by_cases h1 : ok = 1
              · as_aux_lemma =>
                  subst h1
                  go_wp2_with (go_at_call 21; refine (Mark_out g oi on hin _).mono ?_; rintro e w' ⟨rfl, rfl⟩)
                  go_meet
                  exact ⟨xs, d, rfl, ht0, hx0, hb0, hop⟩
              · by_cases h2 : ok = 2
                · as_aux_lemma =>
                    subst h2
                    go_wp2_with fail
                    go_quiet (fail)
                    have htd := ht0.drewN nq
                    have hxd := hx0.drewN nq
                    have hopd := hop.drewN nq
                    have hbd := below_drewN hb0 nq
                    generalize w0.drewN nq = wd at htd hxd hopd hbd ⊢
                    have o1 := hopd.cell 1
                    have o2 := hopd.cell 2
                    simp at o1 o2
                    have hltd := htd.lt
                    have hlxd := hxd.lt
                    have hlod := hopd.lt
                    go_wp2_with (go_at_call 22; refine (Most_out g oi on hin _).mono ?_; rintro e w' ⟨rfl, hk2⟩)
                    go_meet
                    exact ⟨_, d, rfl, htd.kept (Keep.of_below hk2) (by omega), hxd.kept (Keep.of_below hk2) (by omega), hbd.trans (hk2.mono hbd.size), hopd.kept (Keep.of_below hk2) (by omega)⟩
                · by_cases h3 : ok = 3
                  · as_aux_lemma =>
                      subst h3
                      go_wp2_with fail
                      go_quiet (fail)
                      have htd := ht0.drewN nq
                      have hxd := hx0.drewN nq
                      have hopd := hop.drewN nq
                      have hbd := below_drewN hb0 nq
                      generalize w0.drewN nq = wd at htd hxd hopd hbd ⊢
                      have o1 := hopd.cell 1
                      have o2 := hopd.cell 2
                      simp at o1 o2
                      have hltd := htd.lt
                      have hlxd := hxd.lt
                      have hlod := hopd.lt
                      go_wp2_with (go_at_call 23; refine (Take_out g oi on hin _).mono ?_; rintro e w' ⟨rfl, hk2⟩)
                      go_meet
                      exact ⟨_, d, rfl, htd.kept (Keep.of_below hk2) (by omega), hxd.kept (Keep.of_below hk2) (by omega), hbd.trans (hk2.mono hbd.size), hopd.kept (Keep.of_below hk2) (by omega)⟩
                  · by_cases h4 : ok = 4
                    · as_aux_lemma =>
                        subst h4
                        cases d with
                        | true =>
                          have ht0' : TL w0 g xs 1 0 := ht0
                          go_wp2_with (go_at_call 24; refine (Start_again g xs 0 _ ht0').mono ?_; rintro e w' ⟨rfl, hk2⟩)
                          go_meet
                          exact ⟨_, true, rfl, ht0'.kept (Keep.of_below hk2) (by omega), hx0.kept (Keep.of_below hk2) (by omega), hb0.trans (hk2.mono hb0.size), hop.kept (Keep.of_below hk2) (by omega)⟩
                        | false =>
                          have ht0' : TL w0 g xs 0 0 := ht0
                          go_wp2_with (go_at_call 24; refine (Start_first g xs _ ht0').mono ?_; rintro e w' ⟨rfl, hk2, ht2⟩)
                          go_meet
                          exact ⟨_, true, rfl, ht2, hx0.kept hk2 (by omega), hb0.trans (hk2.below hb0.size fun i hi e => by omega), hop.kept hk2 (by omega)⟩
                    · as_aux_lemma =>
                        go_wp2_with fail
                        go_meet
                        exact ⟨xs, d, rfl, ht0, hx0, hb0, hop⟩
          case rest =>
            as_aux_lemma =>
              obtain ⟨xs', d', rfl, ht1, hx1, hb1, hop1⟩ := hcut
              clear ht0 hx0 hb0 hop
              have hall := All_live g (if d' then 1 else 0) 0 xs' wc.drew ht1.drew
              have hlen := ht1.len
              obtain ⟨x0, x1, x2, x3, x4, x5, x6, x7, hxs⟩ := eight xs' hlen
              have y0 := hx1.cell 0
              have y1 := hx1.cell 1
              have y2 := hx1.cell 2
              have y3 := hx1.cell 3
              have y4 := hx1.cell 4
              have y5 := hx1.cell 5
              have y6 := hx1.cell 6
              have y7 := hx1.cell 7
              have o1 := hop1.cell 1
              simp [hxs, ints] at y0 y1 y2 y3 y4 y5 y6 y7
              simp at o1
              have heq : ∀ W : World, (Op.equalIn 10000 41 (.agg #[.int .i64 x0, .int .i64 x1, .int .i64 x2, .int .i64 x3, .int .i64 x4, .int .i64 x5, .int .i64 x6, .int .i64 x7]) (.agg #[.int .i64 x0, .int .i64 x1, .int .i64 x2, .int .i64 x3, .int .i64 x4, .int .i64 x5, .int .i64 x6, .int .i64 x7])).run Try.prog W = .ok true W := fun W => equal_eight [x0, x1, x2, x3, x4, x5, x6, x7] rfl W
              have hints : ints xs' = #[.int .i64 x0, .int .i64 x1, .int .i64 x2, .int .i64 x3, .int .i64 x4, .int .i64 x5, .int .i64 x6, .int .i64 x7] := by rw [hxs]; rfl
              have hgl1 := ht1.lt
              have hxl1 := hx1.lt
              have hol1 := hop1.lt
              go_wp2_with fail
              refine wp_region_held_drew (S := (fun w' => w'.cell? ⟨bo, 1, none⟩ = some (.int .i64 oi) ∧ w'.cell? ⟨bx, 0, none⟩ = some (.int .i64 x0) ∧ w'.cell? ⟨bx, 1, none⟩ = some (.int .i64 x1) ∧ w'.cell? ⟨bx, 2, none⟩ = some (.int .i64 x2) ∧ w'.cell? ⟨bx, 3, none⟩ = some (.int .i64 x3) ∧ w'.cell? ⟨bx, 4, none⟩ = some (.int .i64 x4) ∧ w'.cell? ⟨bx, 5, none⟩ = some (.int .i64 x5) ∧ w'.cell? ⟨bx, 6, none⟩ = some (.int .i64 x6) ∧ w'.cell? ⟨bx, 7, none⟩ = some (.int .i64 x7))) (by kernel_rfl) ⟨o1, y0, y1, y2, y3, y4, y5, y6, y7⟩ (fun hHeld => ?_)
              refine wpAnyH_take (i := 0) (oi := ?oi0b) (v := ?v0b) ?hi0b (by kernel_rfl) (by kernel_rfl) (by kernel_rfl) ?hq0b (Or.inl ⟨?hw0b, ?hy0b⟩) (by assumption) ?rest0b
              case hi0b => (simp only [List.getElem?_toArray, List.getElem?_cons_succ, List.getElem?_cons_zero]; try rfl)
              case hq0b => exact fun _ _ _ h => h
              case hw0b => rfl
              case hy0b => (intro w hSw; (try dsimp only at hSw); go_simp <;> with_reducible rfl)
              try simp only [Act.put, List.setIfInBounds_toArray, List.set_cons_zero, List.set_cons_succ]
              refine wpAnyH_take (i := 1) (oi := ?oi1b) (v := ?v1b) ?hi1b (by kernel_rfl) (by kernel_rfl) (by kernel_rfl) ?hq1b (Or.inl ⟨?hw1b, ?hy1b⟩) (by assumption) ?rest1b
              case hi1b => (simp only [List.getElem?_toArray, List.getElem?_cons_succ, List.getElem?_cons_zero]; try rfl)
              case hq1b => exact fun _ _ _ h => h
              case hw1b => rfl
              case hy1b => (intro w hSw; (try dsimp only at hSw); go_simp <;> with_reducible rfl)
              try simp only [Act.put, List.setIfInBounds_toArray, List.set_cons_zero, List.set_cons_succ]
              refine wpAnyH_take (i := 2) (oi := ?oi2b) (v := undef) ?hi2b (by kernel_rfl) (by kernel_rfl) (by kernel_rfl) ?hq2b (Or.inr ⟨?hw2b, rfl⟩) (by assumption) ?rest2b
              case hi2b => (simp only [List.getElem?_toArray, List.getElem?_cons_succ, List.getElem?_cons_zero]; try rfl)
              case hq2b => exact fun _ _ _ h => h
              case hw2b => rfl
              try simp only [Act.put, List.setIfInBounds_toArray, List.set_cons_zero, List.set_cons_succ]
              refine wpAnyH_take (i := 3) (oi := ?oi3b) (v := undef) ?hi3b (by kernel_rfl) (by kernel_rfl) (by kernel_rfl) ?hq3b (Or.inr ⟨?hw3b, rfl⟩) (by assumption) ?rest3b
              case hi3b => (simp only [List.getElem?_toArray, List.getElem?_cons_succ, List.getElem?_cons_zero]; try rfl)
              case hq3b => exact fun _ _ _ h => h
              case hw3b => rfl
              try simp only [Act.put, List.setIfInBounds_toArray, List.set_cons_zero, List.set_cons_succ]
              refine wpAnyH_take (i := 4) (oi := ?oi4b) (v := undef) ?hi4b (by kernel_rfl) (by kernel_rfl) (by kernel_rfl) ?hq4b (Or.inr ⟨?hw4b, rfl⟩) (by assumption) ?rest4b
              case hi4b => (simp only [List.getElem?_toArray, List.getElem?_cons_succ, List.getElem?_cons_zero]; try rfl)
              case hq4b => exact fun _ _ _ h => h
              case hw4b => rfl
              try simp only [Act.put, List.setIfInBounds_toArray, List.set_cons_zero, List.set_cons_succ]
              refine wpAnyH_take (i := 5) (oi := ?oi5b) (v := undef) ?hi5b (by kernel_rfl) (by kernel_rfl) (by kernel_rfl) ?hq5b (Or.inr ⟨?hw5b, rfl⟩) (by assumption) ?rest5b
              case hi5b => (simp only [List.getElem?_toArray, List.getElem?_cons_succ, List.getElem?_cons_zero]; try rfl)
              case hq5b => exact fun _ _ _ h => h
              case hw5b => rfl
              try simp only [Act.put, List.setIfInBounds_toArray, List.set_cons_zero, List.set_cons_succ]
              refine wpAnyH_take (i := 6) (oi := ?oi6b) (v := undef) ?hi6b (by kernel_rfl) (by kernel_rfl) (by kernel_rfl) ?hq6b (Or.inr ⟨?hw6b, rfl⟩) (by assumption) ?rest6b
              case hi6b => (simp only [List.getElem?_toArray, List.getElem?_cons_succ, List.getElem?_cons_zero]; try rfl)
              case hq6b => exact fun _ _ _ h => h
              case hw6b => rfl
              try simp only [Act.put, List.setIfInBounds_toArray, List.set_cons_zero, List.set_cons_succ]
              refine wpAnyH_take (i := 7) (oi := ?oi7b) (v := undef) ?hi7b (by kernel_rfl) (by kernel_rfl) (by kernel_rfl) ?hq7b (Or.inr ⟨?hw7b, rfl⟩) (by assumption) ?rest7b
              case hi7b => (simp only [List.getElem?_toArray, List.getElem?_cons_succ, List.getElem?_cons_zero]; try rfl)
              case hq7b => exact fun _ _ _ h => h
              case hw7b => rfl
              try simp only [Act.put, List.setIfInBounds_toArray, List.set_cons_zero, List.set_cons_succ]
              refine wpAnyH_take (i := 8) (oi := ?oi8b) (v := undef) ?hi8b (by kernel_rfl) (by kernel_rfl) (by kernel_rfl) ?hq8b (Or.inr ⟨?hw8b, rfl⟩) (by assumption) ?rest8b
              case hi8b => (simp only [List.getElem?_toArray, List.getElem?_cons_succ, List.getElem?_cons_zero]; try rfl)
              case hq8b => exact fun _ _ _ h => h
              case hw8b => rfl
              try simp only [Act.put, List.setIfInBounds_toArray, List.set_cons_zero, List.set_cons_succ]
              refine wpAnyH_take (i := 9) (oi := ?oi9b) (v := undef) ?hi9b (by kernel_rfl) (by kernel_rfl) (by kernel_rfl) ?hq9b (Or.inr ⟨?hw9b, rfl⟩) (by assumption) ?rest9b
              case hi9b => (simp only [List.getElem?_toArray, List.getElem?_cons_succ, List.getElem?_cons_zero]; try rfl)
              case hq9b => exact fun _ _ _ h => h
              case hw9b => rfl
              try simp only [Act.put, List.setIfInBounds_toArray, List.set_cons_zero, List.set_cons_succ]
              refine wpAnyH_take (i := 10) (oi := ?oi10b) (v := undef) ?hi10b (by kernel_rfl) (by kernel_rfl) (by kernel_rfl) ?hq10b (Or.inr ⟨?hw10b, rfl⟩) (by assumption) ?rest10b
              case hi10b => (simp only [List.getElem?_toArray, List.getElem?_cons_succ, List.getElem?_cons_zero]; try rfl)
              case hq10b => exact fun _ _ _ h => h
              case hw10b => rfl
              try simp only [Act.put, List.setIfInBounds_toArray, List.set_cons_zero, List.set_cons_succ]
              refine wpAnyH_take (i := 11) (oi := ?oi11b) (v := ?v11b) ?hi11b (by kernel_rfl) (by kernel_rfl) (by kernel_rfl) ?hq11b (Or.inl ⟨?hw11b, ?hy11b⟩) (by assumption) ?rest11b
              case hi11b => (simp only [List.getElem?_toArray, List.getElem?_cons_succ, List.getElem?_cons_zero]; try rfl)
              case hq11b => exact fun _ _ _ h => h
              case hw11b => rfl
              case hy11b => (intro w hSw; (try dsimp only at hSw); go_simp <;> with_reducible rfl)
              try simp only [Act.put, List.setIfInBounds_toArray, List.set_cons_zero, List.set_cons_succ]
              refine wpAnyH_take (i := 12) (oi := ?oi12b) (v := ?v12b) ?hi12b (by kernel_rfl) (by kernel_rfl) (by kernel_rfl) ?hq12b (Or.inl ⟨?hw12b, ?hy12b⟩) (by assumption) ?rest12b
              case hi12b => (simp only [List.getElem?_toArray, List.getElem?_cons_succ, List.getElem?_cons_zero]; try rfl)
              case hq12b => exact fun _ _ _ h => h
              case hw12b => rfl
              case hy12b => (intro w hSw; (try dsimp only at hSw); go_simp <;> with_reducible rfl)
              try simp only [Act.put, List.setIfInBounds_toArray, List.set_cons_zero, List.set_cons_succ]
              refine wpAnyH_take (i := 13) (oi := ?oi13b) (v := ?v13b) ?hi13b (by kernel_rfl) (by kernel_rfl) (by kernel_rfl) ?hq13b (Or.inl ⟨?hw13b, ?hy13b⟩) (by assumption) ?rest13b
              case hi13b => (simp only [List.getElem?_toArray, List.getElem?_cons_succ, List.getElem?_cons_zero]; try rfl)
              case hq13b => exact fun _ _ _ h => h
              case hw13b => rfl
              case hy13b => (intro w hSw; (try dsimp only at hSw); go_simp <;> with_reducible rfl)
              try simp only [Act.put, List.setIfInBounds_toArray, List.set_cons_zero, List.set_cons_succ]
              refine wpAnyH_take (i := 14) (oi := ?oi14b) (v := ?v14b) ?hi14b (by kernel_rfl) (by kernel_rfl) (by kernel_rfl) ?hq14b (Or.inl ⟨?hw14b, ?hy14b⟩) (by assumption) ?rest14b
              case hi14b => (simp only [List.getElem?_toArray, List.getElem?_cons_succ, List.getElem?_cons_zero]; try rfl)
              case hq14b => exact fun _ _ _ h => h
              case hw14b => rfl
              case hy14b => (intro w hSw; (try dsimp only at hSw); go_simp <;> with_reducible rfl)
              try simp only [Act.put, List.setIfInBounds_toArray, List.set_cons_zero, List.set_cons_succ]
              refine wpAnyH_take (i := 15) (oi := ?oi15b) (v := ?v15b) ?hi15b (by kernel_rfl) (by kernel_rfl) (by kernel_rfl) ?hq15b (Or.inl ⟨?hw15b, ?hy15b⟩) (by assumption) ?rest15b
              case hi15b => (simp only [List.getElem?_toArray, List.getElem?_cons_succ, List.getElem?_cons_zero]; try rfl)
              case hq15b => exact fun _ _ _ h => h
              case hw15b => rfl
              case hy15b => (intro w hSw; (try dsimp only at hSw); go_simp <;> with_reducible rfl)
              try simp only [Act.put, List.setIfInBounds_toArray, List.set_cons_zero, List.set_cons_succ]
              refine wpAnyH_take (i := 16) (oi := ?oi16b) (v := ?v16b) ?hi16b (by kernel_rfl) (by kernel_rfl) (by kernel_rfl) ?hq16b (Or.inl ⟨?hw16b, ?hy16b⟩) (by assumption) ?rest16b
              case hi16b => (simp only [List.getElem?_toArray, List.getElem?_cons_succ, List.getElem?_cons_zero]; try rfl)
              case hq16b => exact fun _ _ _ h => h
              case hw16b => rfl
              case hy16b => (intro w hSw; (try dsimp only at hSw); go_simp <;> with_reducible rfl)
              try simp only [Act.put, List.setIfInBounds_toArray, List.set_cons_zero, List.set_cons_succ]
              refine wpAnyH_take (i := 17) (oi := ?oi17b) (v := ?v17b) ?hi17b (by kernel_rfl) (by kernel_rfl) (by kernel_rfl) ?hq17b (Or.inl ⟨?hw17b, ?hy17b⟩) (by assumption) ?rest17b
              case hi17b => (simp only [List.getElem?_toArray, List.getElem?_cons_succ, List.getElem?_cons_zero]; try rfl)
              case hq17b => exact fun _ _ _ h => h
              case hw17b => rfl
              case hy17b => (intro w hSw; (try dsimp only at hSw); go_simp <;> with_reducible rfl)
              try simp only [Act.put, List.setIfInBounds_toArray, List.set_cons_zero, List.set_cons_succ]
              refine wpAnyH_take (i := 18) (oi := ?oi18b) (v := ?v18b) ?hi18b (by kernel_rfl) (by kernel_rfl) (by kernel_rfl) ?hq18b (Or.inl ⟨?hw18b, ?hy18b⟩) (by assumption) ?rest18b
              case hi18b => (simp only [List.getElem?_toArray, List.getElem?_cons_succ, List.getElem?_cons_zero]; try rfl)
              case hq18b => exact fun _ _ _ h => h
              case hw18b => rfl
              case hy18b => (intro w hSw; (try dsimp only at hSw); go_simp <;> with_reducible rfl)
              try simp only [Act.put, List.setIfInBounds_toArray, List.set_cons_zero, List.set_cons_succ]
              refine wpAnyH_ready (rs := [19]) (by kernel_rfl) (by simp) ?_
              refine AllReadyH.cons (o := ?o19) ?hi19b (fun K hK => ?st19b) AllReadyH.nil
              case hi19b => (simp only [List.getElem?_toArray, List.getElem?_cons_succ, List.getElem?_cons_zero]; try rfl)
              go_simp
              refine (get_out g oi hin _).mono ?_
              rintro e w' ⟨rfl, rfl⟩
              refine hK.out _ _ ⟨o1, y0, y1, y2, y3, y4, y5, y6, y7⟩ (fun hHeld2 => ?_)
              clear hK K hHeld
              have hHeld := hHeld2
              clear hHeld2
              try simp only [Act.put, List.setIfInBounds_toArray, List.set_cons_zero, List.set_cons_succ]
              refine wpAnyH_take (i := 20) (oi := ?oi20b) (v := ?v20b) ?hi20b (by kernel_rfl) (by kernel_rfl) (by kernel_rfl) ?hq20b (Or.inl ⟨?hw20b, ?hy20b⟩) (by assumption) ?rest20b
              case hi20b => (simp only [List.getElem?_toArray, List.getElem?_cons_succ, List.getElem?_cons_zero]; try rfl)
              case hq20b => exact fun _ _ _ h => h
              case hw20b => rfl
              case hy20b => (intro w hSw; (try dsimp only at hSw); go_simp <;> with_reducible rfl)
              try simp only [Act.put, List.setIfInBounds_toArray, List.set_cons_zero, List.set_cons_succ]
              refine wpAnyH_take (i := 21) (oi := ?oi21b) (v := ?v21b) ?hi21b (by kernel_rfl) (by kernel_rfl) (by kernel_rfl) ?hq21b (Or.inl ⟨?hw21b, ?hy21b⟩) (by assumption) ?rest21b
              case hi21b => (simp only [List.getElem?_toArray, List.getElem?_cons_succ, List.getElem?_cons_zero]; try rfl)
              case hq21b => exact fun _ _ _ h => h
              case hw21b => rfl
              case hy21b => (intro w hSw; (try dsimp only at hSw); go_simp <;> with_reducible rfl)
              try simp only [Act.put, List.setIfInBounds_toArray, List.set_cons_zero, List.set_cons_succ]
              refine wpAnyH_take (i := 22) (oi := ?oi22b) (v := ?v22b) ?hi22b (by kernel_rfl) (by kernel_rfl) (by kernel_rfl) ?hq22b (Or.inl ⟨?hw22b, ?hy22b⟩) (by assumption) ?rest22b
              case hi22b => (simp only [List.getElem?_toArray, List.getElem?_cons_succ, List.getElem?_cons_zero]; try rfl)
              case hq22b => exact fun _ _ _ h => h
              case hw22b => rfl
              case hy22b => (intro w hSw; (try dsimp only at hSw); go_simp <;> with_reducible rfl)
              try simp only [Act.put, List.setIfInBounds_toArray, List.set_cons_zero, List.set_cons_succ]
              refine wpAnyH_take (i := 23) (oi := ?oi23b) (v := ?v23b) ?hi23b (by kernel_rfl) (by kernel_rfl) (by kernel_rfl) ?hq23b (Or.inl ⟨?hw23b, ?hy23b⟩) (by assumption) ?rest23b
              case hi23b => (simp only [List.getElem?_toArray, List.getElem?_cons_succ, List.getElem?_cons_zero]; try rfl)
              case hq23b => exact fun _ _ _ h => h
              case hw23b => rfl
              case hy23b => (intro w hSw; (try dsimp only at hSw); go_simp <;> with_reducible rfl)
              try simp only [Act.put, List.setIfInBounds_toArray, List.set_cons_zero, List.set_cons_succ]
              refine wpAnyH_take (i := 24) (oi := ?oi24b) (v := ?v24b) ?hi24b (by kernel_rfl) (by kernel_rfl) (by kernel_rfl) ?hq24b (Or.inl ⟨?hw24b, ?hy24b⟩) (by assumption) ?rest24b
              case hi24b => (simp only [List.getElem?_toArray, List.getElem?_cons_succ, List.getElem?_cons_zero]; try rfl)
              case hq24b => exact fun _ _ _ h => h
              case hw24b => rfl
              case hy24b => (intro w hSw; (try dsimp only at hSw); go_simp <;> with_reducible rfl)
              try simp only [Act.put, List.setIfInBounds_toArray, List.set_cons_zero, List.set_cons_succ]
              refine wpAnyH_take (i := 26) (oi := ?oi26b) (v := ?v26b) ?hi26b (by kernel_rfl) (by kernel_rfl) (by kernel_rfl) ?hq26b (Or.inl ⟨?hw26b, ?hy26b⟩) (by assumption) ?rest26b
              case hi26b => (simp only [List.getElem?_toArray, List.getElem?_cons_succ, List.getElem?_cons_zero]; try rfl)
              case hq26b => exact fun _ _ _ h => h
              case hw26b => rfl
              case hy26b => (intro w hSw; (try dsimp only at hSw); go_simp <;> with_reducible rfl)
              try simp only [Act.put, List.setIfInBounds_toArray, List.set_cons_zero, List.set_cons_succ]
              refine wpAnyH_ready (rs := [25]) (by kernel_rfl) (by simp) ?_
              refine AllReadyH.cons (o := ?o25) ?hi25b (fun K hK => ?st25b) AllReadyH.nil
              case hi25b => (simp only [List.getElem?_toArray, List.getElem?_cons_succ, List.getElem?_cons_zero]; try rfl)
              go_simp
              refine hall.mono ?_
              rintro e w4 ⟨rfl, hb4⟩
              rw [hints]
              refine hK.out _ _ ⟨(hb4.cell (p := ⟨bo, 1, none⟩) hol1).trans o1, (hb4.cell (p := ⟨bx, 0, none⟩) hxl1).trans y0, (hb4.cell (p := ⟨bx, 1, none⟩) hxl1).trans y1, (hb4.cell (p := ⟨bx, 2, none⟩) hxl1).trans y2, (hb4.cell (p := ⟨bx, 3, none⟩) hxl1).trans y3, (hb4.cell (p := ⟨bx, 4, none⟩) hxl1).trans y4, (hb4.cell (p := ⟨bx, 5, none⟩) hxl1).trans y5, (hb4.cell (p := ⟨bx, 6, none⟩) hxl1).trans y6, (hb4.cell (p := ⟨bx, 7, none⟩) hxl1).trans y7⟩ (fun hHeld2 => ?_)
              clear hK K hHeld
              have hHeld := hHeld2
              clear hHeld2
              try simp only [Act.put, List.setIfInBounds_toArray, List.set_cons_zero, List.set_cons_succ]
              refine wpAnyH_take (i := 27) (oi := ?oi27b) (v := ?v27b) ?hi27b (by kernel_rfl) (by kernel_rfl) (by kernel_rfl) ?hq27b (Or.inl ⟨?hw27b, ?hy27b⟩) (by assumption) ?rest27b
              case hi27b => (simp only [List.getElem?_toArray, List.getElem?_cons_succ, List.getElem?_cons_zero]; try rfl)
              case hq27b => exact fun _ _ _ h => h
              case hw27b => rfl
              case hy27b => (intro w hSw; (try dsimp only at hSw); go_simp <;> with_reducible rfl)
              try simp only [Act.put, List.setIfInBounds_toArray, List.set_cons_zero, List.set_cons_succ]
              refine wpAnyH_take (i := 28) (oi := ?oi28b) (v := ?v28b) ?hi28b (by kernel_rfl) (by kernel_rfl) (by kernel_rfl) ?hq28b (Or.inl ⟨?hw28b, ?hy28b⟩) (by assumption) ?rest28b
              case hi28b => (simp only [List.getElem?_toArray, List.getElem?_cons_succ, List.getElem?_cons_zero]; try rfl)
              case hq28b => exact fun _ _ _ h => h
              case hw28b => rfl
              case hy28b => (intro w hSw; (try dsimp only at hSw); go_simp <;> with_reducible rfl)
              try simp only [Act.put, List.setIfInBounds_toArray, List.set_cons_zero, List.set_cons_succ]
              refine wpAnyH_done (by kernel_rfl) ?_ _
              have hb14 := (Below.drew hb1).trans (hb4.mono hb1.size)
              have ht4 := ht1.drew.kept (Keep.of_below hb4) (by have := ht1.lt; show ¬ wc.heap.size ≤ g; omega)
              have hx4 := hx1.drew.kept (Keep.of_below hb4) (by have := hx1.lt; show ¬ wc.heap.size ≤ bx; omega)
              clear ht1 hx1 hop1 hb1 hall heq hints hHeld
              go_wp2_with fail
              go_roundg (n - (k + 1))
              case measure => omega
              case rel => exact ⟨k + 1, xs', d', by go_num, by omega, rfl, rfl, hb14, ht4, hx4⟩
        · have hi0 : (0 : Int) ≤ oi := by omega
          have h8d : decide (oi < 8) = false := decide_eq_false (by omega)
          go_upto_block 2 with fail
          generalize wr.heap.size = bo at *
          generalize wr.alloc (.cells #[.int .i64 ok, .int .i64 oi, .int .i64 on] 43) = w0 at *
          clear ht hx hb c0 c1 c2 hat ho
          go_cut [5, 9, 10, 11] from 19 to 160 (fun s5 s9 s10 s11 wc => ∃ xs' d', s5 = Value.bool d' ∧ TL wc g xs' (if d' then 1 else 0) 0 ∧ Blk wc bx 41 (ints xs') ∧ Below w.heap.size w wc ∧ Blk wc bo 43 #[.int .i64 ok, .int .i64 oi, .int .i64 on])
          case first =>
            as_aux_lemma =>
              have hlt0 := ht0.lt
              have hlx0 := hx0.lt
              have hlo0 := hop.lt
              have o0 := hop.cell 0
              have o1 := hop.cell 1
              have o2 := hop.cell 2
              simp at o0 o1 o2
              by_cases h1 : ok = 1
              · as_aux_lemma =>
                  subst h1
                  go_wp2_with (go_at_call 21; refine (Mark_out g oi on hin _).mono ?_; rintro e w' ⟨rfl, rfl⟩)
                  go_meet
                  exact ⟨xs, d, rfl, ht0, hx0, hb0, hop⟩
              · by_cases h2 : ok = 2
                · as_aux_lemma =>
                    subst h2
                    go_wp2_with fail
                    go_quiet (fail)
                    have htd := ht0.drewN nq
                    have hxd := hx0.drewN nq
                    have hopd := hop.drewN nq
                    have hbd := below_drewN hb0 nq
                    generalize w0.drewN nq = wd at htd hxd hopd hbd ⊢
                    have o1 := hopd.cell 1
                    have o2 := hopd.cell 2
                    simp at o1 o2
                    have hltd := htd.lt
                    have hlxd := hxd.lt
                    have hlod := hopd.lt
                    go_wp2_with (go_at_call 22; refine (Most_out g oi on hin _).mono ?_; rintro e w' ⟨rfl, hk2⟩)
                    go_meet
                    exact ⟨_, d, rfl, htd.kept (Keep.of_below hk2) (by omega), hxd.kept (Keep.of_below hk2) (by omega), hbd.trans (hk2.mono hbd.size), hopd.kept (Keep.of_below hk2) (by omega)⟩
                · by_cases h3 : ok = 3
                  · as_aux_lemma =>
                      subst h3
                      go_wp2_with fail
                      go_quiet (fail)
                      have htd := ht0.drewN nq
                      have hxd := hx0.drewN nq
                      have hopd := hop.drewN nq
                      have hbd := below_drewN hb0 nq
                      generalize w0.drewN nq = wd at htd hxd hopd hbd ⊢
                      have o1 := hopd.cell 1
                      have o2 := hopd.cell 2
                      simp at o1 o2
                      have hltd := htd.lt
                      have hlxd := hxd.lt
                      have hlod := hopd.lt
                      go_wp2_with (go_at_call 23; refine (Take_out g oi on hin _).mono ?_; rintro e w' ⟨rfl, hk2⟩)
                      go_meet
                      exact ⟨_, d, rfl, htd.kept (Keep.of_below hk2) (by omega), hxd.kept (Keep.of_below hk2) (by omega), hbd.trans (hk2.mono hbd.size), hopd.kept (Keep.of_below hk2) (by omega)⟩
                  · by_cases h4 : ok = 4
                    · as_aux_lemma =>
                        subst h4
                        cases d with
                        | true =>
                          have ht0' : TL w0 g xs 1 0 := ht0
                          go_wp2_with (go_at_call 24; refine (Start_again g xs 0 _ ht0').mono ?_; rintro e w' ⟨rfl, hk2⟩)
                          go_meet
                          exact ⟨_, true, rfl, ht0'.kept (Keep.of_below hk2) (by omega), hx0.kept (Keep.of_below hk2) (by omega), hb0.trans (hk2.mono hb0.size), hop.kept (Keep.of_below hk2) (by omega)⟩
                        | false =>
                          have ht0' : TL w0 g xs 0 0 := ht0
                          go_wp2_with (go_at_call 24; refine (Start_first g xs _ ht0').mono ?_; rintro e w' ⟨rfl, hk2, ht2⟩)
                          go_meet
                          exact ⟨_, true, rfl, ht2, hx0.kept hk2 (by omega), hb0.trans (hk2.below hb0.size fun i hi e => by omega), hop.kept hk2 (by omega)⟩
                    · as_aux_lemma =>
                        go_wp2_with fail
                        go_meet
                        exact ⟨xs, d, rfl, ht0, hx0, hb0, hop⟩
          case rest =>
            as_aux_lemma =>
              obtain ⟨xs', d', rfl, ht1, hx1, hb1, hop1⟩ := hcut
              clear ht0 hx0 hb0 hop
              have hall := All_live g (if d' then 1 else 0) 0 xs' wc.drew ht1.drew
              have hlen := ht1.len
              obtain ⟨x0, x1, x2, x3, x4, x5, x6, x7, hxs⟩ := eight xs' hlen
              have y0 := hx1.cell 0
              have y1 := hx1.cell 1
              have y2 := hx1.cell 2
              have y3 := hx1.cell 3
              have y4 := hx1.cell 4
              have y5 := hx1.cell 5
              have y6 := hx1.cell 6
              have y7 := hx1.cell 7
              have o1 := hop1.cell 1
              simp [hxs, ints] at y0 y1 y2 y3 y4 y5 y6 y7
              simp at o1
              have heq : ∀ W : World, (Op.equalIn 10000 41 (.agg #[.int .i64 x0, .int .i64 x1, .int .i64 x2, .int .i64 x3, .int .i64 x4, .int .i64 x5, .int .i64 x6, .int .i64 x7]) (.agg #[.int .i64 x0, .int .i64 x1, .int .i64 x2, .int .i64 x3, .int .i64 x4, .int .i64 x5, .int .i64 x6, .int .i64 x7])).run Try.prog W = .ok true W := fun W => equal_eight [x0, x1, x2, x3, x4, x5, x6, x7] rfl W
              have hints : ints xs' = #[.int .i64 x0, .int .i64 x1, .int .i64 x2, .int .i64 x3, .int .i64 x4, .int .i64 x5, .int .i64 x6, .int .i64 x7] := by rw [hxs]; rfl
              have hgl1 := ht1.lt
              have hxl1 := hx1.lt
              have hol1 := hop1.lt
              go_wp2_with fail
              refine wp_region_held_drew (S := (fun w' => w'.cell? ⟨bo, 1, none⟩ = some (.int .i64 oi) ∧ w'.cell? ⟨bx, 0, none⟩ = some (.int .i64 x0) ∧ w'.cell? ⟨bx, 1, none⟩ = some (.int .i64 x1) ∧ w'.cell? ⟨bx, 2, none⟩ = some (.int .i64 x2) ∧ w'.cell? ⟨bx, 3, none⟩ = some (.int .i64 x3) ∧ w'.cell? ⟨bx, 4, none⟩ = some (.int .i64 x4) ∧ w'.cell? ⟨bx, 5, none⟩ = some (.int .i64 x5) ∧ w'.cell? ⟨bx, 6, none⟩ = some (.int .i64 x6) ∧ w'.cell? ⟨bx, 7, none⟩ = some (.int .i64 x7))) (by kernel_rfl) ⟨o1, y0, y1, y2, y3, y4, y5, y6, y7⟩ (fun hHeld => ?_)
              refine wpAnyH_take (i := 0) (oi := ?oi0c) (v := ?v0c) ?hi0c (by kernel_rfl) (by kernel_rfl) (by kernel_rfl) ?hq0c (Or.inl ⟨?hw0c, ?hy0c⟩) (by assumption) ?rest0c
              case hi0c => (simp only [List.getElem?_toArray, List.getElem?_cons_succ, List.getElem?_cons_zero]; try rfl)
              case hq0c => exact fun _ _ _ h => h
              case hw0c => rfl
              case hy0c => (intro w hSw; (try dsimp only at hSw); go_simp <;> with_reducible rfl)
              try simp only [Act.put, List.setIfInBounds_toArray, List.set_cons_zero, List.set_cons_succ]
              refine wpAnyH_take (i := 1) (oi := ?oi1c) (v := ?v1c) ?hi1c (by kernel_rfl) (by kernel_rfl) (by kernel_rfl) ?hq1c (Or.inl ⟨?hw1c, ?hy1c⟩) (by assumption) ?rest1c
              case hi1c => (simp only [List.getElem?_toArray, List.getElem?_cons_succ, List.getElem?_cons_zero]; try rfl)
              case hq1c => exact fun _ _ _ h => h
              case hw1c => rfl
              case hy1c => (intro w hSw; (try dsimp only at hSw); go_simp <;> with_reducible rfl)
              try simp only [Act.put, List.setIfInBounds_toArray, List.set_cons_zero, List.set_cons_succ]
              refine wpAnyH_take (i := 2) (oi := ?oi2c) (v := undef) ?hi2c (by kernel_rfl) (by kernel_rfl) (by kernel_rfl) ?hq2c (Or.inr ⟨?hw2c, rfl⟩) (by assumption) ?rest2c
              case hi2c => (simp only [List.getElem?_toArray, List.getElem?_cons_succ, List.getElem?_cons_zero]; try rfl)
              case hq2c => exact fun _ _ _ h => h
              case hw2c => rfl
              try simp only [Act.put, List.setIfInBounds_toArray, List.set_cons_zero, List.set_cons_succ]
              refine wpAnyH_take (i := 3) (oi := ?oi3c) (v := undef) ?hi3c (by kernel_rfl) (by kernel_rfl) (by kernel_rfl) ?hq3c (Or.inr ⟨?hw3c, rfl⟩) (by assumption) ?rest3c
              case hi3c => (simp only [List.getElem?_toArray, List.getElem?_cons_succ, List.getElem?_cons_zero]; try rfl)
              case hq3c => exact fun _ _ _ h => h
              case hw3c => rfl
              try simp only [Act.put, List.setIfInBounds_toArray, List.set_cons_zero, List.set_cons_succ]
              refine wpAnyH_take (i := 4) (oi := ?oi4c) (v := undef) ?hi4c (by kernel_rfl) (by kernel_rfl) (by kernel_rfl) ?hq4c (Or.inr ⟨?hw4c, rfl⟩) (by assumption) ?rest4c
              case hi4c => (simp only [List.getElem?_toArray, List.getElem?_cons_succ, List.getElem?_cons_zero]; try rfl)
              case hq4c => exact fun _ _ _ h => h
              case hw4c => rfl
              try simp only [Act.put, List.setIfInBounds_toArray, List.set_cons_zero, List.set_cons_succ]
              refine wpAnyH_take (i := 5) (oi := ?oi5c) (v := undef) ?hi5c (by kernel_rfl) (by kernel_rfl) (by kernel_rfl) ?hq5c (Or.inr ⟨?hw5c, rfl⟩) (by assumption) ?rest5c
              case hi5c => (simp only [List.getElem?_toArray, List.getElem?_cons_succ, List.getElem?_cons_zero]; try rfl)
              case hq5c => exact fun _ _ _ h => h
              case hw5c => rfl
              try simp only [Act.put, List.setIfInBounds_toArray, List.set_cons_zero, List.set_cons_succ]
              refine wpAnyH_take (i := 6) (oi := ?oi6c) (v := undef) ?hi6c (by kernel_rfl) (by kernel_rfl) (by kernel_rfl) ?hq6c (Or.inr ⟨?hw6c, rfl⟩) (by assumption) ?rest6c
              case hi6c => (simp only [List.getElem?_toArray, List.getElem?_cons_succ, List.getElem?_cons_zero]; try rfl)
              case hq6c => exact fun _ _ _ h => h
              case hw6c => rfl
              try simp only [Act.put, List.setIfInBounds_toArray, List.set_cons_zero, List.set_cons_succ]
              refine wpAnyH_take (i := 7) (oi := ?oi7c) (v := undef) ?hi7c (by kernel_rfl) (by kernel_rfl) (by kernel_rfl) ?hq7c (Or.inr ⟨?hw7c, rfl⟩) (by assumption) ?rest7c
              case hi7c => (simp only [List.getElem?_toArray, List.getElem?_cons_succ, List.getElem?_cons_zero]; try rfl)
              case hq7c => exact fun _ _ _ h => h
              case hw7c => rfl
              try simp only [Act.put, List.setIfInBounds_toArray, List.set_cons_zero, List.set_cons_succ]
              refine wpAnyH_take (i := 8) (oi := ?oi8c) (v := undef) ?hi8c (by kernel_rfl) (by kernel_rfl) (by kernel_rfl) ?hq8c (Or.inr ⟨?hw8c, rfl⟩) (by assumption) ?rest8c
              case hi8c => (simp only [List.getElem?_toArray, List.getElem?_cons_succ, List.getElem?_cons_zero]; try rfl)
              case hq8c => exact fun _ _ _ h => h
              case hw8c => rfl
              try simp only [Act.put, List.setIfInBounds_toArray, List.set_cons_zero, List.set_cons_succ]
              refine wpAnyH_take (i := 9) (oi := ?oi9c) (v := undef) ?hi9c (by kernel_rfl) (by kernel_rfl) (by kernel_rfl) ?hq9c (Or.inr ⟨?hw9c, rfl⟩) (by assumption) ?rest9c
              case hi9c => (simp only [List.getElem?_toArray, List.getElem?_cons_succ, List.getElem?_cons_zero]; try rfl)
              case hq9c => exact fun _ _ _ h => h
              case hw9c => rfl
              try simp only [Act.put, List.setIfInBounds_toArray, List.set_cons_zero, List.set_cons_succ]
              refine wpAnyH_take (i := 10) (oi := ?oi10c) (v := undef) ?hi10c (by kernel_rfl) (by kernel_rfl) (by kernel_rfl) ?hq10c (Or.inr ⟨?hw10c, rfl⟩) (by assumption) ?rest10c
              case hi10c => (simp only [List.getElem?_toArray, List.getElem?_cons_succ, List.getElem?_cons_zero]; try rfl)
              case hq10c => exact fun _ _ _ h => h
              case hw10c => rfl
              try simp only [Act.put, List.setIfInBounds_toArray, List.set_cons_zero, List.set_cons_succ]
              refine wpAnyH_take (i := 11) (oi := ?oi11c) (v := ?v11c) ?hi11c (by kernel_rfl) (by kernel_rfl) (by kernel_rfl) ?hq11c (Or.inl ⟨?hw11c, ?hy11c⟩) (by assumption) ?rest11c
              case hi11c => (simp only [List.getElem?_toArray, List.getElem?_cons_succ, List.getElem?_cons_zero]; try rfl)
              case hq11c => exact fun _ _ _ h => h
              case hw11c => rfl
              case hy11c => (intro w hSw; (try dsimp only at hSw); go_simp <;> with_reducible rfl)
              try simp only [Act.put, List.setIfInBounds_toArray, List.set_cons_zero, List.set_cons_succ]
              refine wpAnyH_take (i := 12) (oi := ?oi12c) (v := ?v12c) ?hi12c (by kernel_rfl) (by kernel_rfl) (by kernel_rfl) ?hq12c (Or.inl ⟨?hw12c, ?hy12c⟩) (by assumption) ?rest12c
              case hi12c => (simp only [List.getElem?_toArray, List.getElem?_cons_succ, List.getElem?_cons_zero]; try rfl)
              case hq12c => exact fun _ _ _ h => h
              case hw12c => rfl
              case hy12c => (intro w hSw; (try dsimp only at hSw); go_simp <;> with_reducible rfl)
              try simp only [Act.put, List.setIfInBounds_toArray, List.set_cons_zero, List.set_cons_succ]
              refine wpAnyH_take (i := 13) (oi := ?oi13c) (v := ?v13c) ?hi13c (by kernel_rfl) (by kernel_rfl) (by kernel_rfl) ?hq13c (Or.inl ⟨?hw13c, ?hy13c⟩) (by assumption) ?rest13c
              case hi13c => (simp only [List.getElem?_toArray, List.getElem?_cons_succ, List.getElem?_cons_zero]; try rfl)
              case hq13c => exact fun _ _ _ h => h
              case hw13c => rfl
              case hy13c => (intro w hSw; (try dsimp only at hSw); go_simp <;> with_reducible rfl)
              try simp only [Act.put, List.setIfInBounds_toArray, List.set_cons_zero, List.set_cons_succ]
              refine wpAnyH_take (i := 14) (oi := ?oi14c) (v := ?v14c) ?hi14c (by kernel_rfl) (by kernel_rfl) (by kernel_rfl) ?hq14c (Or.inl ⟨?hw14c, ?hy14c⟩) (by assumption) ?rest14c
              case hi14c => (simp only [List.getElem?_toArray, List.getElem?_cons_succ, List.getElem?_cons_zero]; try rfl)
              case hq14c => exact fun _ _ _ h => h
              case hw14c => rfl
              case hy14c => (intro w hSw; (try dsimp only at hSw); go_simp <;> with_reducible rfl)
              try simp only [Act.put, List.setIfInBounds_toArray, List.set_cons_zero, List.set_cons_succ]
              refine wpAnyH_take (i := 15) (oi := ?oi15c) (v := ?v15c) ?hi15c (by kernel_rfl) (by kernel_rfl) (by kernel_rfl) ?hq15c (Or.inl ⟨?hw15c, ?hy15c⟩) (by assumption) ?rest15c
              case hi15c => (simp only [List.getElem?_toArray, List.getElem?_cons_succ, List.getElem?_cons_zero]; try rfl)
              case hq15c => exact fun _ _ _ h => h
              case hw15c => rfl
              case hy15c => (intro w hSw; (try dsimp only at hSw); go_simp <;> with_reducible rfl)
              try simp only [Act.put, List.setIfInBounds_toArray, List.set_cons_zero, List.set_cons_succ]
              refine wpAnyH_take (i := 16) (oi := ?oi16c) (v := ?v16c) ?hi16c (by kernel_rfl) (by kernel_rfl) (by kernel_rfl) ?hq16c (Or.inl ⟨?hw16c, ?hy16c⟩) (by assumption) ?rest16c
              case hi16c => (simp only [List.getElem?_toArray, List.getElem?_cons_succ, List.getElem?_cons_zero]; try rfl)
              case hq16c => exact fun _ _ _ h => h
              case hw16c => rfl
              case hy16c => (intro w hSw; (try dsimp only at hSw); go_simp <;> with_reducible rfl)
              try simp only [Act.put, List.setIfInBounds_toArray, List.set_cons_zero, List.set_cons_succ]
              refine wpAnyH_take (i := 17) (oi := ?oi17c) (v := ?v17c) ?hi17c (by kernel_rfl) (by kernel_rfl) (by kernel_rfl) ?hq17c (Or.inl ⟨?hw17c, ?hy17c⟩) (by assumption) ?rest17c
              case hi17c => (simp only [List.getElem?_toArray, List.getElem?_cons_succ, List.getElem?_cons_zero]; try rfl)
              case hq17c => exact fun _ _ _ h => h
              case hw17c => rfl
              case hy17c => (intro w hSw; (try dsimp only at hSw); go_simp <;> with_reducible rfl)
              try simp only [Act.put, List.setIfInBounds_toArray, List.set_cons_zero, List.set_cons_succ]
              refine wpAnyH_take (i := 18) (oi := ?oi18c) (v := ?v18c) ?hi18c (by kernel_rfl) (by kernel_rfl) (by kernel_rfl) ?hq18c (Or.inl ⟨?hw18c, ?hy18c⟩) (by assumption) ?rest18c
              case hi18c => (simp only [List.getElem?_toArray, List.getElem?_cons_succ, List.getElem?_cons_zero]; try rfl)
              case hq18c => exact fun _ _ _ h => h
              case hw18c => rfl
              case hy18c => (intro w hSw; (try dsimp only at hSw); go_simp <;> with_reducible rfl)
              try simp only [Act.put, List.setIfInBounds_toArray, List.set_cons_zero, List.set_cons_succ]
              refine wpAnyH_ready (rs := [19]) (by kernel_rfl) (by simp) ?_
              refine AllReadyH.cons (o := ?o19) ?hi19c (fun K hK => ?st19c) AllReadyH.nil
              case hi19c => (simp only [List.getElem?_toArray, List.getElem?_cons_succ, List.getElem?_cons_zero]; try rfl)
              go_simp
              refine (get_out g oi hin _).mono ?_
              rintro e w' ⟨rfl, rfl⟩
              refine hK.out _ _ ⟨o1, y0, y1, y2, y3, y4, y5, y6, y7⟩ (fun hHeld2 => ?_)
              clear hK K hHeld
              have hHeld := hHeld2
              clear hHeld2
              try simp only [Act.put, List.setIfInBounds_toArray, List.set_cons_zero, List.set_cons_succ]
              refine wpAnyH_take (i := 20) (oi := ?oi20c) (v := ?v20c) ?hi20c (by kernel_rfl) (by kernel_rfl) (by kernel_rfl) ?hq20c (Or.inl ⟨?hw20c, ?hy20c⟩) (by assumption) ?rest20c
              case hi20c => (simp only [List.getElem?_toArray, List.getElem?_cons_succ, List.getElem?_cons_zero]; try rfl)
              case hq20c => exact fun _ _ _ h => h
              case hw20c => rfl
              case hy20c => (intro w hSw; (try dsimp only at hSw); go_simp <;> with_reducible rfl)
              try simp only [Act.put, List.setIfInBounds_toArray, List.set_cons_zero, List.set_cons_succ]
              refine wpAnyH_take (i := 21) (oi := ?oi21c) (v := ?v21c) ?hi21c (by kernel_rfl) (by kernel_rfl) (by kernel_rfl) ?hq21c (Or.inl ⟨?hw21c, ?hy21c⟩) (by assumption) ?rest21c
              case hi21c => (simp only [List.getElem?_toArray, List.getElem?_cons_succ, List.getElem?_cons_zero]; try rfl)
              case hq21c => exact fun _ _ _ h => h
              case hw21c => rfl
              case hy21c => (intro w hSw; (try dsimp only at hSw); go_simp <;> with_reducible rfl)
              try simp only [Act.put, List.setIfInBounds_toArray, List.set_cons_zero, List.set_cons_succ]
              refine wpAnyH_take (i := 22) (oi := ?oi22c) (v := ?v22c) ?hi22c (by kernel_rfl) (by kernel_rfl) (by kernel_rfl) ?hq22c (Or.inl ⟨?hw22c, ?hy22c⟩) (by assumption) ?rest22c
              case hi22c => (simp only [List.getElem?_toArray, List.getElem?_cons_succ, List.getElem?_cons_zero]; try rfl)
              case hq22c => exact fun _ _ _ h => h
              case hw22c => rfl
              case hy22c => (intro w hSw; (try dsimp only at hSw); go_simp <;> with_reducible rfl)
              try simp only [Act.put, List.setIfInBounds_toArray, List.set_cons_zero, List.set_cons_succ]
              refine wpAnyH_take (i := 23) (oi := ?oi23c) (v := ?v23c) ?hi23c (by kernel_rfl) (by kernel_rfl) (by kernel_rfl) ?hq23c (Or.inl ⟨?hw23c, ?hy23c⟩) (by assumption) ?rest23c
              case hi23c => (simp only [List.getElem?_toArray, List.getElem?_cons_succ, List.getElem?_cons_zero]; try rfl)
              case hq23c => exact fun _ _ _ h => h
              case hw23c => rfl
              case hy23c => (intro w hSw; (try dsimp only at hSw); go_simp <;> with_reducible rfl)
              try simp only [Act.put, List.setIfInBounds_toArray, List.set_cons_zero, List.set_cons_succ]
              refine wpAnyH_take (i := 24) (oi := ?oi24c) (v := ?v24c) ?hi24c (by kernel_rfl) (by kernel_rfl) (by kernel_rfl) ?hq24c (Or.inl ⟨?hw24c, ?hy24c⟩) (by assumption) ?rest24c
              case hi24c => (simp only [List.getElem?_toArray, List.getElem?_cons_succ, List.getElem?_cons_zero]; try rfl)
              case hq24c => exact fun _ _ _ h => h
              case hw24c => rfl
              case hy24c => (intro w hSw; (try dsimp only at hSw); go_simp <;> with_reducible rfl)
              try simp only [Act.put, List.setIfInBounds_toArray, List.set_cons_zero, List.set_cons_succ]
              refine wpAnyH_take (i := 26) (oi := ?oi26c) (v := ?v26c) ?hi26c (by kernel_rfl) (by kernel_rfl) (by kernel_rfl) ?hq26c (Or.inl ⟨?hw26c, ?hy26c⟩) (by assumption) ?rest26c
              case hi26c => (simp only [List.getElem?_toArray, List.getElem?_cons_succ, List.getElem?_cons_zero]; try rfl)
              case hq26c => exact fun _ _ _ h => h
              case hw26c => rfl
              case hy26c => (intro w hSw; (try dsimp only at hSw); go_simp <;> with_reducible rfl)
              try simp only [Act.put, List.setIfInBounds_toArray, List.set_cons_zero, List.set_cons_succ]
              refine wpAnyH_ready (rs := [25]) (by kernel_rfl) (by simp) ?_
              refine AllReadyH.cons (o := ?o25) ?hi25c (fun K hK => ?st25c) AllReadyH.nil
              case hi25c => (simp only [List.getElem?_toArray, List.getElem?_cons_succ, List.getElem?_cons_zero]; try rfl)
              go_simp
              refine hall.mono ?_
              rintro e w4 ⟨rfl, hb4⟩
              rw [hints]
              refine hK.out _ _ ⟨(hb4.cell (p := ⟨bo, 1, none⟩) hol1).trans o1, (hb4.cell (p := ⟨bx, 0, none⟩) hxl1).trans y0, (hb4.cell (p := ⟨bx, 1, none⟩) hxl1).trans y1, (hb4.cell (p := ⟨bx, 2, none⟩) hxl1).trans y2, (hb4.cell (p := ⟨bx, 3, none⟩) hxl1).trans y3, (hb4.cell (p := ⟨bx, 4, none⟩) hxl1).trans y4, (hb4.cell (p := ⟨bx, 5, none⟩) hxl1).trans y5, (hb4.cell (p := ⟨bx, 6, none⟩) hxl1).trans y6, (hb4.cell (p := ⟨bx, 7, none⟩) hxl1).trans y7⟩ (fun hHeld2 => ?_)
              clear hK K hHeld
              have hHeld := hHeld2
              clear hHeld2
              try simp only [Act.put, List.setIfInBounds_toArray, List.set_cons_zero, List.set_cons_succ]
              refine wpAnyH_take (i := 27) (oi := ?oi27c) (v := ?v27c) ?hi27c (by kernel_rfl) (by kernel_rfl) (by kernel_rfl) ?hq27c (Or.inl ⟨?hw27c, ?hy27c⟩) (by assumption) ?rest27c
              case hi27c => (simp only [List.getElem?_toArray, List.getElem?_cons_succ, List.getElem?_cons_zero]; try rfl)
              case hq27c => exact fun _ _ _ h => h
              case hw27c => rfl
              case hy27c => (intro w hSw; (try dsimp only at hSw); go_simp <;> with_reducible rfl)
              try simp only [Act.put, List.setIfInBounds_toArray, List.set_cons_zero, List.set_cons_succ]
              refine wpAnyH_take (i := 28) (oi := ?oi28c) (v := ?v28c) ?hi28c (by kernel_rfl) (by kernel_rfl) (by kernel_rfl) ?hq28c (Or.inl ⟨?hw28c, ?hy28c⟩) (by assumption) ?rest28c
              case hi28c => (simp only [List.getElem?_toArray, List.getElem?_cons_succ, List.getElem?_cons_zero]; try rfl)
              case hq28c => exact fun _ _ _ h => h
              case hw28c => rfl
              case hy28c => (intro w hSw; (try dsimp only at hSw); go_simp <;> with_reducible rfl)
              try simp only [Act.put, List.setIfInBounds_toArray, List.set_cons_zero, List.set_cons_succ]
              refine wpAnyH_done (by kernel_rfl) ?_ _
              have hb14 := (Below.drew hb1).trans (hb4.mono hb1.size)
              have ht4 := ht1.drew.kept (Keep.of_below hb4) (by have := ht1.lt; show ¬ wc.heap.size ≤ g; omega)
              have hx4 := hx1.drew.kept (Keep.of_below hb4) (by have := hx1.lt; show ¬ wc.heap.size ≤ bx; omega)
              clear ht1 hx1 hop1 hb1 hall heq hints hHeld
              go_wp2_with fail
              go_roundg (n - (k + 1))
              case measure => omega
              case rel => exact ⟨k + 1, xs', d', by go_num, by omega, rfl, rfl, hb14, ht4, hx4⟩
    · have hlz : ¬ (k : Int) < (n : Int) := by omega
      go_wp2
      go_ret
      exact ⟨rfl, by rw [← hgt]; exact hb⟩

namespace countMarksDone
open Go.ChangeShapes Go.WideShapes Go.ChangeAt
set_option maxRecDepth 100000 in
theorem lifted (os : Os) (started : os.Started) (H : Type) (enc : TypeId × Value → H) :
    ReturnsInHanded {} Try.checked os 7 .any (Rows.countMarksSpec.pre6 enc Try.prog Try.f7 Rows.countMarksRow.domain false) (Rows.countMarksSpec.post enc Try.prog Try.f7 false true false false) := by
  refine returnsInHanded_of_change_sized (C := Try.checked) own started (by kernel_rfl) Try.func7
    (ChangeSpec.witness6 (enc := enc) (C := Try.checked) false ⟨#[], #[Value.slice none 0 0], []⟩ 8 (by kernel_rfl) (by kernel_rfl) (by kernel_rfl) (by kernel_rfl)) ?_
  intro W base args ds gs before hval0 hW hcnd hsz0 _
  have hsz : (DataW.weightsEach Try.prog (Try.f7.params.toList ++ Rows.countMarksSpec.plain.varTypes Try.prog) (ds ++ gs)).all (· ≤ reachBytes) = true := hsz0
  clear hsz0
  have hval : ∀ (j : Nat) t v, Try.f7.params[j]? = some t → args[j]? = some v → Value.okWide Try.prog W .any base t v := hval0
  have hW' := hW
  obtain ⟨p, q, hA0, hV, rfl, hfz, hnd⟩ := hW
  have hA : DataW.TrodAll enc Try.prog W 0 (fun _ => true) true Try.f7.params.toList args.toList ds p := hA0
  rw [Try.params7] at hA hval hsz
  obtain ⟨v0, vs0, d0, ds0, p0, q0, hargs, rfl, rfl, h0, r0⟩ := trodAll_cons hA
  obtain ⟨rfl, rfl, rfl⟩ := trodAll_nil r0
  obtain rfl : args = #[v0] := by cases args; simp_all
  obtain ⟨rfl, rfl⟩ := trodVars_none hV
  obtain ⟨a0, len0, cap0, rfl⟩ := okWide_slice Try.underlying38 (hval 0 38 v0 rfl rfl)
  have k0 := h0
  have lt0 : ∀ x ∈ p0, x.block < W.heap.size := by obtain ⟨m, hm⟩ := k0; exact DataW.trod_lt m _ _ _ hm
  obtain ⟨f0, ho0, hc0, hm0⟩ := ops_open h0
  clear hA0 hval0
  refine (countMarks_walk (w := W) a0 len0 cap0 f0 ho0 hc0 hm0).mono fun e W' ⟨he, bel⟩ => ?_
  subst he
  exact ⟨_, rfl, _, _, _, [], _, [], hW', trodAll_mk1 (shut_bool Try.underlying4 _), (trodAll_cons_mk (Below.trod laidOut (by kernel_rfl) (of_decide_eq_true (by kernel_rfl)) k0 bel lt0) trodAll_mk0), rfl, bel.frame _, fun h => by cases h⟩

theorem over : Rows.countMarksRow.holds Try.pinned (OpenSpec.ofChange Rows.countMarksSpec) :=
  OpenClaim.holds_of_wide 7 Try.f7 rfl rfl rfl rfl rfl rfl rfl ⟨rfl, rfl, rfl, rfl, rfl⟩ rfl rfl rfl rfl rfl (by kernel_rfl) Try.func7 (by kernel_rfl)
    (of_decide_eq_true (by kernel_rfl)) (by unfold Func.isWrapper; first | (rw [if_pos (by decide +kernel)]; kernel_rfl) | (rw [if_neg (by decide +kernel)]; exact ⟨rfl, rfl⟩))
    (fun os started H enc _ => lifted os started H enc)

/-- The statement. -/
theorem proved : Rows.CountMarksSaid := over
end countMarksDone
end Go.Proofs.Ytlookiicogbkmaa
