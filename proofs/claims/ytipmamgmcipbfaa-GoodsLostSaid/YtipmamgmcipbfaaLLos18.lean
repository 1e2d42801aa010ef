/- 'GoodsLost' returns true for every input: the row of this law, proved. No condition. -/
import Derived.Test.YtipmamgmcipbfaaGdO
import Derived.Test.YtipmamgmcipbfaaGdL
import Derived.Test.YtipmamgmcipbfaaStlD
import Derived.Test.YtipmamgmcipbfaaRgT
import Derived.Deep.CutBlock
import Derived.Deep.CutRange
import Derived.ProofKit
import Derived.OpenShut
import Derived.ShutString
import Derived.ChangeOld
import Derived.SizedLaws
namespace Go.Proofs.Ytipmamgmcipbfaa
open Go.RowKit
set_option linter.unusedVariables false
set_option linter.unusedSimpArgs false
open Go.Shelf
attribute [local go_sem] Oper.semAt_some
set_option maxRecDepth 100000 in
set_option maxHeartbeats 6400000 in
theorem goodsLost_walk {w : World} (g : List UInt8) (fr he pi sa re rt cn cm sh sc se way : Int) (wh : Int) (w1' : (Lit.int .i64 wh).wf = true) (b : Int) (w2' : (Lit.int .i64 b).wf = true) :
    Calls Try.prog 7 #[.agg #[.string ⟨g.toArray⟩, .int .i64 fr, .int .i64 he, .int .i64 pi, .int .i64 sa, .int .i64 re, .int .i64 rt, .int .i64 cn, .int .i64 cm, .int .i64 sh, .int .i64 sc, .int .i64 se, .int .i64 way], .int .i64 wh, .int .i64 b] w fun e w' => e = .returned (.bool true) ∧ RowKit.Below w.heap.size w w' := by
  clear w1' w2'
  have hb1 := (RowKit.Below.refl w.heap.size w).alloc (Nat.le_refl _) (.cells #[.string ⟨g.toArray⟩, .int .i64 fr, .int .i64 he, .int .i64 pi, .int .i64 sa, .int .i64 re, .int .i64 rt, .int .i64 cn, .int .i64 cm, .int .i64 sh, .int .i64 sc, .int .i64 se, .int .i64 way] 33)
  have hBt1 := Blk.new w 33 #[.string ⟨g.toArray⟩, .int .i64 fr, .int .i64 he, .int .i64 pi, .int .i64 sa, .int .i64 re, .int .i64 rt, .int .i64 cn, .int .i64 cm, .int .i64 sh, .int .i64 sc, .int .i64 se, .int .i64 way]
  by_cases hb0 : b = 0
  · subst hb0
    go_enter Try.func7, Try.ntmps7
    go_wp2_with fail
    refine (lives_any _).mono ?_
    rintro e w9 ⟨rfl, hx9⟩
    go_wp2
    go_ret
    exact ⟨rfl, hb1.trans (hx9.mono hb1.size)⟩
  have hb0' := hb0
  have hd0 : (b == 0) = false := by simp [hb0]
  clear hb0
  by_cases hb2 : 1099511627776 < b
  · have hd2 : decide ((1099511627776 : Int) < b) = true := decide_eq_true hb2
    go_enter Try.func7, Try.ntmps7
    go_wp2_with fail
    refine (lives_any _).mono ?_
    rintro e w9 ⟨rfl, hx9⟩
    go_wp2
    go_ret
    exact ⟨rfl, hb1.trans (hx9.mono hb1.size)⟩
  have hd2 : decide ((1099511627776 : Int) < b) = false := decide_eq_false hb2
  by_cases hb3 : b < -1099511627776
  · have hd3 : decide (b < -1099511627776) = true := decide_eq_true hb3
    go_enter Try.func7, Try.ntmps7
    go_wp2_with fail
    refine (lives_any _).mono ?_
    rintro e w9 ⟨rfl, hx9⟩
    go_wp2
    go_ret
    exact ⟨rfl, hb1.trans (hx9.mono hb1.size)⟩
  have hd3 : decide (b < -1099511627776) = false := decide_eq_false hb3
  have hbr : -1099511627776 ≤ b ∧ b ≤ 1099511627776 := by omega
  clear hb2 hb3
  go_enter Try.func7, Try.ntmps7
  go_upto_region 3 with fail
  generalize w.alloc (.cells #[.string ⟨g.toArray⟩, .int .i64 fr, .int .i64 he, .int .i64 pi, .int .i64 sa, .int .i64 re, .int .i64 rt, .int .i64 cn, .int .i64 cm, .int .i64 sh, .int .i64 sc, .int .i64 se, .int .i64 way] 33) = w1 at *
  have t0 := hBt1.cell 0
  have t1 := hBt1.cell 1
  have t2 := hBt1.cell 2
  have t3 := hBt1.cell 3
  have t4 := hBt1.cell 4
  have t5 := hBt1.cell 5
  have t6 := hBt1.cell 6
  have t7 := hBt1.cell 7
  have t8 := hBt1.cell 8
  have t9 := hBt1.cell 9
  have t10 := hBt1.cell 10
  have t11 := hBt1.cell 11
  have t12 := hBt1.cell 12
  simp only [List.getElem?_toArray, List.getElem?_cons_succ, List.getElem?_cons_zero] at t0 t1 t2 t3 t4 t5 t6 t7 t8 t9 t10 t11 t12
  have hbl := hBt1.lt
  have hlist := (Blk.new w1 3 #[.int .i64 fr, .int .i64 he, .int .i64 pi, .int .i64 sa, .int .i64 way, .int .i64 re, .int .i64 rt, .int .i64 cn, .int .i64 sh, .int .i64 sc])
  have hBt2 := hBt1.alloc (.cells #[.int .i64 fr, .int .i64 he, .int .i64 pi, .int .i64 sa, .int .i64 way, .int .i64 re, .int .i64 rt, .int .i64 cn, .int .i64 sh, .int .i64 sc] 3)
  have hb2 := hb1.alloc hb1.size (.cells #[.int .i64 fr, .int .i64 he, .int .i64 pi, .int .i64 sa, .int .i64 way, .int .i64 re, .int .i64 rt, .int .i64 cn, .int .i64 sh, .int .i64 sc] 3)
  clear hd0 hd2 hd3
  go_wp2
  clear t0 t1 t2 t3 t4 t5 t6 t7 t8 t9 t10 t11 t12
  have hz2 : (w1.alloc (.cells #[.int .i64 fr, .int .i64 he, .int .i64 pi, .int .i64 sa, .int .i64 way, .int .i64 re, .int .i64 rt, .int .i64 cn, .int .i64 sh, .int .i64 sc] 3)).heap.size = w1.heap.size + 1 := by simp
  generalize w1.alloc (.cells #[.int .i64 fr, .int .i64 he, .int .i64 pi, .int .i64 sa, .int .i64 way, .int .i64 re, .int .i64 rt, .int .i64 cn, .int .i64 sh, .int .i64 sc] 3) = w2 at *
  obtain ⟨lb, hlb⟩ : ∃ lb, w1.heap.size = lb := ⟨_, rfl⟩
  rw [hlb] at hlist hbl hz2 ⊢
  clear hlb hBt1 hb1 hz2
  go_loopw [52] (fun i wr => ∃ k : Nat, i = .int .i64 (k : Int) ∧ k ≤ 10 ∧ Blk wr w.heap.size 33 #[.string ⟨g.toArray⟩, .int .i64 fr, .int .i64 he, .int .i64 pi, .int .i64 sa, .int .i64 re, .int .i64 rt, .int .i64 cn, .int .i64 cm, .int .i64 sh, .int .i64 sc, .int .i64 se, .int .i64 way] ∧ Blk wr lb 3 #[.int .i64 fr, .int .i64 he, .int .i64 pi, .int .i64 sa, .int .i64 way, .int .i64 re, .int .i64 rt, .int .i64 cn, .int .i64 sh, .int .i64 sc] ∧ RowKit.Below w.heap.size w wr ∧ Hid (∀ (j : Nat) (x : Int), j < k → ([fr, he, pi, sa, way, re, rt, cn, sh, sc] : List Int)[j]? = some x → -35184372088832 ≤ x ∧ x ≤ 35184372088832)) (fun i _ => 10 - (intOf i).toNat)
  case atStart => exact ⟨0, by go_num, by omega, hBt2, hlist, hb2, Lib.hid (fun j x hj => by omega)⟩
  case round =>
    clear hBt2 hlist hb2
    obtain ⟨k, rfl, hk, hBt, hl, hb, hall⟩ := hrel
    by_cases hlt : k < 10
    · as_aux_lemma =>
      have hlz : (k : Int) < 10 := by omega
      obtain ⟨x, hx⟩ : ∃ x, ([fr, he, pi, sa, way, re, rt, cn, sh, sc] : List Int)[k]? = some x := ⟨_, List.getElem?_eq_getElem (by simpa using hlt)⟩
      have hc : wr.cell? ⟨lb, k, none⟩ = some (.int .i64 x) := by
        rw [hl.cell k]
        have h2 : (([fr, he, pi, sa, way, re, rt, cn, sh, sc] : List Int).map (Value.int .i64))[k]? = some (.int .i64 x) := by rw [List.getElem?_map, hx]; rfl
        rw [List.getElem?_toArray]
        exact h2
      by_cases hlo : x < -35184372088832
      · have hdl : decide (x < -35184372088832) = true := decide_eq_true hlo
        clear hall hx hl hBt
        go_wp2_with fail
        refine (lives_any _).mono ?_
        rintro e w9 ⟨rfl, hx9⟩
        go_wp2
        go_ret
        exact ⟨rfl, hb.trans (hx9.mono hb.size)⟩
      have hdl : decide (x < -35184372088832) = false := decide_eq_false hlo
      by_cases hhi : 35184372088832 < x
      · have hdh : decide ((35184372088832 : Int) < x) = true := decide_eq_true hhi
        clear hall hx hl hBt hlo
        go_wp2_with fail
        refine (lives_any _).mono ?_
        rintro e w9 ⟨rfl, hx9⟩
        go_wp2
        go_ret
        exact ⟨rfl, hb.trans (hx9.mono hb.size)⟩
      have hdh : decide ((35184372088832 : Int) < x) = false := decide_eq_false hhi
      have hall2 := Lib.hid (fun (j : Nat) (y : Int) (hj : j < k + 1) (hy : ([fr, he, pi, sa, way, re, rt, cn, sh, sc] : List Int)[j]? = some y) => show -35184372088832 ≤ y ∧ y ≤ 35184372088832 from by
        by_cases e : j = k
        · subst e
          rw [hx] at hy
          cases hy
          omega
        · exact hall.out j y (by omega) hy)
      clear hall hx hlo hhi
      go_wp2
      go_roundw
      case measure => simp [intOf]; omega
      case rel => exact ⟨k + 1, by go_num, by omega, hBt, hl, hb, hall2⟩
    · have hk10 : k = 10 := by omega
      subst hk10
      have hfr := hall.out 0 fr (by omega) rfl
      have hhe := hall.out 1 he (by omega) rfl
      have hpi := hall.out 2 pi (by omega) rfl
      have hsa := hall.out 3 sa (by omega) rfl
      have hway := hall.out 4 way (by omega) rfl
      have hre := hall.out 5 re (by omega) rfl
      have hrt := hall.out 6 rt (by omega) rfl
      have hcn := hall.out 7 cn (by omega) rfl
      have hsh := hall.out 8 sh (by omega) rfl
      have hsc := hall.out 9 sc (by omega) rfl
      clear hall hl hk hlt
      have hb4 := hb.alloc hb.size (.cells #[.string ⟨g.toArray⟩, .int .i64 fr, .int .i64 he, .int .i64 pi, .int .i64 sa, .int .i64 re, .int .i64 rt, .int .i64 cn, .int .i64 cm, .int .i64 sh, .int .i64 sc, .int .i64 se, .int .i64 way] 33)
      have hBt4 := hBt.alloc (.cells #[.string ⟨g.toArray⟩, .int .i64 fr, .int .i64 he, .int .i64 pi, .int .i64 sa, .int .i64 re, .int .i64 rt, .int .i64 cn, .int .i64 cm, .int .i64 sh, .int .i64 sc, .int .i64 se, .int .i64 way] 33)
      have hBu := Blk.new wr 33 #[.string ⟨g.toArray⟩, .int .i64 fr, .int .i64 he, .int .i64 pi, .int .i64 sa, .int .i64 re, .int .i64 rt, .int .i64 cn, .int .i64 cm, .int .i64 sh, .int .i64 sc, .int .i64 se, .int .i64 way]
      go_upto_block 2 with (refine wpLoadM 33 (by rfl) (.tmp 3) rfl rfl hBt _ Try.underlying33 rfl (by rw [tot_info]; rfl) ?_)
      have hub := hBt.lt
      obtain ⟨ub, hub2⟩ : ∃ ub, wr.heap.size = ub := ⟨_, rfl⟩
      obtain ⟨w4, hw4⟩ : ∃ w4, wr.alloc (.cells #[.string ⟨g.toArray⟩, .int .i64 fr, .int .i64 he, .int .i64 pi, .int .i64 sa, .int .i64 re, .int .i64 rt, .int .i64 cn, .int .i64 cm, .int .i64 sh, .int .i64 sc, .int .i64 se, .int .i64 way] 33) = w4 := ⟨_, rfl⟩
      rw [hub2, hw4] at hBu
      rw [hw4] at hb4 hBt4 ⊢
      rw [hub2] at hub ⊢
      clear hub2 hw4 hb hBt
      have hBt := hBt4
      clear hBt4
      by_cases e0 : wh = 0
      · as_aux_lemma =>
        subst e0
        have hset := hBu.set_ 1 (.int .i64 (fr + b))
        have hku := (Keep.refl (fun k => k = ub) w4).setCell (p := ⟨ub, 1, none⟩) (fun _ => rfl) (.int .i64 (fr + b))
        have c1 := hBu.cell 1
        have f1 := hBu.frozen 1
        simp only [List.getElem?_toArray, List.getElem?_cons_succ, List.getElem?_cons_zero] at c1
        have hb5 := hb4.trans (hku.below (B := w.heap.size) hb4.size (fun i hi e => by omega))
        have hBt5 := hBt.kept hku (fun e => by omega)
        have hBu5 : Blk (w4.setCell ⟨ub, 1, none⟩ (.int .i64 (fr + b))) ub 33 #[.string ⟨g.toArray⟩, .int .i64 (fr + b), .int .i64 he, .int .i64 pi, .int .i64 sa, .int .i64 re, .int .i64 rt, .int .i64 cn, .int .i64 cm, .int .i64 sh, .int .i64 sc, .int .i64 se, .int .i64 way] := by simpa using hset
        go_upto_region 20 with fail
        generalize w4.setCell ⟨ub, 1, none⟩ (.int .i64 (fr + b)) = w5 at *
        clear hset hku c1 f1 hb4 hBt hBu
        go_wp2_with fail
        refine (lives_any w5).mono ?_
        rintro e w6 ⟨rfl, hx6⟩
        have hb6 := hb5.trans (hx6.mono hb5.size)
        have hBt6 := hBt5.kept (Keep.of_below hx6) (by have := hBt5.lt; omega)
        have hBu6 := hBu5.kept (Keep.of_below hx6) (by have := hBu5.lt; omega)
        have cK := fun W => gkept_any g ⟨fr, he, pi, sa, re, rt, cn, cm, sh, sc, se⟩ way W
        have cU := fun W => gkept_any g ⟨(fr + b), he, pi, sa, re, rt, cn, cm, sh, sc, se⟩ way W
        unfold totV at cK cU
        clear hb5 hBt5 hBu5 hx6
        cases hKT : keptB ⟨fr, he, pi, sa, re, rt, cn, cm, sh, sc, se⟩ way with
        | false =>
          rw [hKT] at cK
          clear hKT
          go_wp2_with (refine wpLoadM 33 (by rfl) (.tmp 3) rfl rfl hBt6 _ Try.underlying33 rfl (by rw [tot_info]; rfl) ?_)
          refine (cK w6).mono ?_
          rintro e w7 ⟨rfl, hx7⟩
          go_wp2
          go_ret
          exact ⟨rfl, hb6.trans (hx7.mono hb6.size)⟩
        | true =>
          have hKU := lost_0 fr he pi sa re rt cn cm sh sc se way b hfr hhe hpi hsa hway hre hrt hcn hsh hsc hb0' hbr hKT
          rw [show wrap64 (fr + b) = fr + b from by unfold wrap64; omega] at hKU
          rw [hKT] at cK
          rw [hKU] at cU
          clear hKT hKU
          go_wp2_with (refine wpLoadM 33 (by rfl) (.tmp 3) rfl rfl hBt6 _ Try.underlying33 rfl (by rw [tot_info]; rfl) ?_)
          refine (cK w6).mono ?_
          rintro e w7 ⟨rfl, hx7⟩
          have hb7 := hb6.trans (hx7.mono hb6.size)
          have hBu7 := hBu6.kept (Keep.of_below hx7) (by have := hBu6.lt; omega)
          clear hx7 hb6 hBu6 hBt6
          go_wp2_with (refine wpLoadM 33 (by rfl) (.tmp 9) rfl rfl hBu7 _ Try.underlying33 rfl (by rw [tot_info]; rfl) ?_)
          refine (cU w7).mono ?_
          rintro e w8 ⟨rfl, hx8⟩
          go_wp2
          go_ret
          exact ⟨rfl, hb7.trans (hx8.mono hb7.size)⟩
      have d0 : (wh == 0) = false := by simp [e0]
      by_cases e1 : wh = 1
      · as_aux_lemma =>
        subst e1
        have hset := hBu.set_ 4 (.int .i64 (sa + b))
        have hku := (Keep.refl (fun k => k = ub) w4).setCell (p := ⟨ub, 4, none⟩) (fun _ => rfl) (.int .i64 (sa + b))
        have c4 := hBu.cell 4
        have f4 := hBu.frozen 4
        simp only [List.getElem?_toArray, List.getElem?_cons_succ, List.getElem?_cons_zero] at c4
        have hb5 := hb4.trans (hku.below (B := w.heap.size) hb4.size (fun i hi e => by omega))
        have hBt5 := hBt.kept hku (fun e => by omega)
        have hBu5 : Blk (w4.setCell ⟨ub, 4, none⟩ (.int .i64 (sa + b))) ub 33 #[.string ⟨g.toArray⟩, .int .i64 fr, .int .i64 he, .int .i64 pi, .int .i64 (sa + b), .int .i64 re, .int .i64 rt, .int .i64 cn, .int .i64 cm, .int .i64 sh, .int .i64 sc, .int .i64 se, .int .i64 way] := by simpa using hset
        go_upto_region 20 with fail
        generalize w4.setCell ⟨ub, 4, none⟩ (.int .i64 (sa + b)) = w5 at *
        clear hset hku c4 f4 hb4 hBt hBu
        go_wp2_with fail
        refine (lives_any w5).mono ?_
        rintro e w6 ⟨rfl, hx6⟩
        have hb6 := hb5.trans (hx6.mono hb5.size)
        have hBt6 := hBt5.kept (Keep.of_below hx6) (by have := hBt5.lt; omega)
        have hBu6 := hBu5.kept (Keep.of_below hx6) (by have := hBu5.lt; omega)
        have cK := fun W => gkept_any g ⟨fr, he, pi, sa, re, rt, cn, cm, sh, sc, se⟩ way W
        have cU := fun W => gkept_any g ⟨fr, he, pi, (sa + b), re, rt, cn, cm, sh, sc, se⟩ way W
        unfold totV at cK cU
        clear hb5 hBt5 hBu5 hx6
        cases hKT : keptB ⟨fr, he, pi, sa, re, rt, cn, cm, sh, sc, se⟩ way with
        | false =>
          rw [hKT] at cK
          clear hKT
          go_wp2_with (refine wpLoadM 33 (by rfl) (.tmp 3) rfl rfl hBt6 _ Try.underlying33 rfl (by rw [tot_info]; rfl) ?_)
          refine (cK w6).mono ?_
          rintro e w7 ⟨rfl, hx7⟩
          go_wp2
          go_ret
          exact ⟨rfl, hb6.trans (hx7.mono hb6.size)⟩
        | true =>
          have hKU := lost_1 fr he pi sa re rt cn cm sh sc se way b hfr hhe hpi hsa hway hre hrt hcn hsh hsc hb0' hbr hKT
          rw [show wrap64 (sa + b) = sa + b from by unfold wrap64; omega] at hKU
          rw [hKT] at cK
          rw [hKU] at cU
          clear hKT hKU
          go_wp2_with (refine wpLoadM 33 (by rfl) (.tmp 3) rfl rfl hBt6 _ Try.underlying33 rfl (by rw [tot_info]; rfl) ?_)
          refine (cK w6).mono ?_
          rintro e w7 ⟨rfl, hx7⟩
          have hb7 := hb6.trans (hx7.mono hb6.size)
          have hBu7 := hBu6.kept (Keep.of_below hx7) (by have := hBu6.lt; omega)
          clear hx7 hb6 hBu6 hBt6
          go_wp2_with (refine wpLoadM 33 (by rfl) (.tmp 9) rfl rfl hBu7 _ Try.underlying33 rfl (by rw [tot_info]; rfl) ?_)
          refine (cU w7).mono ?_
          rintro e w8 ⟨rfl, hx8⟩
          go_wp2
          go_ret
          exact ⟨rfl, hb7.trans (hx8.mono hb7.size)⟩
      have d1 : (wh == 1) = false := by simp [e1]
      by_cases e2 : wh = 2
      · as_aux_lemma =>
        subst e2
        have hset := hBu.set_ 5 (.int .i64 (re + b))
        have hku := (Keep.refl (fun k => k = ub) w4).setCell (p := ⟨ub, 5, none⟩) (fun _ => rfl) (.int .i64 (re + b))
        have c5 := hBu.cell 5
        have f5 := hBu.frozen 5
        simp only [List.getElem?_toArray, List.getElem?_cons_succ, List.getElem?_cons_zero] at c5
        have hb5 := hb4.trans (hku.below (B := w.heap.size) hb4.size (fun i hi e => by omega))
        have hBt5 := hBt.kept hku (fun e => by omega)
        have hBu5 : Blk (w4.setCell ⟨ub, 5, none⟩ (.int .i64 (re + b))) ub 33 #[.string ⟨g.toArray⟩, .int .i64 fr, .int .i64 he, .int .i64 pi, .int .i64 sa, .int .i64 (re + b), .int .i64 rt, .int .i64 cn, .int .i64 cm, .int .i64 sh, .int .i64 sc, .int .i64 se, .int .i64 way] := by simpa using hset
        go_upto_region 20 with fail
        generalize w4.setCell ⟨ub, 5, none⟩ (.int .i64 (re + b)) = w5 at *
        clear hset hku c5 f5 hb4 hBt hBu
        go_wp2_with fail
        refine (lives_any w5).mono ?_
        rintro e w6 ⟨rfl, hx6⟩
        have hb6 := hb5.trans (hx6.mono hb5.size)
        have hBt6 := hBt5.kept (Keep.of_below hx6) (by have := hBt5.lt; omega)
        have hBu6 := hBu5.kept (Keep.of_below hx6) (by have := hBu5.lt; omega)
        have cK := fun W => gkept_any g ⟨fr, he, pi, sa, re, rt, cn, cm, sh, sc, se⟩ way W
        have cU := fun W => gkept_any g ⟨fr, he, pi, sa, (re + b), rt, cn, cm, sh, sc, se⟩ way W
        unfold totV at cK cU
        clear hb5 hBt5 hBu5 hx6
        cases hKT : keptB ⟨fr, he, pi, sa, re, rt, cn, cm, sh, sc, se⟩ way with
        | false =>
          rw [hKT] at cK
          clear hKT
          go_wp2_with (refine wpLoadM 33 (by rfl) (.tmp 3) rfl rfl hBt6 _ Try.underlying33 rfl (by rw [tot_info]; rfl) ?_)
          refine (cK w6).mono ?_
          rintro e w7 ⟨rfl, hx7⟩
          go_wp2
          go_ret
          exact ⟨rfl, hb6.trans (hx7.mono hb6.size)⟩
        | true =>
          have hKU := lost_2 fr he pi sa re rt cn cm sh sc se way b hfr hhe hpi hsa hway hre hrt hcn hsh hsc hb0' hbr hKT
          rw [show wrap64 (re + b) = re + b from by unfold wrap64; omega] at hKU
          rw [hKT] at cK
          rw [hKU] at cU
          clear hKT hKU
          go_wp2_with (refine wpLoadM 33 (by rfl) (.tmp 3) rfl rfl hBt6 _ Try.underlying33 rfl (by rw [tot_info]; rfl) ?_)
          refine (cK w6).mono ?_
          rintro e w7 ⟨rfl, hx7⟩
          have hb7 := hb6.trans (hx7.mono hb6.size)
          have hBu7 := hBu6.kept (Keep.of_below hx7) (by have := hBu6.lt; omega)
          clear hx7 hb6 hBu6 hBt6
          go_wp2_with (refine wpLoadM 33 (by rfl) (.tmp 9) rfl rfl hBu7 _ Try.underlying33 rfl (by rw [tot_info]; rfl) ?_)
          refine (cU w7).mono ?_
          rintro e w8 ⟨rfl, hx8⟩
          go_wp2
          go_ret
          exact ⟨rfl, hb7.trans (hx8.mono hb7.size)⟩
      have d2 : (wh == 2) = false := by simp [e2]
      by_cases e3 : wh = 3
      · as_aux_lemma =>
        subst e3
        have hset := hBu.set_ 9 (.int .i64 (sh + b))
        have hku := (Keep.refl (fun k => k = ub) w4).setCell (p := ⟨ub, 9, none⟩) (fun _ => rfl) (.int .i64 (sh + b))
        have c9 := hBu.cell 9
        have f9 := hBu.frozen 9
        simp only [List.getElem?_toArray, List.getElem?_cons_succ, List.getElem?_cons_zero] at c9
        have hb5 := hb4.trans (hku.below (B := w.heap.size) hb4.size (fun i hi e => by omega))
        have hBt5 := hBt.kept hku (fun e => by omega)
        have hBu5 : Blk (w4.setCell ⟨ub, 9, none⟩ (.int .i64 (sh + b))) ub 33 #[.string ⟨g.toArray⟩, .int .i64 fr, .int .i64 he, .int .i64 pi, .int .i64 sa, .int .i64 re, .int .i64 rt, .int .i64 cn, .int .i64 cm, .int .i64 (sh + b), .int .i64 sc, .int .i64 se, .int .i64 way] := by simpa using hset
        go_upto_region 20 with fail
        generalize w4.setCell ⟨ub, 9, none⟩ (.int .i64 (sh + b)) = w5 at *
        clear hset hku c9 f9 hb4 hBt hBu
        go_wp2_with fail
        refine (lives_any w5).mono ?_
        rintro e w6 ⟨rfl, hx6⟩
        have hb6 := hb5.trans (hx6.mono hb5.size)
        have hBt6 := hBt5.kept (Keep.of_below hx6) (by have := hBt5.lt; omega)
        have hBu6 := hBu5.kept (Keep.of_below hx6) (by have := hBu5.lt; omega)
        have cK := fun W => gkept_any g ⟨fr, he, pi, sa, re, rt, cn, cm, sh, sc, se⟩ way W
        have cU := fun W => gkept_any g ⟨fr, he, pi, sa, re, rt, cn, cm, (sh + b), sc, se⟩ way W
        unfold totV at cK cU
        clear hb5 hBt5 hBu5 hx6
        cases hKT : keptB ⟨fr, he, pi, sa, re, rt, cn, cm, sh, sc, se⟩ way with
        | false =>
          rw [hKT] at cK
          clear hKT
          go_wp2_with (refine wpLoadM 33 (by rfl) (.tmp 3) rfl rfl hBt6 _ Try.underlying33 rfl (by rw [tot_info]; rfl) ?_)
          refine (cK w6).mono ?_
          rintro e w7 ⟨rfl, hx7⟩
          go_wp2
          go_ret
          exact ⟨rfl, hb6.trans (hx7.mono hb6.size)⟩
        | true =>
          have hKU := lost_3 fr he pi sa re rt cn cm sh sc se way b hfr hhe hpi hsa hway hre hrt hcn hsh hsc hb0' hbr hKT
          rw [show wrap64 (sh + b) = sh + b from by unfold wrap64; omega] at hKU
          rw [hKT] at cK
          rw [hKU] at cU
          clear hKT hKU
          go_wp2_with (refine wpLoadM 33 (by rfl) (.tmp 3) rfl rfl hBt6 _ Try.underlying33 rfl (by rw [tot_info]; rfl) ?_)
          refine (cK w6).mono ?_
          rintro e w7 ⟨rfl, hx7⟩
          have hb7 := hb6.trans (hx7.mono hb6.size)
          have hBu7 := hBu6.kept (Keep.of_below hx7) (by have := hBu6.lt; omega)
          clear hx7 hb6 hBu6 hBt6
          go_wp2_with (refine wpLoadM 33 (by rfl) (.tmp 9) rfl rfl hBu7 _ Try.underlying33 rfl (by rw [tot_info]; rfl) ?_)
          refine (cU w7).mono ?_
          rintro e w8 ⟨rfl, hx8⟩
          go_wp2
          go_ret
          exact ⟨rfl, hb7.trans (hx8.mono hb7.size)⟩
      have d3 : (wh == 3) = false := by simp [e3]
      as_aux_lemma =>
        clear e0 e1 e2 e3
        have hset := hBu.set_ 7 (.int .i64 (cn + b))
        have hku := (Keep.refl (fun k => k = ub) w4).setCell (p := ⟨ub, 7, none⟩) (fun _ => rfl) (.int .i64 (cn + b))
        have c7 := hBu.cell 7
        have f7 := hBu.frozen 7
        simp only [List.getElem?_toArray, List.getElem?_cons_succ, List.getElem?_cons_zero] at c7
        have hb5 := hb4.trans (hku.below (B := w.heap.size) hb4.size (fun i hi e => by omega))
        have hBt5 := hBt.kept hku (fun e => by omega)
        have hBu5 : Blk (w4.setCell ⟨ub, 7, none⟩ (.int .i64 (cn + b))) ub 33 #[.string ⟨g.toArray⟩, .int .i64 fr, .int .i64 he, .int .i64 pi, .int .i64 sa, .int .i64 re, .int .i64 rt, .int .i64 (cn + b), .int .i64 cm, .int .i64 sh, .int .i64 sc, .int .i64 se, .int .i64 way] := by simpa using hset
        go_upto_region 20 with fail
        generalize w4.setCell ⟨ub, 7, none⟩ (.int .i64 (cn + b)) = w5 at *
        clear hset hku c7 f7 hb4 hBt hBu
        go_wp2_with fail
        refine (lives_any w5).mono ?_
        rintro e w6 ⟨rfl, hx6⟩
        have hb6 := hb5.trans (hx6.mono hb5.size)
        have hBt6 := hBt5.kept (Keep.of_below hx6) (by have := hBt5.lt; omega)
        have hBu6 := hBu5.kept (Keep.of_below hx6) (by have := hBu5.lt; omega)
        have cK := fun W => gkept_any g ⟨fr, he, pi, sa, re, rt, cn, cm, sh, sc, se⟩ way W
        have cU := fun W => gkept_any g ⟨fr, he, pi, sa, re, rt, (cn + b), cm, sh, sc, se⟩ way W
        unfold totV at cK cU
        clear hb5 hBt5 hBu5 hx6
        cases hKT : keptB ⟨fr, he, pi, sa, re, rt, cn, cm, sh, sc, se⟩ way with
        | false =>
          rw [hKT] at cK
          clear hKT
          go_wp2_with (refine wpLoadM 33 (by rfl) (.tmp 3) rfl rfl hBt6 _ Try.underlying33 rfl (by rw [tot_info]; rfl) ?_)
          refine (cK w6).mono ?_
          rintro e w7 ⟨rfl, hx7⟩
          go_wp2
          go_ret
          exact ⟨rfl, hb6.trans (hx7.mono hb6.size)⟩
        | true =>
          have hKU := lost_d fr he pi sa re rt cn cm sh sc se way b hfr hhe hpi hsa hway hre hrt hcn hsh hsc hb0' hbr hKT
          rw [show wrap64 (cn + b) = cn + b from by unfold wrap64; omega] at hKU
          rw [hKT] at cK
          rw [hKU] at cU
          clear hKT hKU
          go_wp2_with (refine wpLoadM 33 (by rfl) (.tmp 3) rfl rfl hBt6 _ Try.underlying33 rfl (by rw [tot_info]; rfl) ?_)
          refine (cK w6).mono ?_
          rintro e w7 ⟨rfl, hx7⟩
          have hb7 := hb6.trans (hx7.mono hb6.size)
          have hBu7 := hBu6.kept (Keep.of_below hx7) (by have := hBu6.lt; omega)
          clear hx7 hb6 hBu6 hBt6
          go_wp2_with (refine wpLoadM 33 (by rfl) (.tmp 9) rfl rfl hBu7 _ Try.underlying33 rfl (by rw [tot_info]; rfl) ?_)
          refine (cU w7).mono ?_
          rintro e w8 ⟨rfl, hx8⟩
          go_wp2
          go_ret
          exact ⟨rfl, hb7.trans (hx8.mono hb7.size)⟩

namespace goodsLostDone
open Go.ChangeShapes Go.WideShapes Go.ChangeAt
set_option maxRecDepth 100000 in
theorem lifted (os : Os) (started : os.Started) (H : Type) (enc : TypeId × Value → H) :
    ReturnsInHanded {} Try.checked os 7 .any (Rows.goodsLostSpec.pre6 enc Try.prog Try.f7 Rows.goodsLostRow.domain false) (Rows.goodsLostSpec.post enc Try.prog Try.f7 false true false false) := by
  refine returnsInHanded_of_change_sized (C := Try.checked) own started (by kernel_rfl) Try.func7
    (ChangeSpec.witness6 (enc := enc) (C := Try.checked) false ⟨#[], #[Value.agg #[.string ⟨#[]⟩, .int .i64 0, .int .i64 0, .int .i64 0, .int .i64 0, .int .i64 0, .int .i64 0, .int .i64 0, .int .i64 0, .int .i64 0, .int .i64 0, .int .i64 0, .int .i64 0], Value.int .i64 0, Value.int .i64 0], []⟩ 8 (by kernel_rfl) (by kernel_rfl) (by kernel_rfl) (by kernel_rfl)) ?_
  intro W base args ds gs before hval0 hW hcnd hsz0 _
  have hsz : (DataW.weightsEach Try.prog (Try.f7.params.toList ++ Rows.goodsLostSpec.plain.varTypes Try.prog) (ds ++ gs)).all (· ≤ reachBytes) = true := hsz0
  clear hsz0
  have hval : ∀ (j : Nat) t v, Try.f7.params[j]? = some t → args[j]? = some v → Value.okWide Try.prog W .any base t v := hval0
  have hW' := hW
  obtain ⟨p, q, hA0, hV, rfl, hfz, hnd⟩ := hW
  have hA : DataW.TrodAll enc Try.prog W 0 (fun _ => true) true Try.f7.params.toList args.toList ds p := hA0
  rw [Try.params7] at hA hval hsz
  obtain ⟨v0, vs0, d0, ds0, p0, q0, hargs, rfl, rfl, h0, r0⟩ := trodAll_cons hA
  obtain ⟨v1, vs1, d1, ds1, p1, q1, rfl, rfl, rfl, h1, r1⟩ := trodAll_cons r0
  obtain ⟨v2, vs2, d2, ds2, p2, q2, rfl, rfl, rfl, h2, r2⟩ := trodAll_cons r1
  obtain ⟨rfl, rfl, rfl⟩ := trodAll_nil r2
  obtain rfl : args = #[v0, v1, v2] := by cases args; simp_all
  obtain ⟨rfl, rfl⟩ := trodVars_none hV
  obtain ⟨g0, k0_1, k0_2, k0_3, k0_4, k0_5, k0_6, k0_7, k0_8, k0_9, k0_10, k0_11, k0_12, rfl⟩ := tot_open (hval 0 33 v0 rfl rfl) h0
  have k0' := h0
  have lt0 : ∀ x ∈ p0, x.block < W.heap.size := by obtain ⟨m, hm⟩ := h0; exact DataW.trod_lt m _ _ _ hm
  obtain ⟨a1, rfl, rfl, rfl, w1⟩ := open_int Try.underlying3 (hval 1 3 v1 rfl rfl) h1
  obtain ⟨a2, rfl, rfl, rfl, w2⟩ := open_int Try.underlying3 (hval 2 3 v2 rfl rfl) h2
  clear hA0 hval0
  refine (goodsLost_walk (w := W) g0 k0_1 k0_2 k0_3 k0_4 k0_5 k0_6 k0_7 k0_8 k0_9 k0_10 k0_11 k0_12 a1 w1 a2 w2).mono fun e W' ⟨he, bel⟩ => ?_
  subst he
  exact ⟨_, rfl, _, _, _, [], _, [], hW', trodAll_mk1 (shut_bool Try.underlying4 _), (trodAll_cons_mk (Below.trod laidOut (by kernel_rfl) (of_decide_eq_true (by kernel_rfl)) k0' bel lt0) (trodAll_cons_mk (shut_int Try.underlying3 w1) (trodAll_cons_mk (shut_int Try.underlying3 w2) trodAll_mk0))), rfl, bel.frame _, fun h => by cases h⟩

theorem over : Rows.goodsLostRow.holds Try.pinned (OpenSpec.ofChange Rows.goodsLostSpec) :=
  OpenClaim.holds_of_wide 7 Try.f7 rfl rfl rfl rfl rfl rfl rfl ⟨rfl, rfl, rfl, rfl, rfl⟩ rfl rfl rfl rfl rfl (by kernel_rfl) Try.func7 (by kernel_rfl)
    (of_decide_eq_true (by kernel_rfl)) (by unfold Func.isWrapper; first | (rw [if_pos (by decide +kernel)]; kernel_rfl) | (rw [if_neg (by decide +kernel)]; exact ⟨rfl, rfl⟩))
    (fun os started H enc _ => lifted os started H enc)

/-- The statement. -/
theorem proved : Rows.GoodsLostSaid := over
end goodsLostDone
end Go.Proofs.Ytipmamgmcipbfaa
