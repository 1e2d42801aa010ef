/- The stock's calls: several texts as one (StkB, StkR, StkQ, StkL). No condition but those told at each. -/
import Derived.Test.YtfpcnenohidfpaaGreatMayI
import Derived.LoopN
import Derived.IntWalk
import Derived.Deep.RegionHeld3
import Derived.Test.YtfpcnenohidfpaaGreatCnt
namespace Go.Proofs.YtfpcnenohidfpaaGreat
section
open Go.RowKit Go.Maps Go.Shelf
set_option linter.unusedVariables false
set_option linter.unusedSimpArgs false

def fOK (n : Int) : Bool := decide (0 ≤ n) && decide (n ≤ 72057594037927936)
theorem fOK_no {n : Int} (h : fOK n = false) : n < 0 ∨ 72057594037927936 < n := by
  simp [fOK] at h
  omega
theorem fOK_yes {n : Int} (h : fOK n = true) : 0 ≤ n ∧ n ≤ 72057594037927936 := by simpa [fOK] using h
theorem cMay_yes {n : Int} (h : cMay n = true) : 0 ≤ n ∧ n ≤ 1099511627776 := by simpa [cMay] using h
def flowB (re rt cm sh sc se : Int) : Bool := fOK re && (fOK rt && (fOK cm && (fOK sh && (fOK sc && (fOK se)))))
theorem flowB_yes {re rt cm sh sc se : Int} (h : flowB re rt cm sh sc se = true) : (0 ≤ re ∧ re ≤ 72057594037927936) ∧ (0 ≤ rt ∧ rt ≤ 72057594037927936) ∧ (0 ≤ cm ∧ cm ≤ 72057594037927936) ∧ (0 ≤ sh ∧ sh ≤ 72057594037927936) ∧ (0 ≤ sc ∧ sc ≤ 72057594037927936) ∧ (0 ≤ se ∧ se ≤ 72057594037927936) := by
  unfold flowB at h
  simp only [Bool.and_eq_true] at h
  obtain ⟨h1, h2, h3, h4, h5, h6⟩ := h
  exact ⟨fOK_yes h1, fOK_yes h2, fOK_yes h3, fOK_yes h4, fOK_yes h5, fOK_yes h6⟩
def levB (fr he pi sa : Int) : Bool := cMay fr && (cMay he && (cMay pi && (cMay sa)))
def balB (fr he pi sa re rt cn cm sh sc se : Int) : Bool := levB fr he pi sa && (flowB re rt cm sh sc se && (decide (-576460752303423488 ≤ cn) && (decide (cn ≤ 576460752303423488) && decide (fr + he + pi + sa = re + rt + cn + cm - sh - sc - se))))

set_option maxRecDepth 100000 in
set_option maxHeartbeats 3200000 in
theorem mayFlow_any (re rt cn cm sh sc se : Int) (w : World) : Calls Tryz.prog 42 #[.agg #[.int .i64 re, .int .i64 rt, .int .i64 cn, .int .i64 cm, .int .i64 sh, .int .i64 sc, .int .i64 se]] w fun e w' => e = .returned (.bool (flowB re rt cm sh sc se)) ∧ Below w.heap.size w w' := by
  have hb2 := ((Below.refl w.heap.size w).alloc (Nat.le_refl _) (.cells #[.int .i64 re, .int .i64 rt, .int .i64 cn, .int .i64 cm, .int .i64 sh, .int .i64 sc, .int .i64 se] 42)).alloc (by simp) (.cells #[.int .i64 re, .int .i64 rt, .int .i64 cm, .int .i64 sh, .int .i64 sc, .int .i64 se] 3)
  go_enter Tryz.func42, Tryz.ntmps42
  go_wp2_with fail
  refine wp_loop_rounds 9 ?_
  rw [rounds_succ]
  cases bre : fOK re with
  | false =>
    have hno : flowB re rt cm sh sc se = false := by unfold flowB; rw [bre]; rfl
    by_cases qre : re < 0
    · have qred : decide (re < 0) = true := decide_eq_true qre
      go_wp2
      go_ret
      exact ⟨by first | rfl | (rw [hno]; rfl), hb2⟩
    · have qred : decide (re < 0) = false := decide_eq_false qre
      have qreg : 72057594037927936 < re := (fOK_no bre).resolve_left qre
      have qreh : decide (72057594037927936 < re) = true := decide_eq_true qreg
      go_wp2
      go_ret
      exact ⟨by first | rfl | (rw [hno]; rfl), hb2⟩
  | true =>
    have qre : ¬ re < 0 := by have := fOK_yes bre; omega
    have qred : decide (re < 0) = false := decide_eq_false qre
    have qreg : ¬ 72057594037927936 < re := by have := fOK_yes bre; omega
    have qreh : decide (72057594037927936 < re) = false := decide_eq_false qreg
    go_wp2_with fail
    rw [rounds_succ]
    cases brt : fOK rt with
    | false =>
      have hno : flowB re rt cm sh sc se = false := by unfold flowB; rw [bre, brt]; rfl
      by_cases qrt : rt < 0
      · have qrtd : decide (rt < 0) = true := decide_eq_true qrt
        go_wp2
        go_ret
        exact ⟨by first | rfl | (rw [hno]; rfl), hb2⟩
      · have qrtd : decide (rt < 0) = false := decide_eq_false qrt
        have qrtg : 72057594037927936 < rt := (fOK_no brt).resolve_left qrt
        have qrth : decide (72057594037927936 < rt) = true := decide_eq_true qrtg
        go_wp2
        go_ret
        exact ⟨by first | rfl | (rw [hno]; rfl), hb2⟩
    | true =>
      have qrt : ¬ rt < 0 := by have := fOK_yes brt; omega
      have qrtd : decide (rt < 0) = false := decide_eq_false qrt
      have qrtg : ¬ 72057594037927936 < rt := by have := fOK_yes brt; omega
      have qrth : decide (72057594037927936 < rt) = false := decide_eq_false qrtg
      go_wp2_with fail
      rw [rounds_succ]
      cases bcm : fOK cm with
      | false =>
        have hno : flowB re rt cm sh sc se = false := by unfold flowB; rw [bre, brt, bcm]; rfl
        by_cases qcm : cm < 0
        · have qcmd : decide (cm < 0) = true := decide_eq_true qcm
          go_wp2
          go_ret
          exact ⟨by first | rfl | (rw [hno]; rfl), hb2⟩
        · have qcmd : decide (cm < 0) = false := decide_eq_false qcm
          have qcmg : 72057594037927936 < cm := (fOK_no bcm).resolve_left qcm
          have qcmh : decide (72057594037927936 < cm) = true := decide_eq_true qcmg
          go_wp2
          go_ret
          exact ⟨by first | rfl | (rw [hno]; rfl), hb2⟩
      | true =>
        have qcm : ¬ cm < 0 := by have := fOK_yes bcm; omega
        have qcmd : decide (cm < 0) = false := decide_eq_false qcm
        have qcmg : ¬ 72057594037927936 < cm := by have := fOK_yes bcm; omega
        have qcmh : decide (72057594037927936 < cm) = false := decide_eq_false qcmg
        go_wp2_with fail
        rw [rounds_succ]
        cases bsh : fOK sh with
        | false =>
          have hno : flowB re rt cm sh sc se = false := by unfold flowB; rw [bre, brt, bcm, bsh]; rfl
          by_cases qsh : sh < 0
          · have qshd : decide (sh < 0) = true := decide_eq_true qsh
            go_wp2
            go_ret
            exact ⟨by first | rfl | (rw [hno]; rfl), hb2⟩
          · have qshd : decide (sh < 0) = false := decide_eq_false qsh
            have qshg : 72057594037927936 < sh := (fOK_no bsh).resolve_left qsh
            have qshh : decide (72057594037927936 < sh) = true := decide_eq_true qshg
            go_wp2
            go_ret
            exact ⟨by first | rfl | (rw [hno]; rfl), hb2⟩
        | true =>
          have qsh : ¬ sh < 0 := by have := fOK_yes bsh; omega
          have qshd : decide (sh < 0) = false := decide_eq_false qsh
          have qshg : ¬ 72057594037927936 < sh := by have := fOK_yes bsh; omega
          have qshh : decide (72057594037927936 < sh) = false := decide_eq_false qshg
          go_wp2_with fail
          rw [rounds_succ]
          cases bsc : fOK sc with
          | false =>
            have hno : flowB re rt cm sh sc se = false := by unfold flowB; rw [bre, brt, bcm, bsh, bsc]; rfl
            by_cases qsc : sc < 0
            · have qscd : decide (sc < 0) = true := decide_eq_true qsc
              go_wp2
              go_ret
              exact ⟨by first | rfl | (rw [hno]; rfl), hb2⟩
            · have qscd : decide (sc < 0) = false := decide_eq_false qsc
              have qscg : 72057594037927936 < sc := (fOK_no bsc).resolve_left qsc
              have qsch : decide (72057594037927936 < sc) = true := decide_eq_true qscg
              go_wp2
              go_ret
              exact ⟨by first | rfl | (rw [hno]; rfl), hb2⟩
          | true =>
            have qsc : ¬ sc < 0 := by have := fOK_yes bsc; omega
            have qscd : decide (sc < 0) = false := decide_eq_false qsc
            have qscg : ¬ 72057594037927936 < sc := by have := fOK_yes bsc; omega
            have qsch : decide (72057594037927936 < sc) = false := decide_eq_false qscg
            go_wp2_with fail
            rw [rounds_succ]
            cases bse : fOK se with
            | false =>
              have hno : flowB re rt cm sh sc se = false := by unfold flowB; rw [bre, brt, bcm, bsh, bsc, bse]; rfl
              by_cases qse : se < 0
              · have qsed : decide (se < 0) = true := decide_eq_true qse
                go_wp2
                go_ret
                exact ⟨by first | rfl | (rw [hno]; rfl), hb2⟩
              · have qsed : decide (se < 0) = false := decide_eq_false qse
                have qseg : 72057594037927936 < se := (fOK_no bse).resolve_left qse
                have qseh : decide (72057594037927936 < se) = true := decide_eq_true qseg
                go_wp2
                go_ret
                exact ⟨by first | rfl | (rw [hno]; rfl), hb2⟩
            | true =>
              have qse : ¬ se < 0 := by have := fOK_yes bse; omega
              have qsed : decide (se < 0) = false := decide_eq_false qse
              have qseg : ¬ 72057594037927936 < se := by have := fOK_yes bse; omega
              have qseh : decide (72057594037927936 < se) = false := decide_eq_false qseg
              go_wp2_with fail
              rw [rounds_succ]
              have hyes : flowB re rt cm sh sc se = true := by unfold flowB; rw [bre, brt, bcm, bsh, bsc, bse]; rfl
              go_wp2
              go_ret
              exact ⟨by first | rfl | (rw [hyes]; rfl), hb2⟩

theorem levels_any (fr he pi sa : Int) (w : World) : Calls Tryz.prog 41 #[.agg #[.int .i64 fr, .int .i64 he, .int .i64 pi, .int .i64 sa]] w fun e w' => e = .returned (.slice (some ⟨w.heap.size + 1, 0, none⟩) 4 4) ∧ w' = (w.alloc (.cells #[.int .i64 fr, .int .i64 he, .int .i64 pi, .int .i64 sa] 40)).alloc (.cells #[.int .i64 fr, .int .i64 he, .int .i64 pi, .int .i64 sa] 3) := by
  go_enter Tryz.func41, Tryz.ntmps41
  go_wp2
  go_ret
  exact ⟨rfl, rfl⟩

set_option maxRecDepth 100000 in
set_option maxHeartbeats 6400000 in
theorem balanced_any (fr he pi sa re rt cn cm sh sc se : Int) (w : World) : Calls Tryz.prog 16 #[.agg #[.int .i64 fr, .int .i64 he, .int .i64 pi, .int .i64 sa], .agg #[.int .i64 re, .int .i64 rt, .int .i64 cn, .int .i64 cm, .int .i64 sh, .int .i64 sc, .int .i64 se]] w fun e w' => e = .returned (.bool (balB fr he pi sa re rt cn cm sh sc se)) ∧ Below w.heap.size w w' := by
  have hb2 := ((Below.refl w.heap.size w).alloc (Nat.le_refl _) (.cells #[.int .i64 fr, .int .i64 he, .int .i64 pi, .int .i64 sa] 40)).alloc (by simp) (.cells #[.int .i64 re, .int .i64 rt, .int .i64 cn, .int .i64 cm, .int .i64 sh, .int .i64 sc, .int .i64 se] 42)
  have hb3 := (hb2.alloc hb2.size (.cells #[.int .i64 fr, .int .i64 he, .int .i64 pi, .int .i64 sa] 40)).alloc (by simp; omega) (.cells #[.int .i64 fr, .int .i64 he, .int .i64 pi, .int .i64 sa] 3)
  have hbL : Blk ((((w.alloc (.cells #[.int .i64 fr, .int .i64 he, .int .i64 pi, .int .i64 sa] 40)).alloc (.cells #[.int .i64 re, .int .i64 rt, .int .i64 cn, .int .i64 cm, .int .i64 sh, .int .i64 sc, .int .i64 se] 42)).alloc (.cells #[.int .i64 fr, .int .i64 he, .int .i64 pi, .int .i64 sa] 40)).alloc (.cells #[.int .i64 fr, .int .i64 he, .int .i64 pi, .int .i64 sa] 3)) w.heap.size 40 #[.int .i64 fr, .int .i64 he, .int .i64 pi, .int .i64 sa] := (((Blk.new w 40 #[.int .i64 fr, .int .i64 he, .int .i64 pi, .int .i64 sa]).alloc _).alloc _).alloc _
  have hbF : Blk ((((w.alloc (.cells #[.int .i64 fr, .int .i64 he, .int .i64 pi, .int .i64 sa] 40)).alloc (.cells #[.int .i64 re, .int .i64 rt, .int .i64 cn, .int .i64 cm, .int .i64 sh, .int .i64 sc, .int .i64 se] 42)).alloc (.cells #[.int .i64 fr, .int .i64 he, .int .i64 pi, .int .i64 sa] 40)).alloc (.cells #[.int .i64 fr, .int .i64 he, .int .i64 pi, .int .i64 sa] 3)) (w.heap.size + 1) 42 #[.int .i64 re, .int .i64 rt, .int .i64 cn, .int .i64 cm, .int .i64 sh, .int .i64 sc, .int .i64 se] := by
    have := Blk.new (w.alloc (.cells #[.int .i64 fr, .int .i64 he, .int .i64 pi, .int .i64 sa] 40)) 42 #[.int .i64 re, .int .i64 rt, .int .i64 cn, .int .i64 cm, .int .i64 sh, .int .i64 sc, .int .i64 se]
    rw [World.size_alloc] at this
    exact (this.alloc _).alloc _
  go_enter Tryz.func16, Tryz.ntmps16
  go_wp2_with fail
  refine (levels_any fr he pi sa _).mono ?_
  rintro e w' ⟨rfl, rfl⟩
  go_wp2_with fail
  refine wp_loop_rounds 7 ?_
  rw [rounds_succ]
  go_wp2_with fail
  refine (may_any fr _).mono ?_
  rintro e w' ⟨rfl, hww⟩
  subst w'
  cases bfr : cMay fr with
  | false =>
    have hno : levB fr he pi sa = false := by unfold levB; rw [bfr]; rfl
    have hbal : balB fr he pi sa re rt cn cm sh sc se = false := by unfold balB; rw [hno]; rfl
    go_wp2
    go_ret
    exact ⟨by first | rfl | (rw [hbal]; rfl), hb3⟩
  | true =>
    go_wp2_with fail
    rw [rounds_succ]
    go_wp2_with fail
    refine (may_any he _).mono ?_
    rintro e w' ⟨rfl, hww⟩
    subst w'
    cases bhe : cMay he with
    | false =>
      have hno : levB fr he pi sa = false := by unfold levB; rw [bfr, bhe]; rfl
      have hbal : balB fr he pi sa re rt cn cm sh sc se = false := by unfold balB; rw [hno]; rfl
      go_wp2
      go_ret
      exact ⟨by first | rfl | (rw [hbal]; rfl), hb3⟩
    | true =>
      go_wp2_with fail
      rw [rounds_succ]
      go_wp2_with fail
      refine (may_any pi _).mono ?_
      rintro e w' ⟨rfl, hww⟩
      subst w'
      cases bpi : cMay pi with
      | false =>
        have hno : levB fr he pi sa = false := by unfold levB; rw [bfr, bhe, bpi]; rfl
        have hbal : balB fr he pi sa re rt cn cm sh sc se = false := by unfold balB; rw [hno]; rfl
        go_wp2
        go_ret
        exact ⟨by first | rfl | (rw [hbal]; rfl), hb3⟩
      | true =>
        go_wp2_with fail
        rw [rounds_succ]
        go_wp2_with fail
        refine (may_any sa _).mono ?_
        rintro e w' ⟨rfl, hww⟩
        subst w'
        cases bsa : cMay sa with
        | false =>
          have hno : levB fr he pi sa = false := by unfold levB; rw [bfr, bhe, bpi, bsa]; rfl
          have hbal : balB fr he pi sa re rt cn cm sh sc se = false := by unfold balB; rw [hno]; rfl
          go_wp2
          go_ret
          exact ⟨by first | rfl | (rw [hbal]; rfl), hb3⟩
        | true =>
          go_wp2_with fail
          rw [rounds_succ]
          have hlev : levB fr he pi sa = true := by unfold levB; rw [bfr, bhe, bpi, bsa]; rfl
          go_wp2_with fail
          refine (mayFlow_any re rt cn cm sh sc se _).mono ?_
          rintro e w5 ⟨rfl, hx5⟩
          have hb5 := hb3.trans (hx5.mono hb3.size)
          have hbL5 := hbL.kept (Keep.of_below hx5) (fun h => absurd hbL.lt (Nat.not_lt.2 h))
          have hbF5 := hbF.kept (Keep.of_below hx5) (fun h => absurd hbF.lt (Nat.not_lt.2 h))
          have cl0 := hbL5.cell 0
          simp at cl0
          have cl1 := hbL5.cell 1
          simp at cl1
          have cl2 := hbL5.cell 2
          simp at cl2
          have cl3 := hbL5.cell 3
          simp at cl3
          have cf0 := hbF5.cell 0
          simp at cf0
          have cf1 := hbF5.cell 1
          simp at cf1
          have cf2 := hbF5.cell 2
          simp at cf2
          have cf3 := hbF5.cell 3
          simp at cf3
          have cf4 := hbF5.cell 4
          simp at cf4
          have cf5 := hbF5.cell 5
          simp at cf5
          have cf6 := hbF5.cell 6
          simp at cf6
          cases bF : flowB re rt cm sh sc se with
          | false =>
            have hbal : balB fr he pi sa re rt cn cm sh sc se = false := by unfold balB; rw [hlev, bF]; rfl
            go_wp2
            go_ret
            exact ⟨by first | rfl | (rw [hbal]; rfl), hb5⟩
          | true =>
            cases bc : decide (-576460752303423488 ≤ cn) with
            | false =>
              have hbal : balB fr he pi sa re rt cn cm sh sc se = false := by unfold balB; rw [hlev, bF, bc]; rfl
              have qc : cn < -576460752303423488 := by have := of_decide_eq_false bc; omega
              go_wp2
              go_ret
              exact ⟨by first | rfl | (rw [hbal]; rfl), hb5⟩
            | true =>
              have qc : ¬ cn < -576460752303423488 := by have := of_decide_eq_true bc; omega
              have qcd : decide (cn < -576460752303423488) = false := decide_eq_false qc
              cases bg : decide (cn ≤ 576460752303423488) with
              | false =>
                have hbal : balB fr he pi sa re rt cn cm sh sc se = false := by unfold balB; rw [hlev, bF, bc, bg]; rfl
                have qg : 576460752303423488 < cn := by have := of_decide_eq_false bg; omega
                go_wp2
                go_ret
                exact ⟨by first | rfl | (rw [hbal]; rfl), hb5⟩
              | true =>
                have qg : ¬ 576460752303423488 < cn := by have := of_decide_eq_true bg; omega
                have qgd : decide (576460752303423488 < cn) = false := decide_eq_false qg
                obtain ⟨z, hz⟩ : ∃ z, decide (fr + he + pi + sa = re + rt + cn + cm - sh - sc - se) = z := ⟨_, rfl⟩
                have hbal : balB fr he pi sa re rt cn cm sh sc se = z := by unfold balB; rw [hlev, bF, bc, bg, hz]; rfl
                have hff := flowB_yes bF
                obtain ⟨⟨r1, r2⟩, ⟨r3, r4⟩, ⟨r5, r6⟩, ⟨r7, r8⟩, ⟨r9, r10⟩, ⟨r11, r12⟩⟩ := hff
                obtain ⟨u0, x0⟩ := cMay_yes bfr
                obtain ⟨u1, x1⟩ := cMay_yes bhe
                obtain ⟨u2, x2⟩ := cMay_yes bpi
                obtain ⟨u3, x3⟩ := cMay_yes bsa
                have hz2 : ((fr + he + pi + sa) == (re + rt + cn + cm - (sh + sc + se))) = z := by
                  rw [← hz]
                  by_cases h : fr + he + pi + sa = re + rt + cn + cm - sh - sc - se
                  · rw [decide_eq_true h]
                    exact beq_iff_eq.2 (by omega)
                  · rw [decide_eq_false h]
                    exact beq_eq_false_iff_ne.2 (by omega)
                have hz3 : decide ((fr + he + pi + sa) = (re + rt + cn + cm - (sh + sc + se))) = z := by
                  rw [← hz2]
                  by_cases h : (fr + he + pi + sa) = (re + rt + cn + cm - (sh + sc + se)) <;> simp [h]
                have y0 : wrap64 (fr + he) = fr + he := by unfold wrap64; omega
                have y1 : wrap64 (fr + he + pi) = fr + he + pi := by unfold wrap64; omega
                have y2 : wrap64 (fr + he + pi + sa) = fr + he + pi + sa := by unfold wrap64; omega
                have y3 : wrap64 (re + rt) = re + rt := by unfold wrap64; omega
                have y4 : wrap64 (re + rt + cn) = re + rt + cn := by unfold wrap64; omega
                have y5 : wrap64 (re + rt + cn + cm) = re + rt + cn + cm := by unfold wrap64; omega
                have y6 : wrap64 (sh + sc) = sh + sc := by unfold wrap64; omega
                have y7 : wrap64 (sh + sc + se) = sh + sc + se := by unfold wrap64; omega
                have y8 : wrap64 (re + rt + cn + cm - (sh + sc + se)) = re + rt + cn + cm - (sh + sc + se) := by unfold wrap64; omega
                go_wp2
                go_ret
                refine ⟨?_, hb5⟩
                rw [hbal]
                first | rfl | exact congrArg (fun b => Ending.returned (Value.bool b)) hz2 | exact congrArg (fun b => Ending.returned (Value.bool b)) hz3
end
section
open Go.RowKit Go.Maps Go.Shelf
set_option linter.unusedVariables false
set_option linter.unusedSimpArgs false

theorem ref_cmay (n : Int) (w : World) : Calls Tryz.prog 47 #[.int .i64 n] w fun e w' => e = .returned (.bool (cMay n)) ∧ w' = w := refcmay_any n w

set_option maxRecDepth 100000 in
set_option maxHeartbeats 6400000 in
theorem each_any (fr he pi sa re rt cn cm sh sc se : Int) (w : World) : Calls Tryz.prog 45 #[.agg #[.int .i64 fr, .int .i64 he, .int .i64 pi, .int .i64 sa], .agg #[.int .i64 re, .int .i64 rt, .int .i64 cn, .int .i64 cm, .int .i64 sh, .int .i64 sc, .int .i64 se]] w fun e w' => e = .returned (.bool (levB fr he pi sa && flowB re rt cm sh sc se)) ∧ Below w.heap.size w w' := by
  have hb2 := ((Below.refl w.heap.size w).alloc (Nat.le_refl _) (.cells #[.int .i64 fr, .int .i64 he, .int .i64 pi, .int .i64 sa] 40)).alloc (by simp) (.cells #[.int .i64 re, .int .i64 rt, .int .i64 cn, .int .i64 cm, .int .i64 sh, .int .i64 sc, .int .i64 se] 42)
  have hb3 := hb2.alloc hb2.size (.cells #[.int .i64 fr, .int .i64 he, .int .i64 pi, .int .i64 sa] 3)
  have hb4 := hb3.alloc hb3.size (.cells #[.int .i64 re, .int .i64 rt, .int .i64 cm, .int .i64 sh, .int .i64 sc, .int .i64 se] 3)
  go_enter Tryz.func45, Tryz.ntmps45
  go_wp2_with fail
  refine wp_loop_rounds 7 ?_
  rw [rounds_succ]
  go_wp2_with fail
  refine (ref_cmay fr _).mono ?_
  rintro e w' ⟨rfl, hww⟩
  subst w'
  cases bfr : cMay fr with
  | false =>
    have hno : levB fr he pi sa = false := by unfold levB; rw [bfr]; rfl
    have hall : (levB fr he pi sa && flowB re rt cm sh sc se) = false := by rw [hno]; rfl
    go_wp2
    go_ret
    exact ⟨by first | rfl | (rw [hall]; rfl), hb3⟩
  | true =>
    go_wp2_with fail
    rw [rounds_succ]
    go_wp2_with fail
    refine (ref_cmay he _).mono ?_
    rintro e w' ⟨rfl, hww⟩
    subst w'
    cases bhe : cMay he with
    | false =>
      have hno : levB fr he pi sa = false := by unfold levB; rw [bfr, bhe]; rfl
      have hall : (levB fr he pi sa && flowB re rt cm sh sc se) = false := by rw [hno]; rfl
      go_wp2
      go_ret
      exact ⟨by first | rfl | (rw [hall]; rfl), hb3⟩
    | true =>
      go_wp2_with fail
      rw [rounds_succ]
      go_wp2_with fail
      refine (ref_cmay pi _).mono ?_
      rintro e w' ⟨rfl, hww⟩
      subst w'
      cases bpi : cMay pi with
      | false =>
        have hno : levB fr he pi sa = false := by unfold levB; rw [bfr, bhe, bpi]; rfl
        have hall : (levB fr he pi sa && flowB re rt cm sh sc se) = false := by rw [hno]; rfl
        go_wp2
        go_ret
        exact ⟨by first | rfl | (rw [hall]; rfl), hb3⟩
      | true =>
        go_wp2_with fail
        rw [rounds_succ]
        go_wp2_with fail
        refine (ref_cmay sa _).mono ?_
        rintro e w' ⟨rfl, hww⟩
        subst w'
        cases bsa : cMay sa with
        | false =>
          have hno : levB fr he pi sa = false := by unfold levB; rw [bfr, bhe, bpi, bsa]; rfl
          have hall : (levB fr he pi sa && flowB re rt cm sh sc se) = false := by rw [hno]; rfl
          go_wp2
          go_ret
          exact ⟨by first | rfl | (rw [hall]; rfl), hb3⟩
        | true =>
          go_wp2_with fail
          rw [rounds_succ]
          have hlev : levB fr he pi sa = true := by unfold levB; rw [bfr, bhe, bpi, bsa]; rfl
          go_wp2_with fail
          refine wp_loop_rounds 9 ?_
          rw [rounds_succ]
          cases bre : fOK re with
          | false =>
            have hno : flowB re rt cm sh sc se = false := by unfold flowB; rw [bre]; rfl
            by_cases qre : re < 0
            · have qred : decide (re < 0) = true := decide_eq_true qre
              have hall : (levB fr he pi sa && flowB re rt cm sh sc se) = false := by rw [hlev, hno]; rfl
              go_wp2
              go_ret
              exact ⟨by first | rfl | (rw [hall]; rfl), hb4⟩
            · have qred : decide (re < 0) = false := decide_eq_false qre
              have qreg : 72057594037927936 < re := (fOK_no bre).resolve_left qre
              have qreh : decide (72057594037927936 < re) = true := decide_eq_true qreg
              have hall : (levB fr he pi sa && flowB re rt cm sh sc se) = false := by rw [hlev, hno]; rfl
              go_wp2
              go_ret
              exact ⟨by first | rfl | (rw [hall]; rfl), hb4⟩
          | true =>
            have qre : ¬ re < 0 := by have := fOK_yes bre; omega
            have qred : decide (re < 0) = false := decide_eq_false qre
            have qreg : ¬ 72057594037927936 < re := by have := fOK_yes bre; omega
            have qreh : decide (72057594037927936 < re) = false := decide_eq_false qreg
            go_wp2_with fail
            rw [rounds_succ]
            cases brt : fOK rt with
            | false =>
              have hno : flowB re rt cm sh sc se = false := by unfold flowB; rw [bre, brt]; rfl
              by_cases qrt : rt < 0
              · have qrtd : decide (rt < 0) = true := decide_eq_true qrt
                have hall : (levB fr he pi sa && flowB re rt cm sh sc se) = false := by rw [hlev, hno]; rfl
                go_wp2
                go_ret
                exact ⟨by first | rfl | (rw [hall]; rfl), hb4⟩
              · have qrtd : decide (rt < 0) = false := decide_eq_false qrt
                have qrtg : 72057594037927936 < rt := (fOK_no brt).resolve_left qrt
                have qrth : decide (72057594037927936 < rt) = true := decide_eq_true qrtg
                have hall : (levB fr he pi sa && flowB re rt cm sh sc se) = false := by rw [hlev, hno]; rfl
                go_wp2
                go_ret
                exact ⟨by first | rfl | (rw [hall]; rfl), hb4⟩
            | true =>
              have qrt : ¬ rt < 0 := by have := fOK_yes brt; omega
              have qrtd : decide (rt < 0) = false := decide_eq_false qrt
              have qrtg : ¬ 72057594037927936 < rt := by have := fOK_yes brt; omega
              have qrth : decide (72057594037927936 < rt) = false := decide_eq_false qrtg
              go_wp2_with fail
              rw [rounds_succ]
              cases bcm : fOK cm with
              | false =>
                have hno : flowB re rt cm sh sc se = false := by unfold flowB; rw [bre, brt, bcm]; rfl
                by_cases qcm : cm < 0
                · have qcmd : decide (cm < 0) = true := decide_eq_true qcm
                  have hall : (levB fr he pi sa && flowB re rt cm sh sc se) = false := by rw [hlev, hno]; rfl
                  go_wp2
                  go_ret
                  exact ⟨by first | rfl | (rw [hall]; rfl), hb4⟩
                · have qcmd : decide (cm < 0) = false := decide_eq_false qcm
                  have qcmg : 72057594037927936 < cm := (fOK_no bcm).resolve_left qcm
                  have qcmh : decide (72057594037927936 < cm) = true := decide_eq_true qcmg
                  have hall : (levB fr he pi sa && flowB re rt cm sh sc se) = false := by rw [hlev, hno]; rfl
                  go_wp2
                  go_ret
                  exact ⟨by first | rfl | (rw [hall]; rfl), hb4⟩
              | true =>
                have qcm : ¬ cm < 0 := by have := fOK_yes bcm; omega
                have qcmd : decide (cm < 0) = false := decide_eq_false qcm
                have qcmg : ¬ 72057594037927936 < cm := by have := fOK_yes bcm; omega
                have qcmh : decide (72057594037927936 < cm) = false := decide_eq_false qcmg
                go_wp2_with fail
                rw [rounds_succ]
                cases bsh : fOK sh with
                | false =>
                  have hno : flowB re rt cm sh sc se = false := by unfold flowB; rw [bre, brt, bcm, bsh]; rfl
                  by_cases qsh : sh < 0
                  · have qshd : decide (sh < 0) = true := decide_eq_true qsh
                    have hall : (levB fr he pi sa && flowB re rt cm sh sc se) = false := by rw [hlev, hno]; rfl
                    go_wp2
                    go_ret
                    exact ⟨by first | rfl | (rw [hall]; rfl), hb4⟩
                  · have qshd : decide (sh < 0) = false := decide_eq_false qsh
                    have qshg : 72057594037927936 < sh := (fOK_no bsh).resolve_left qsh
                    have qshh : decide (72057594037927936 < sh) = true := decide_eq_true qshg
                    have hall : (levB fr he pi sa && flowB re rt cm sh sc se) = false := by rw [hlev, hno]; rfl
                    go_wp2
                    go_ret
                    exact ⟨by first | rfl | (rw [hall]; rfl), hb4⟩
                | true =>
                  have qsh : ¬ sh < 0 := by have := fOK_yes bsh; omega
                  have qshd : decide (sh < 0) = false := decide_eq_false qsh
                  have qshg : ¬ 72057594037927936 < sh := by have := fOK_yes bsh; omega
                  have qshh : decide (72057594037927936 < sh) = false := decide_eq_false qshg
                  go_wp2_with fail
                  rw [rounds_succ]
                  cases bsc : fOK sc with
                  | false =>
                    have hno : flowB re rt cm sh sc se = false := by unfold flowB; rw [bre, brt, bcm, bsh, bsc]; rfl
                    by_cases qsc : sc < 0
                    · have qscd : decide (sc < 0) = true := decide_eq_true qsc
                      have hall : (levB fr he pi sa && flowB re rt cm sh sc se) = false := by rw [hlev, hno]; rfl
                      go_wp2
                      go_ret
                      exact ⟨by first | rfl | (rw [hall]; rfl), hb4⟩
                    · have qscd : decide (sc < 0) = false := decide_eq_false qsc
                      have qscg : 72057594037927936 < sc := (fOK_no bsc).resolve_left qsc
                      have qsch : decide (72057594037927936 < sc) = true := decide_eq_true qscg
                      have hall : (levB fr he pi sa && flowB re rt cm sh sc se) = false := by rw [hlev, hno]; rfl
                      go_wp2
                      go_ret
                      exact ⟨by first | rfl | (rw [hall]; rfl), hb4⟩
                  | true =>
                    have qsc : ¬ sc < 0 := by have := fOK_yes bsc; omega
                    have qscd : decide (sc < 0) = false := decide_eq_false qsc
                    have qscg : ¬ 72057594037927936 < sc := by have := fOK_yes bsc; omega
                    have qsch : decide (72057594037927936 < sc) = false := decide_eq_false qscg
                    go_wp2_with fail
                    rw [rounds_succ]
                    cases bse : fOK se with
                    | false =>
                      have hno : flowB re rt cm sh sc se = false := by unfold flowB; rw [bre, brt, bcm, bsh, bsc, bse]; rfl
                      by_cases qse : se < 0
                      · have qsed : decide (se < 0) = true := decide_eq_true qse
                        have hall : (levB fr he pi sa && flowB re rt cm sh sc se) = false := by rw [hlev, hno]; rfl
                        go_wp2
                        go_ret
                        exact ⟨by first | rfl | (rw [hall]; rfl), hb4⟩
                      · have qsed : decide (se < 0) = false := decide_eq_false qse
                        have qseg : 72057594037927936 < se := (fOK_no bse).resolve_left qse
                        have qseh : decide (72057594037927936 < se) = true := decide_eq_true qseg
                        have hall : (levB fr he pi sa && flowB re rt cm sh sc se) = false := by rw [hlev, hno]; rfl
                        go_wp2
                        go_ret
                        exact ⟨by first | rfl | (rw [hall]; rfl), hb4⟩
                    | true =>
                      have qse : ¬ se < 0 := by have := fOK_yes bse; omega
                      have qsed : decide (se < 0) = false := decide_eq_false qse
                      have qseg : ¬ 72057594037927936 < se := by have := fOK_yes bse; omega
                      have qseh : decide (72057594037927936 < se) = false := decide_eq_false qseg
                      go_wp2_with fail
                      rw [rounds_succ]
                      have hyes : flowB re rt cm sh sc se = true := by unfold flowB; rw [bre, brt, bcm, bsh, bsc, bse]; rfl
                      have hall : (levB fr he pi sa && flowB re rt cm sh sc se) = true := by rw [hlev, hyes]; rfl
                      go_wp2
                      go_ret
                      exact ⟨by first | rfl | (rw [hall]; rfl), hb4⟩

theorem sum_lv (fr he pi sa : Int) (h1 : 0 ≤ fr ∧ fr ≤ 1099511627776) (h2 : 0 ≤ he ∧ he ≤ 1099511627776) (h3 : 0 ≤ pi ∧ pi ≤ 1099511627776) (h4 : 0 ≤ sa ∧ sa ≤ 1099511627776) (w : World) :
    Calls Tryz.prog 46 #[.agg #[.int .i64 fr, .int .i64 he, .int .i64 pi, .int .i64 sa]] w fun e w' => e = .returned (.int .i64 (fr + he + pi + sa)) ∧ Below w.heap.size w w' := by
  have y0 : wrap64 (fr + he) = fr + he := by unfold wrap64; omega
  have y1 : wrap64 (fr + he + pi) = fr + he + pi := by unfold wrap64; omega
  have y2 : wrap64 (fr + he + pi + sa) = fr + he + pi + sa := by unfold wrap64; omega
  have hb := (Below.refl w.heap.size w).alloc (Nat.le_refl _) (.cells #[.int .i64 fr, .int .i64 he, .int .i64 pi, .int .i64 sa] 40)
  go_enter Tryz.func46, Tryz.ntmps46
  go_wp2
  go_ret
  exact ⟨by first | rfl | simp [y0, y1, y2], hb⟩
end
section
open Go.RowKit Go.Maps Go.Shelf
set_option linter.unusedVariables false
set_option linter.unusedSimpArgs false
theorem wrapEq (x : Int) : IntKind.i64.wrap x = wrap64 x := by
  rw [IntKind.wrap_i64, wrap64]
set_option maxRecDepth 100000 in
set_option maxHeartbeats 6400000 in
theorem rbalanced_any (fr he pi sa re rt cn cm sh sc se : Int) (w : World) : Calls Tryz.prog 21 #[.agg #[.int .i64 fr, .int .i64 he, .int .i64 pi, .int .i64 sa], .agg #[.int .i64 re, .int .i64 rt, .int .i64 cn, .int .i64 cm, .int .i64 sh, .int .i64 sc, .int .i64 se]] w fun e w' => e = .returned (.bool (balB fr he pi sa re rt cn cm sh sc se)) ∧ Below w.heap.size w w' := by
  have hb2 := ((Below.refl w.heap.size w).alloc (Nat.le_refl _) (.cells #[.int .i64 fr, .int .i64 he, .int .i64 pi, .int .i64 sa] 40)).alloc (by simp) (.cells #[.int .i64 re, .int .i64 rt, .int .i64 cn, .int .i64 cm, .int .i64 sh, .int .i64 sc, .int .i64 se] 42)
  have hbL : Blk ((w.alloc (.cells #[.int .i64 fr, .int .i64 he, .int .i64 pi, .int .i64 sa] 40)).alloc (.cells #[.int .i64 re, .int .i64 rt, .int .i64 cn, .int .i64 cm, .int .i64 sh, .int .i64 sc, .int .i64 se] 42)) w.heap.size 40 #[.int .i64 fr, .int .i64 he, .int .i64 pi, .int .i64 sa] := (Blk.new w 40 #[.int .i64 fr, .int .i64 he, .int .i64 pi, .int .i64 sa]).alloc _
  have hbF : Blk ((w.alloc (.cells #[.int .i64 fr, .int .i64 he, .int .i64 pi, .int .i64 sa] 40)).alloc (.cells #[.int .i64 re, .int .i64 rt, .int .i64 cn, .int .i64 cm, .int .i64 sh, .int .i64 sc, .int .i64 se] 42)) (w.heap.size + 1) 42 #[.int .i64 re, .int .i64 rt, .int .i64 cn, .int .i64 cm, .int .i64 sh, .int .i64 sc, .int .i64 se] := by
    have := Blk.new (w.alloc (.cells #[.int .i64 fr, .int .i64 he, .int .i64 pi, .int .i64 sa] 40)) 42 #[.int .i64 re, .int .i64 rt, .int .i64 cn, .int .i64 cm, .int .i64 sh, .int .i64 sc, .int .i64 se]
    rw [World.size_alloc] at this
    exact this
  have hB : balB fr he pi sa re rt cn cm sh sc se = ((levB fr he pi sa && flowB re rt cm sh sc se) && (decide (-576460752303423488 ≤ cn) && (decide (cn ≤ 576460752303423488) && decide (fr + he + pi + sa = re + rt + cn + cm - sh - sc - se)))) := by unfold balB; rw [Bool.and_assoc]
  go_enter Tryz.func21, Tryz.ntmps21
  go_wp2_with fail
  refine (each_any fr he pi sa re rt cn cm sh sc se _).mono ?_
  rintro e w5 ⟨rfl, hx5⟩
  have hb5 := hb2.trans (hx5.mono hb2.size)
  have hbL5 := hbL.kept (Keep.of_below hx5) (fun h => absurd hbL.lt (Nat.not_lt.2 h))
  have hbF5 := hbF.kept (Keep.of_below hx5) (fun h => absurd hbF.lt (Nat.not_lt.2 h))
  have cla0 := hbL5.cell 0
  simp at cla0
  have cla1 := hbL5.cell 1
  simp at cla1
  have cla2 := hbL5.cell 2
  simp at cla2
  have cla3 := hbL5.cell 3
  simp at cla3
  have cfa0 := hbF5.cell 0
  simp at cfa0
  have cfa1 := hbF5.cell 1
  simp at cfa1
  have cfa2 := hbF5.cell 2
  simp at cfa2
  have cfa3 := hbF5.cell 3
  simp at cfa3
  have cfa4 := hbF5.cell 4
  simp at cfa4
  have cfa5 := hbF5.cell 5
  simp at cfa5
  have cfa6 := hbF5.cell 6
  simp at cfa6
  cases bE : (levB fr he pi sa && flowB re rt cm sh sc se) with
  | false =>
    have hbal : balB fr he pi sa re rt cn cm sh sc se = false := by rw [hB, bE]; rfl
    go_wp2
    go_ret
    exact ⟨by first | rfl | (rw [hbal]; rfl), hb5⟩
  | true =>
  cases bc : decide (-576460752303423488 ≤ cn) with
  | false =>
    have hbal : balB fr he pi sa re rt cn cm sh sc se = false := by rw [hB, bE, bc]; rfl
    have qc : cn < -576460752303423488 := by have := of_decide_eq_false bc; omega
    go_wp2
    go_ret
    exact ⟨by first | rfl | (rw [hbal]; rfl), hb5⟩
  | true =>
    have qc : ¬ cn < -576460752303423488 := by have := of_decide_eq_true bc; omega
    have qcd : decide (cn < -576460752303423488) = false := decide_eq_false qc
    cases bg : decide (cn ≤ 576460752303423488) with
    | false =>
      have hbal : balB fr he pi sa re rt cn cm sh sc se = false := by rw [hB, bE, bc, bg]; rfl
      have qg : 576460752303423488 < cn := by have := of_decide_eq_false bg; omega
      go_wp2
      go_ret
      exact ⟨by first | rfl | (rw [hbal]; rfl), hb5⟩
    | true =>
      have qg : ¬ 576460752303423488 < cn := by have := of_decide_eq_true bg; omega
      have qgd : decide (576460752303423488 < cn) = false := decide_eq_false qg
      obtain ⟨z, hz⟩ : ∃ z, decide (fr + he + pi + sa = re + rt + cn + cm - sh - sc - se) = z := ⟨_, rfl⟩
      have hbal : balB fr he pi sa re rt cn cm sh sc se = z := by rw [hB, bE, bc, bg, hz]; rfl
      rw [Bool.and_eq_true] at bE
      have hlv := bE.1
      unfold levB at hlv
      simp only [Bool.and_eq_true] at hlv
      obtain ⟨⟨u0, x0⟩, ⟨u1, x1⟩, ⟨u2, x2⟩, ⟨u3, x3⟩⟩ : (0 ≤ fr ∧ fr ≤ 1099511627776) ∧ (0 ≤ he ∧ he ≤ 1099511627776) ∧ (0 ≤ pi ∧ pi ≤ 1099511627776) ∧ (0 ≤ sa ∧ sa ≤ 1099511627776) := ⟨cMay_yes hlv.1, cMay_yes hlv.2.1, cMay_yes hlv.2.2.1, cMay_yes hlv.2.2.2⟩
      obtain ⟨⟨r1, r2⟩, ⟨r3, r4⟩, ⟨r5, r6⟩, ⟨r7, r8⟩, ⟨r9, r10⟩, ⟨r11, r12⟩⟩ := flowB_yes bE.2
      have hz2 : ((fr + he + pi + sa) == (re + rt + cn + cm - sh - sc - se)) = z := by
        rw [← hz]
        by_cases h : fr + he + pi + sa = re + rt + cn + cm - sh - sc - se <;> simp [h]
      have y0 : wrap64 (re + rt) = re + rt := by unfold wrap64; omega
      have y1 : wrap64 (re + rt + cn) = re + rt + cn := by unfold wrap64; omega
      have y2 : wrap64 (re + rt + cn + cm) = re + rt + cn + cm := by unfold wrap64; omega
      have y3 : wrap64 (re + rt + cn + cm - sh) = re + rt + cn + cm - sh := by unfold wrap64; omega
      have y4 : wrap64 (re + rt + cn + cm - sh - sc) = re + rt + cn + cm - sh - sc := by unfold wrap64; omega
      have y5 : wrap64 (re + rt + cn + cm - sh - sc - se) = re + rt + cn + cm - sh - sc - se := by unfold wrap64; omega
      have hz4 : ((fr + he + pi + sa) == IntKind.i64.wrap (IntKind.i64.wrap (IntKind.i64.wrap (IntKind.i64.wrap (IntKind.i64.wrap (IntKind.i64.wrap (re + rt) + cn) + cm) - sh) - sc) - se)) = z := by
        simp only [wrapEq, y0, y1, y2, y3, y4, y5]
        exact hz2
      go_wp2_with fail
      refine wp_region_held_drew (S := (fun w' => w'.cell? ⟨w.heap.size, 0, none⟩ = some (.int .i64 fr) ∧ w'.cell? ⟨w.heap.size, 1, none⟩ = some (.int .i64 he) ∧ w'.cell? ⟨w.heap.size, 2, none⟩ = some (.int .i64 pi) ∧ w'.cell? ⟨w.heap.size, 3, none⟩ = some (.int .i64 sa) ∧ w'.cell? ⟨w.heap.size + 1, 0, none⟩ = some (.int .i64 re) ∧ w'.cell? ⟨w.heap.size + 1, 1, none⟩ = some (.int .i64 rt) ∧ w'.cell? ⟨w.heap.size + 1, 2, none⟩ = some (.int .i64 cn) ∧ w'.cell? ⟨w.heap.size + 1, 3, none⟩ = some (.int .i64 cm) ∧ w'.cell? ⟨w.heap.size + 1, 4, none⟩ = some (.int .i64 sh) ∧ w'.cell? ⟨w.heap.size + 1, 5, none⟩ = some (.int .i64 sc) ∧ w'.cell? ⟨w.heap.size + 1, 6, none⟩ = some (.int .i64 se))) (by kernel_rfl) ⟨cla0, cla1, cla2, cla3, cfa0, cfa1, cfa2, cfa3, cfa4, cfa5, cfa6⟩ (fun hHeld => ?_)
      refine wpAnyH_take (i := 0) (oi := ?oi0) (v := ?v0) ?hi0 (by kernel_rfl) (by kernel_rfl) (by kernel_rfl) ?hq0 (Or.inl ⟨?hw0, ?hy0⟩) (by assumption) ?rest0
      case hi0 => (simp only [List.getElem?_toArray, List.getElem?_cons_succ, List.getElem?_cons_zero]; rfl)
      case hq0 => exact fun _ _ _ h => h
      case hw0 => rfl
      case hy0 => (intro w hSw; (try dsimp only at hSw); go_simp <;> with_reducible rfl)
      try simp only [Act.put, List.setIfInBounds_toArray, List.set_cons_zero, List.set_cons_succ]
      refine wpAnyH_take (i := 2) (oi := ?oi2) (v := ?v2) ?hi2 (by kernel_rfl) (by kernel_rfl) (by kernel_rfl) ?hq2 (Or.inl ⟨?hw2, ?hy2⟩) (by assumption) ?rest2
      case hi2 => (simp only [List.getElem?_toArray, List.getElem?_cons_succ, List.getElem?_cons_zero]; rfl)
      case hq2 => exact fun _ _ _ h => h
      case hw2 => rfl
      case hy2 => (intro w hSw; (try dsimp only at hSw); go_simp <;> with_reducible rfl)
      try simp only [Act.put, List.setIfInBounds_toArray, List.set_cons_zero, List.set_cons_succ]
      refine wpAnyH_take (i := 3) (oi := ?oi3) (v := ?v3) ?hi3 (by kernel_rfl) (by kernel_rfl) (by kernel_rfl) ?hq3 (Or.inl ⟨?hw3, ?hy3⟩) (by assumption) ?rest3
      case hi3 => (simp only [List.getElem?_toArray, List.getElem?_cons_succ, List.getElem?_cons_zero]; rfl)
      case hq3 => exact fun _ _ _ h => h
      case hw3 => rfl
      case hy3 => (intro w hSw; (try dsimp only at hSw); go_simp <;> with_reducible rfl)
      try simp only [Act.put, List.setIfInBounds_toArray, List.set_cons_zero, List.set_cons_succ]
      refine wpAnyH_take (i := 4) (oi := ?oi4) (v := ?v4) ?hi4 (by kernel_rfl) (by kernel_rfl) (by kernel_rfl) ?hq4 (Or.inl ⟨?hw4, ?hy4⟩) (by assumption) ?rest4
      case hi4 => (simp only [List.getElem?_toArray, List.getElem?_cons_succ, List.getElem?_cons_zero]; rfl)
      case hq4 => exact fun _ _ _ h => h
      case hw4 => rfl
      case hy4 => (intro w hSw; (try dsimp only at hSw); go_simp <;> with_reducible rfl)
      try simp only [Act.put, List.setIfInBounds_toArray, List.set_cons_zero, List.set_cons_succ]
      refine wpAnyH_take (i := 5) (oi := ?oi5) (v := ?v5) ?hi5 (by kernel_rfl) (by kernel_rfl) (by kernel_rfl) ?hq5 (Or.inl ⟨?hw5, ?hy5⟩) (by assumption) ?rest5
      case hi5 => (simp only [List.getElem?_toArray, List.getElem?_cons_succ, List.getElem?_cons_zero]; rfl)
      case hq5 => exact fun _ _ _ h => h
      case hw5 => rfl
      case hy5 => (intro w hSw; (try dsimp only at hSw); go_simp <;> with_reducible rfl)
      try simp only [Act.put, List.setIfInBounds_toArray, List.set_cons_zero, List.set_cons_succ]
      refine wpAnyH_take (i := 6) (oi := ?oi6) (v := ?v6) ?hi6 (by kernel_rfl) (by kernel_rfl) (by kernel_rfl) ?hq6 (Or.inl ⟨?hw6, ?hy6⟩) (by assumption) ?rest6
      case hi6 => (simp only [List.getElem?_toArray, List.getElem?_cons_succ, List.getElem?_cons_zero]; rfl)
      case hq6 => exact fun _ _ _ h => h
      case hw6 => rfl
      case hy6 => (intro w hSw; (try dsimp only at hSw); go_simp <;> with_reducible rfl)
      try simp only [Act.put, List.setIfInBounds_toArray, List.set_cons_zero, List.set_cons_succ]
      refine wpAnyH_take (i := 7) (oi := ?oi7) (v := ?v7) ?hi7 (by kernel_rfl) (by kernel_rfl) (by kernel_rfl) ?hq7 (Or.inl ⟨?hw7, ?hy7⟩) (by assumption) ?rest7
      case hi7 => (simp only [List.getElem?_toArray, List.getElem?_cons_succ, List.getElem?_cons_zero]; rfl)
      case hq7 => exact fun _ _ _ h => h
      case hw7 => rfl
      case hy7 => (intro w hSw; (try dsimp only at hSw); go_simp <;> with_reducible rfl)
      try simp only [Act.put, List.setIfInBounds_toArray, List.set_cons_zero, List.set_cons_succ]
      refine wpAnyH_take (i := 8) (oi := ?oi8) (v := ?v8) ?hi8 (by kernel_rfl) (by kernel_rfl) (by kernel_rfl) ?hq8 (Or.inl ⟨?hw8, ?hy8⟩) (by assumption) ?rest8
      case hi8 => (simp only [List.getElem?_toArray, List.getElem?_cons_succ, List.getElem?_cons_zero]; rfl)
      case hq8 => exact fun _ _ _ h => h
      case hw8 => rfl
      case hy8 => (intro w hSw; (try dsimp only at hSw); go_simp <;> with_reducible rfl)
      try simp only [Act.put, List.setIfInBounds_toArray, List.set_cons_zero, List.set_cons_succ]
      refine wpAnyH_take (i := 9) (oi := ?oi9) (v := ?v9) ?hi9 (by kernel_rfl) (by kernel_rfl) (by kernel_rfl) ?hq9 (Or.inl ⟨?hw9, ?hy9⟩) (by assumption) ?rest9
      case hi9 => (simp only [List.getElem?_toArray, List.getElem?_cons_succ, List.getElem?_cons_zero]; rfl)
      case hq9 => exact fun _ _ _ h => h
      case hw9 => rfl
      case hy9 => (intro w hSw; (try dsimp only at hSw); go_simp <;> with_reducible rfl)
      try simp only [Act.put, List.setIfInBounds_toArray, List.set_cons_zero, List.set_cons_succ]
      refine wpAnyH_take (i := 10) (oi := ?oi10) (v := ?v10) ?hi10 (by kernel_rfl) (by kernel_rfl) (by kernel_rfl) ?hq10 (Or.inl ⟨?hw10, ?hy10⟩) (by assumption) ?rest10
      case hi10 => (simp only [List.getElem?_toArray, List.getElem?_cons_succ, List.getElem?_cons_zero]; rfl)
      case hq10 => exact fun _ _ _ h => h
      case hw10 => rfl
      case hy10 => (intro w hSw; (try dsimp only at hSw); go_simp <;> with_reducible rfl)
      try simp only [Act.put, List.setIfInBounds_toArray, List.set_cons_zero, List.set_cons_succ]
      refine wpAnyH_take (i := 11) (oi := ?oi11) (v := ?v11) ?hi11 (by kernel_rfl) (by kernel_rfl) (by kernel_rfl) ?hq11 (Or.inl ⟨?hw11, ?hy11⟩) (by assumption) ?rest11
      case hi11 => (simp only [List.getElem?_toArray, List.getElem?_cons_succ, List.getElem?_cons_zero]; rfl)
      case hq11 => exact fun _ _ _ h => h
      case hw11 => rfl
      case hy11 => (intro w hSw; (try dsimp only at hSw); go_simp <;> with_reducible rfl)
      try simp only [Act.put, List.setIfInBounds_toArray, List.set_cons_zero, List.set_cons_succ]
      refine wpAnyH_take (i := 12) (oi := ?oi12) (v := ?v12) ?hi12 (by kernel_rfl) (by kernel_rfl) (by kernel_rfl) ?hq12 (Or.inl ⟨?hw12, ?hy12⟩) (by assumption) ?rest12
      case hi12 => (simp only [List.getElem?_toArray, List.getElem?_cons_succ, List.getElem?_cons_zero]; rfl)
      case hq12 => exact fun _ _ _ h => h
      case hw12 => rfl
      case hy12 => (intro w hSw; (try dsimp only at hSw); go_simp <;> with_reducible rfl)
      try simp only [Act.put, List.setIfInBounds_toArray, List.set_cons_zero, List.set_cons_succ]
      refine wpAnyH_take (i := 13) (oi := ?oi13) (v := ?v13) ?hi13 (by kernel_rfl) (by kernel_rfl) (by kernel_rfl) ?hq13 (Or.inl ⟨?hw13, ?hy13⟩) (by assumption) ?rest13
      case hi13 => (simp only [List.getElem?_toArray, List.getElem?_cons_succ, List.getElem?_cons_zero]; rfl)
      case hq13 => exact fun _ _ _ h => h
      case hw13 => rfl
      case hy13 => (intro w hSw; (try dsimp only at hSw); go_simp <;> with_reducible rfl)
      try simp only [Act.put, List.setIfInBounds_toArray, List.set_cons_zero, List.set_cons_succ]
      refine wpAnyH_take (i := 14) (oi := ?oi14) (v := ?v14) ?hi14 (by kernel_rfl) (by kernel_rfl) (by kernel_rfl) ?hq14 (Or.inl ⟨?hw14, ?hy14⟩) (by assumption) ?rest14
      case hi14 => (simp only [List.getElem?_toArray, List.getElem?_cons_succ, List.getElem?_cons_zero]; rfl)
      case hq14 => exact fun _ _ _ h => h
      case hw14 => rfl
      case hy14 => (intro w hSw; (try dsimp only at hSw); go_simp <;> with_reducible rfl)
      try simp only [Act.put, List.setIfInBounds_toArray, List.set_cons_zero, List.set_cons_succ]
      refine wpAnyH_take (i := 15) (oi := ?oi15) (v := ?v15) ?hi15 (by kernel_rfl) (by kernel_rfl) (by kernel_rfl) ?hq15 (Or.inl ⟨?hw15, ?hy15⟩) (by assumption) ?rest15
      case hi15 => (simp only [List.getElem?_toArray, List.getElem?_cons_succ, List.getElem?_cons_zero]; rfl)
      case hq15 => exact fun _ _ _ h => h
      case hw15 => rfl
      case hy15 => (intro w hSw; (try dsimp only at hSw); go_simp <;> with_reducible rfl)
      try simp only [Act.put, List.setIfInBounds_toArray, List.set_cons_zero, List.set_cons_succ]
      refine wpAnyH_take (i := 16) (oi := ?oi16) (v := ?v16) ?hi16 (by kernel_rfl) (by kernel_rfl) (by kernel_rfl) ?hq16 (Or.inl ⟨?hw16, ?hy16⟩) (by assumption) ?rest16
      case hi16 => (simp only [List.getElem?_toArray, List.getElem?_cons_succ, List.getElem?_cons_zero]; rfl)
      case hq16 => exact fun _ _ _ h => h
      case hw16 => rfl
      case hy16 => (intro w hSw; (try dsimp only at hSw); go_simp <;> with_reducible rfl)
      try simp only [Act.put, List.setIfInBounds_toArray, List.set_cons_zero, List.set_cons_succ]
      refine wpAnyH_take (i := 17) (oi := ?oi17) (v := ?v17) ?hi17 (by kernel_rfl) (by kernel_rfl) (by kernel_rfl) ?hq17 (Or.inl ⟨?hw17, ?hy17⟩) (by assumption) ?rest17
      case hi17 => (simp only [List.getElem?_toArray, List.getElem?_cons_succ, List.getElem?_cons_zero]; rfl)
      case hq17 => exact fun _ _ _ h => h
      case hw17 => rfl
      case hy17 => (intro w hSw; (try dsimp only at hSw); go_simp <;> with_reducible rfl)
      try simp only [Act.put, List.setIfInBounds_toArray, List.set_cons_zero, List.set_cons_succ]
      refine wpAnyH_take (i := 18) (oi := ?oi18) (v := ?v18) ?hi18 (by kernel_rfl) (by kernel_rfl) (by kernel_rfl) ?hq18 (Or.inl ⟨?hw18, ?hy18⟩) (by assumption) ?rest18
      case hi18 => (simp only [List.getElem?_toArray, List.getElem?_cons_succ, List.getElem?_cons_zero]; rfl)
      case hq18 => exact fun _ _ _ h => h
      case hw18 => rfl
      case hy18 => (intro w hSw; (try dsimp only at hSw); go_simp <;> with_reducible rfl)
      try simp only [Act.put, List.setIfInBounds_toArray, List.set_cons_zero, List.set_cons_succ]
      refine wpAnyH_take (i := 19) (oi := ?oi19) (v := ?v19) ?hi19 (by kernel_rfl) (by kernel_rfl) (by kernel_rfl) ?hq19 (Or.inl ⟨?hw19, ?hy19⟩) (by assumption) ?rest19
      case hi19 => (simp only [List.getElem?_toArray, List.getElem?_cons_succ, List.getElem?_cons_zero]; rfl)
      case hq19 => exact fun _ _ _ h => h
      case hw19 => rfl
      case hy19 => (intro w hSw; (try dsimp only at hSw); go_simp <;> with_reducible rfl)
      try simp only [Act.put, List.setIfInBounds_toArray, List.set_cons_zero, List.set_cons_succ]
      refine wpAnyH_take (i := 20) (oi := ?oi20) (v := ?v20) ?hi20 (by kernel_rfl) (by kernel_rfl) (by kernel_rfl) ?hq20 (Or.inl ⟨?hw20, ?hy20⟩) (by assumption) ?rest20
      case hi20 => (simp only [List.getElem?_toArray, List.getElem?_cons_succ, List.getElem?_cons_zero]; rfl)
      case hq20 => exact fun _ _ _ h => h
      case hw20 => rfl
      case hy20 => (intro w hSw; (try dsimp only at hSw); go_simp <;> with_reducible rfl)
      try simp only [Act.put, List.setIfInBounds_toArray, List.set_cons_zero, List.set_cons_succ]
      refine wpAnyH_take (i := 21) (oi := ?oi21) (v := ?v21) ?hi21 (by kernel_rfl) (by kernel_rfl) (by kernel_rfl) ?hq21 (Or.inl ⟨?hw21, ?hy21⟩) (by assumption) ?rest21
      case hi21 => (simp only [List.getElem?_toArray, List.getElem?_cons_succ, List.getElem?_cons_zero]; rfl)
      case hq21 => exact fun _ _ _ h => h
      case hw21 => rfl
      case hy21 => (intro w hSw; (try dsimp only at hSw); go_simp <;> with_reducible rfl)
      try simp only [Act.put, List.setIfInBounds_toArray, List.set_cons_zero, List.set_cons_succ]
      refine wpAnyH_ready (rs := [1]) (by kernel_rfl) (by simp) ?_
      refine AllReadyH.cons (o := ?o1) ?hi1 (fun K hK => ?st1) AllReadyH.nil
      case hi1 => (simp only [List.getElem?_toArray, List.getElem?_cons_succ, List.getElem?_cons_zero]; rfl)
      go_simp
      refine (sum_lv fr he pi sa ⟨u0, x0⟩ ⟨u1, x1⟩ ⟨u2, x2⟩ ⟨u3, x3⟩ _).mono ?_
      rintro e w6 ⟨rfl, hx6⟩
      have hx6 : Below w5.drew.heap.size w5.drew w6 := hx6
      have hb6 := (Below.drew hb5).trans (hx6.mono (Below.drew hb5).size)
      have hbL6 := hbL5.drew.kept (Keep.of_below hx6) (fun h => absurd hbL5.lt (Nat.not_lt.2 h))
      have hbF6 := hbF5.drew.kept (Keep.of_below hx6) (fun h => absurd hbF5.lt (Nat.not_lt.2 h))
      have clb0 := hbL6.cell 0
      simp at clb0
      have clb1 := hbL6.cell 1
      simp at clb1
      have clb2 := hbL6.cell 2
      simp at clb2
      have clb3 := hbL6.cell 3
      simp at clb3
      have cfb0 := hbF6.cell 0
      simp at cfb0
      have cfb1 := hbF6.cell 1
      simp at cfb1
      have cfb2 := hbF6.cell 2
      simp at cfb2
      have cfb3 := hbF6.cell 3
      simp at cfb3
      have cfb4 := hbF6.cell 4
      simp at cfb4
      have cfb5 := hbF6.cell 5
      simp at cfb5
      have cfb6 := hbF6.cell 6
      simp at cfb6
      go_wp2_with fail
      refine hK.out _ _ ⟨clb0, clb1, clb2, clb3, cfb0, cfb1, cfb2, cfb3, cfb4, cfb5, cfb6⟩ (fun hHeld2 => ?_)
      clear hK K hHeld
      have hHeld := hHeld2
      clear hHeld2
      try simp only [Act.put, List.setIfInBounds_toArray, List.set_cons_zero, List.set_cons_succ]
      refine wpAnyH_take (i := 22) (oi := ?oi22) (v := ?v22) ?hi22 (by kernel_rfl) (by kernel_rfl) (by kernel_rfl) ?hq22 (Or.inl ⟨?hw22, ?hy22⟩) (by assumption) ?rest22
      case hi22 => (simp only [List.getElem?_toArray, List.getElem?_cons_succ, List.getElem?_cons_zero]; rfl)
      case hq22 => exact fun _ _ _ h => h
      case hw22 => rfl
      case hy22 => (intro w hSw; (try dsimp only at hSw); go_simp <;> with_reducible rfl)
      try simp only [Act.put, List.setIfInBounds_toArray, List.set_cons_zero, List.set_cons_succ]
      refine wpAnyH_take (i := 23) (oi := ?oi23) (v := ?v23) ?hi23 (by kernel_rfl) (by kernel_rfl) (by kernel_rfl) ?hq23 (Or.inl ⟨?hw23, ?hy23⟩) (by assumption) ?rest23
      case hi23 => (simp only [List.getElem?_toArray, List.getElem?_cons_succ, List.getElem?_cons_zero]; rfl)
      case hq23 => exact fun _ _ _ h => h
      case hw23 => rfl
      case hy23 => (intro w hSw; (try dsimp only at hSw); go_simp <;> with_reducible rfl)
      try simp only [Act.put, List.setIfInBounds_toArray, List.set_cons_zero, List.set_cons_succ]
      refine wpAnyH_done (by kernel_rfl) ?_ _
      go_wp2
      go_ret
      refine ⟨?_, hb6⟩
      rw [hbal]
      first | rfl | exact congrArg (fun b => Ending.returned (Value.bool b)) hz4 | exact congrArg (fun b => Ending.returned (Value.bool b)) hz2 | exact congrArg (fun b => Ending.returned (Value.bool b)) hz
end
section
open Go.RowKit Go.Maps Go.Shelf
set_option linter.unusedVariables false
set_option linter.unusedSimpArgs false

def lackB (fr he pi sa : Int) : Bool := decide (min fr (min he (min pi sa)) < 0)
def sumB (fr he pi sa : Int) : Bool := levB fr he pi sa && cMay (fr + he + pi + sa)
theorem sumVal_four (fr he pi sa : Int) : (sumB fr he pi sa = true ∧ Cnt.sumVal [fr, he, pi, sa] = .tuple #[.int .i64 (fr + he + pi + sa), .int .i64 0]) ∨ (sumB fr he pi sa = false ∧ ∃ e : Int, e ≠ 0 ∧ Cnt.sumVal [fr, he, pi, sa] = .tuple #[.int .i64 0, .int .i64 e]) := by
  have hm : Cnt.mays [fr, he, pi, sa] = levB fr he pi sa := by
    unfold Cnt.mays levB
    simp only [List.all_cons, List.all_nil, Bool.and_true]
    rfl
  unfold sumB Cnt.sumVal
  rw [hm]
  cases hl : levB fr he pi sa with
  | false => exact .inr ⟨rfl, 1, by omega, by simp⟩
  | true =>
    unfold levB at hl
    simp only [Bool.and_eq_true] at hl
    have h1 := cMay_yes hl.1
    have h2 := cMay_yes hl.2.1
    have h3 := cMay_yes hl.2.2.1
    have h4 := cMay_yes hl.2.2.2
    by_cases ht : fr + he + pi + sa ≤ 1099511627776
    · left
      refine ⟨by simp [cMay]; omega, ?_⟩
      rw [if_pos rfl]
      simp only [Cnt.sumOf]
      rw [if_pos (by omega), if_pos (by omega), if_pos (by omega), if_pos (by omega)]
      simp
    · right
      refine ⟨by simp [cMay]; omega, 50, by omega, ?_⟩
      rw [if_pos rfl]
      simp only [Cnt.sumOf]
      by_cases q2 : 0 + fr + he ≤ 1099511627776
      · by_cases q3 : 0 + fr + he + pi ≤ 1099511627776
        · rw [if_pos (by omega), if_pos q2, if_pos q3, if_neg (by omega)]
        · rw [if_pos (by omega), if_pos q2, if_neg q3]
      · rw [if_pos (by omega), if_neg q2]

set_option maxRecDepth 100000 in
set_option maxHeartbeats 3200000 in
theorem min4_any (fr he pi sa : Int) (w : World) : Calls Tryz.prog 69 #[.slice (some ⟨w.heap.size, 0, none⟩) 4 4] (w.alloc (.cells #[.int .i64 fr, .int .i64 he, .int .i64 pi, .int .i64 sa] 3)) fun e w' => e = .returned (.int .i64 (min fr (min he (min pi sa)))) ∧ w' = w.alloc (.cells #[.int .i64 fr, .int .i64 he, .int .i64 pi, .int .i64 sa] 3) := by
  go_enter Tryz.func69, Tryz.ntmps69
  go_wp2_with fail
  refine wp_loop_rounds 6 ?_
  rw [rounds_succ]
  go_wp2_with fail
  rw [rounds_succ]
  go_wp2_with fail
  rw [rounds_succ]
  go_wp2_with fail
  rw [rounds_succ]
  go_wp2
  go_ret
  exact ⟨rfl, rfl⟩
set_option maxRecDepth 100000 in
set_option maxHeartbeats 3200000 in
theorem lacks_any (fr he pi sa re rt cn cm sh sc se : Int) (w : World) : Calls Tryz.prog 54 #[.agg #[.int .i64 fr, .int .i64 he, .int .i64 pi, .int .i64 sa, .int .i64 re, .int .i64 rt, .int .i64 cn, .int .i64 cm, .int .i64 sh, .int .i64 sc, .int .i64 se]] w fun e w' => e = .returned (.bool (lackB fr he pi sa)) ∧ Below w.heap.size w w' := by
  have hb3 := (((Below.refl w.heap.size w).alloc (Nat.le_refl _) (.cells #[.int .i64 fr, .int .i64 he, .int .i64 pi, .int .i64 sa, .int .i64 re, .int .i64 rt, .int .i64 cn, .int .i64 cm, .int .i64 sh, .int .i64 sc, .int .i64 se] 44)).alloc (by simp only [World.size_alloc]; omega) (.cells #[.int .i64 fr, .int .i64 he, .int .i64 pi, .int .i64 sa] 40)).alloc (by simp only [World.size_alloc]; omega) (.cells #[.int .i64 fr, .int .i64 he, .int .i64 pi, .int .i64 sa] 3)
  have key := min4_any fr he pi sa ((w.alloc (.cells #[.int .i64 fr, .int .i64 he, .int .i64 pi, .int .i64 sa, .int .i64 re, .int .i64 rt, .int .i64 cn, .int .i64 cm, .int .i64 sh, .int .i64 sc, .int .i64 se] 44)).alloc (.cells #[.int .i64 fr, .int .i64 he, .int .i64 pi, .int .i64 sa] 40))
  simp only [World.size_alloc] at key
  go_enter Tryz.func54, Tryz.ntmps54
  go_wp2_with fail
  refine (levels_any fr he pi sa _).mono ?_
  rintro e w' ⟨rfl, rfl⟩
  go_wp2_with fail
  refine key.mono ?_
  rintro e w' ⟨rfl, rfl⟩
  go_wp2
  go_ret
  exact ⟨by first | rfl | simp [lackB], hb3⟩

def overB (fr he pi sa re rt cm sh sc se : Int) : Bool := !(sumB fr he pi sa && flowB re rt cm sh sc se)
set_option maxRecDepth 100000 in
set_option maxHeartbeats 3200000 in
theorem over_any (fr he pi sa re rt cn cm sh sc se : Int) (w : World) : Calls Tryz.prog 15 #[.agg #[.int .i64 fr, .int .i64 he, .int .i64 pi, .int .i64 sa, .int .i64 re, .int .i64 rt, .int .i64 cn, .int .i64 cm, .int .i64 sh, .int .i64 sc, .int .i64 se]] w fun e w' => e = .returned (.bool (overB fr he pi sa re rt cm sh sc se)) ∧ Below w.heap.size w w' := by
  have hb3 := (((Below.refl w.heap.size w).alloc (Nat.le_refl _) (.cells #[.int .i64 fr, .int .i64 he, .int .i64 pi, .int .i64 sa, .int .i64 re, .int .i64 rt, .int .i64 cn, .int .i64 cm, .int .i64 sh, .int .i64 sc, .int .i64 se] 44)).alloc (by simp only [World.size_alloc]; omega) (.cells #[.int .i64 fr, .int .i64 he, .int .i64 pi, .int .i64 sa] 40)).alloc (by simp only [World.size_alloc]; omega) (.cells #[.int .i64 fr, .int .i64 he, .int .i64 pi, .int .i64 sa] 3)
  have hir : Cnt.IR (((w.alloc (.cells #[.int .i64 fr, .int .i64 he, .int .i64 pi, .int .i64 sa, .int .i64 re, .int .i64 rt, .int .i64 cn, .int .i64 cm, .int .i64 sh, .int .i64 sc, .int .i64 se] 44)).alloc (.cells #[.int .i64 fr, .int .i64 he, .int .i64 pi, .int .i64 sa] 40)).alloc (.cells #[.int .i64 fr, .int .i64 he, .int .i64 pi, .int .i64 sa] 3)) (some ⟨((w.alloc (.cells #[.int .i64 fr, .int .i64 he, .int .i64 pi, .int .i64 sa, .int .i64 re, .int .i64 rt, .int .i64 cn, .int .i64 cm, .int .i64 sh, .int .i64 sc, .int .i64 se] 44)).alloc (.cells #[.int .i64 fr, .int .i64 he, .int .i64 pi, .int .i64 sa] 40)).heap.size, 0, none⟩) 4 [fr, he, pi, sa] := Cnt.IR.made _ _ _ (0, 0) [fr, he, pi, sa] rfl
  have key := Cnt.sum_any _ 4 4 [fr, he, pi, sa] _ hir (by omega)
  simp only [World.size_alloc] at key
  rcases sumVal_four fr he pi sa with ⟨h1, h2⟩ | ⟨h1, e0, hne, h2⟩
  · rw [h2] at key
    cases hF : flowB re rt cm sh sc se with
    | _ =>
      go_enter Tryz.func15, Tryz.ntmps15
      go_wp2_with fail
      refine (levels_any fr he pi sa _).mono ?_
      rintro e w' ⟨rfl, rfl⟩
      go_wp2_with fail
      refine key.mono ?_
      rintro e w' ⟨rfl, rfl⟩
      go_wp2_with fail
      refine (mayFlow_any re rt cn cm sh sc se _).mono ?_
      rintro e w5 ⟨rfl, hx5⟩
      rw [hF]
      go_wp2
      go_ret
      exact ⟨by unfold overB; rw [h1, hF]; rfl, hb3.trans (hx5.mono hb3.size)⟩
  · rw [h2] at key
    have hneb : (e0 == 0) = false := beq_eq_false_iff_ne.2 hne
    have hned : decide (e0 = 0) = false := decide_eq_false hne
    have hneq : ¬ e0 = 0 := hne
    have hneB : (e0 != 0) = true := bne_iff_ne.2 hne
    go_enter Tryz.func15, Tryz.ntmps15
    go_wp2_with fail
    refine (levels_any fr he pi sa _).mono ?_
    rintro e w' ⟨rfl, rfl⟩
    go_wp2_with fail
    refine key.mono ?_
    rintro e w' ⟨rfl, rfl⟩
    go_wp2
    go_ret
    exact ⟨by unfold overB; rw [h1]; rfl, hb3⟩
end
end Go.Proofs.YtfpcnenohidfpaaGreat
