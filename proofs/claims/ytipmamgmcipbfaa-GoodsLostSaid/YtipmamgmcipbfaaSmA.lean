/- The stock's calls: several texts as one (StkB, StkR, StkQ, StkL). No condition but those told at each. -/
import Derived.Test.YtipmamgmcipbfaaMayI
import Derived.LoopN
import Derived.IntWalk
import Derived.Deep.RegionHeld3
import Derived.Test.YtipmamgmcipbfaaCnt
namespace Go.Proofs.Ytipmamgmcipbfaa
section
open Go.RowKit Go.Maps Go.Shelf
set_option linter.unusedVariables false
set_option linter.unusedSimpArgs false

def fOK (n : Int) : Bool := decide (0 ≤ n) && decide (n ≤ 72057594037927936)
theorem fOK_no {n : Int} (h : fOK n = false) : n < 0 ∨ 72057594037927936 < n := by
  simp [fOK] at h
  omega
theorem fOK_yes {n : Int} (h : fOK n = true) : 0 ≤ n ∧ n ≤ 72057594037927936 := by simpa [fOK] using h
theorem cMay_yes {n : Int} (h : cMay n = true) : 0 ≤ n ∧ n ≤ 1099511627776 := by simpa [cMay] using h
def flowB (re rt cm sh sc se : Int) : Bool := fOK re && (fOK rt && (fOK cm && (fOK sh && (fOK sc && (fOK se)))))
theorem flowB_yes {re rt cm sh sc se : Int} (h : flowB re rt cm sh sc se = true) : (0 ≤ re ∧ re ≤ 72057594037927936) ∧ (0 ≤ rt ∧ rt ≤ 72057594037927936) ∧ (0 ≤ cm ∧ cm ≤ 72057594037927936) ∧ (0 ≤ sh ∧ sh ≤ 72057594037927936) ∧ (0 ≤ sc ∧ sc ≤ 72057594037927936) ∧ (0 ≤ se ∧ se ≤ 72057594037927936) := by
  unfold flowB at h
  simp only [Bool.and_eq_true] at h
  obtain ⟨h1, h2, h3, h4, h5, h6⟩ := h
  exact ⟨fOK_yes h1, fOK_yes h2, fOK_yes h3, fOK_yes h4, fOK_yes h5, fOK_yes h6⟩
def levB (fr he pi sa : Int) : Bool := cMay fr && (cMay he && (cMay pi && (cMay sa)))
def balB (fr he pi sa re rt cn cm sh sc se : Int) : Bool := levB fr he pi sa && (flowB re rt cm sh sc se && (decide (-576460752303423488 ≤ cn) && (decide (cn ≤ 576460752303423488) && decide (fr + he + pi + sa = re + rt + cn + cm - sh - sc - se))))

set_option maxRecDepth 100000 in
set_option maxHeartbeats 3200000 in
theorem mayFlow_any (re rt cn cm sh sc se : Int) (w : World) : Calls Try.prog 60 #[.agg #[.int .i64 re, .int .i64 rt, .int .i64 cn, .int .i64 cm, .int .i64 sh, .int .i64 sc, .int .i64 se]] w fun e w' => e = .returned (.bool (flowB re rt cm sh sc se)) ∧ Below w.heap.size w w' := by
  have hb2 := ((Below.refl w.heap.size w).alloc (Nat.le_refl _) (.cells #[.int .i64 re, .int .i64 rt, .int .i64 cn, .int .i64 cm, .int .i64 sh, .int .i64 sc, .int .i64 se] 31)).alloc (by simp) (.cells #[.int .i64 re, .int .i64 rt, .int .i64 cm, .int .i64 sh, .int .i64 sc, .int .i64 se] 3)
  go_enter Try.func60, Try.ntmps60
  go_wp2_with fail
  refine wp_loop_rounds 9 ?_
  rw [rounds_succ]
  cases bre : fOK re with
  | false =>
    have hno : flowB re rt cm sh sc se = false := by unfold flowB; rw [bre]; rfl
    by_cases qre : re < 0
    · have qred : decide (re < 0) = true := decide_eq_true qre
      go_wp2
      go_ret
      exact ⟨by first | rfl | (rw [hno]; rfl), hb2⟩
    · have qred : decide (re < 0) = false := decide_eq_false qre
      have qreg : 72057594037927936 < re := (fOK_no bre).resolve_left qre
      have qreh : decide (72057594037927936 < re) = true := decide_eq_true qreg
      go_wp2
      go_ret
      exact ⟨by first | rfl | (rw [hno]; rfl), hb2⟩
  | true =>
    have qre : ¬ re < 0 := by have := fOK_yes bre; omega
    have qred : decide (re < 0) = false := decide_eq_false qre
    have qreg : ¬ 72057594037927936 < re := by have := fOK_yes bre; omega
    have qreh : decide (72057594037927936 < re) = false := decide_eq_false qreg
    go_wp2_with fail
    rw [rounds_succ]
    cases brt : fOK rt with
    | false =>
      have hno : flowB re rt cm sh sc se = false := by unfold flowB; rw [bre, brt]; rfl
      by_cases qrt : rt < 0
      · have qrtd : decide (rt < 0) = true := decide_eq_true qrt
        go_wp2
        go_ret
        exact ⟨by first | rfl | (rw [hno]; rfl), hb2⟩
      · have qrtd : decide (rt < 0) = false := decide_eq_false qrt
        have qrtg : 72057594037927936 < rt := (fOK_no brt).resolve_left qrt
        have qrth : decide (72057594037927936 < rt) = true := decide_eq_true qrtg
        go_wp2
        go_ret
        exact ⟨by first | rfl | (rw [hno]; rfl), hb2⟩
    | true =>
      have qrt : ¬ rt < 0 := by have := fOK_yes brt; omega
      have qrtd : decide (rt < 0) = false := decide_eq_false qrt
      have qrtg : ¬ 72057594037927936 < rt := by have := fOK_yes brt; omega
      have qrth : decide (72057594037927936 < rt) = false := decide_eq_false qrtg
      go_wp2_with fail
      rw [rounds_succ]
      cases bcm : fOK cm with
      | false =>
        have hno : flowB re rt cm sh sc se = false := by unfold flowB; rw [bre, brt, bcm]; rfl
        by_cases qcm : cm < 0
        · have qcmd : decide (cm < 0) = true := decide_eq_true qcm
          go_wp2
          go_ret
          exact ⟨by first | rfl | (rw [hno]; rfl), hb2⟩
        · have qcmd : decide (cm < 0) = false := decide_eq_false qcm
          have qcmg : 72057594037927936 < cm := (fOK_no bcm).resolve_left qcm
          have qcmh : decide (72057594037927936 < cm) = true := decide_eq_true qcmg
          go_wp2
          go_ret
          exact ⟨by first | rfl | (rw [hno]; rfl), hb2⟩
      | true =>
        have qcm : ¬ cm < 0 := by have := fOK_yes bcm; omega
        have qcmd : decide (cm < 0) = false := decide_eq_false qcm
        have qcmg : ¬ 72057594037927936 < cm := by have := fOK_yes bcm; omega
        have qcmh : decide (72057594037927936 < cm) = false := decide_eq_false qcmg
        go_wp2_with fail
        rw [rounds_succ]
        cases bsh : fOK sh with
        | false =>
          have hno : flowB re rt cm sh sc se = false := by unfold flowB; rw [bre, brt, bcm, bsh]; rfl
          by_cases qsh : sh < 0
          · have qshd : decide (sh < 0) = true := decide_eq_true qsh
            go_wp2
            go_ret
            exact ⟨by first | rfl | (rw [hno]; rfl), hb2⟩
          · have qshd : decide (sh < 0) = false := decide_eq_false qsh
            have qshg : 72057594037927936 < sh := (fOK_no bsh).resolve_left qsh
            have qshh : decide (72057594037927936 < sh) = true := decide_eq_true qshg
            go_wp2
            go_ret
            exact ⟨by first | rfl | (rw [hno]; rfl), hb2⟩
        | true =>
          have qsh : ¬ sh < 0 := by have := fOK_yes bsh; omega
          have qshd : decide (sh < 0) = false := decide_eq_false qsh
          have qshg : ¬ 72057594037927936 < sh := by have := fOK_yes bsh; omega
          have qshh : decide (72057594037927936 < sh) = false := decide_eq_false qshg
          go_wp2_with fail
          rw [rounds_succ]
          cases bsc : fOK sc with
          | false =>
            have hno : flowB re rt cm sh sc se = false := by unfold flowB; rw [bre, brt, bcm, bsh, bsc]; rfl
            by_cases qsc : sc < 0
            · have qscd : decide (sc < 0) = true := decide_eq_true qsc
              go_wp2
              go_ret
              exact ⟨by first | rfl | (rw [hno]; rfl), hb2⟩
            · have qscd : decide (sc < 0) = false := decide_eq_false qsc
              have qscg : 72057594037927936 < sc := (fOK_no bsc).resolve_left qsc
              have qsch : decide (72057594037927936 < sc) = true := decide_eq_true qscg
              go_wp2
              go_ret
              exact ⟨by first | rfl | (rw [hno]; rfl), hb2⟩
          | true =>
            have qsc : ¬ sc < 0 := by have := fOK_yes bsc; omega
            have qscd : decide (sc < 0) = false := decide_eq_false qsc
            have qscg : ¬ 72057594037927936 < sc := by have := fOK_yes bsc; omega
            have qsch : decide (72057594037927936 < sc) = false := decide_eq_false qscg
            go_wp2_with fail
            rw [rounds_succ]
            cases bse : fOK se with
            | false =>
              have hno : flowB re rt cm sh sc se = false := by unfold flowB; rw [bre, brt, bcm, bsh, bsc, bse]; rfl
              by_cases qse : se < 0
              · have qsed : decide (se < 0) = true := decide_eq_true qse
                go_wp2
                go_ret
                exact ⟨by first | rfl | (rw [hno]; rfl), hb2⟩
              · have qsed : decide (se < 0) = false := decide_eq_false qse
                have qseg : 72057594037927936 < se := (fOK_no bse).resolve_left qse
                have qseh : decide (72057594037927936 < se) = true := decide_eq_true qseg
                go_wp2
                go_ret
                exact ⟨by first | rfl | (rw [hno]; rfl), hb2⟩
            | true =>
              have qse : ¬ se < 0 := by have := fOK_yes bse; omega
              have qsed : decide (se < 0) = false := decide_eq_false qse
              have qseg : ¬ 72057594037927936 < se := by have := fOK_yes bse; omega
              have qseh : decide (72057594037927936 < se) = false := decide_eq_false qseg
              go_wp2_with fail
              rw [rounds_succ]
              have hyes : flowB re rt cm sh sc se = true := by unfold flowB; rw [bre, brt, bcm, bsh, bsc, bse]; rfl
              go_wp2
              go_ret
              exact ⟨by first | rfl | (rw [hyes]; rfl), hb2⟩

theorem levels_any (fr he pi sa : Int) (w : World) : Calls Try.prog 59 #[.agg #[.int .i64 fr, .int .i64 he, .int .i64 pi, .int .i64 sa]] w fun e w' => e = .returned (.slice (some ⟨w.heap.size + 1, 0, none⟩) 4 4) ∧ w' = (w.alloc (.cells #[.int .i64 fr, .int .i64 he, .int .i64 pi, .int .i64 sa] 29)).alloc (.cells #[.int .i64 fr, .int .i64 he, .int .i64 pi, .int .i64 sa] 3) := by
  go_enter Try.func59, Try.ntmps59
  go_wp2
  go_ret
  exact ⟨rfl, rfl⟩

end
section
open Go.RowKit Go.Maps Go.Shelf
set_option linter.unusedVariables false
set_option linter.unusedSimpArgs false

theorem ref_cmay (n : Int) (w : World) : Calls Try.prog 48 #[.int .i64 n] w fun e w' => e = .returned (.bool (cMay n)) ∧ w' = w := refcmay_any n w

set_option maxRecDepth 100000 in
set_option maxHeartbeats 6400000 in
theorem each_any (fr he pi sa re rt cn cm sh sc se : Int) (w : World) : Calls Try.prog 68 #[.agg #[.int .i64 fr, .int .i64 he, .int .i64 pi, .int .i64 sa], .agg #[.int .i64 re, .int .i64 rt, .int .i64 cn, .int .i64 cm, .int .i64 sh, .int .i64 sc, .int .i64 se]] w fun e w' => e = .returned (.bool (levB fr he pi sa && flowB re rt cm sh sc se)) ∧ Below w.heap.size w w' := by
  have hb2 := ((Below.refl w.heap.size w).alloc (Nat.le_refl _) (.cells #[.int .i64 fr, .int .i64 he, .int .i64 pi, .int .i64 sa] 29)).alloc (by simp) (.cells #[.int .i64 re, .int .i64 rt, .int .i64 cn, .int .i64 cm, .int .i64 sh, .int .i64 sc, .int .i64 se] 31)
  have hb3 := hb2.alloc hb2.size (.cells #[.int .i64 fr, .int .i64 he, .int .i64 pi, .int .i64 sa] 3)
  have hb4 := hb3.alloc hb3.size (.cells #[.int .i64 re, .int .i64 rt, .int .i64 cm, .int .i64 sh, .int .i64 sc, .int .i64 se] 3)
  go_enter Try.func68, Try.ntmps68
  go_wp2_with fail
  refine wp_loop_rounds 7 ?_
  rw [rounds_succ]
  go_wp2_with fail
  refine (ref_cmay fr _).mono ?_
  rintro e w' ⟨rfl, hww⟩
  subst w'
  cases bfr : cMay fr with
  | false =>
    have hno : levB fr he pi sa = false := by unfold levB; rw [bfr]; rfl
    have hall : (levB fr he pi sa && flowB re rt cm sh sc se) = false := by rw [hno]; rfl
    go_wp2
    go_ret
    exact ⟨by first | rfl | (rw [hall]; rfl), hb3⟩
  | true =>
    go_wp2_with fail
    rw [rounds_succ]
    go_wp2_with fail
    refine (ref_cmay he _).mono ?_
    rintro e w' ⟨rfl, hww⟩
    subst w'
    cases bhe : cMay he with
    | false =>
      have hno : levB fr he pi sa = false := by unfold levB; rw [bfr, bhe]; rfl
      have hall : (levB fr he pi sa && flowB re rt cm sh sc se) = false := by rw [hno]; rfl
      go_wp2
      go_ret
      exact ⟨by first | rfl | (rw [hall]; rfl), hb3⟩
    | true =>
      go_wp2_with fail
      rw [rounds_succ]
      go_wp2_with fail
      refine (ref_cmay pi _).mono ?_
      rintro e w' ⟨rfl, hww⟩
      subst w'
      cases bpi : cMay pi with
      | false =>
        have hno : levB fr he pi sa = false := by unfold levB; rw [bfr, bhe, bpi]; rfl
        have hall : (levB fr he pi sa && flowB re rt cm sh sc se) = false := by rw [hno]; rfl
        go_wp2
        go_ret
        exact ⟨by first | rfl | (rw [hall]; rfl), hb3⟩
      | true =>
        go_wp2_with fail
        rw [rounds_succ]
        go_wp2_with fail
        refine (ref_cmay sa _).mono ?_
        rintro e w' ⟨rfl, hww⟩
        subst w'
        cases bsa : cMay sa with
        | false =>
          have hno : levB fr he pi sa = false := by unfold levB; rw [bfr, bhe, bpi, bsa]; rfl
          have hall : (levB fr he pi sa && flowB re rt cm sh sc se) = false := by rw [hno]; rfl
          go_wp2
          go_ret
          exact ⟨by first | rfl | (rw [hall]; rfl), hb3⟩
        | true =>
          go_wp2_with fail
          rw [rounds_succ]
          have hlev : levB fr he pi sa = true := by unfold levB; rw [bfr, bhe, bpi, bsa]; rfl
          go_wp2_with fail
          refine wp_loop_rounds 9 ?_
          rw [rounds_succ]
          cases bre : fOK re with
          | false =>
            have hno : flowB re rt cm sh sc se = false := by unfold flowB; rw [bre]; rfl
            by_cases qre : re < 0
            · have qred : decide (re < 0) = true := decide_eq_true qre
              have hall : (levB fr he pi sa && flowB re rt cm sh sc se) = false := by rw [hlev, hno]; rfl
              go_wp2
              go_ret
              exact ⟨by first | rfl | (rw [hall]; rfl), hb4⟩
            · have qred : decide (re < 0) = false := decide_eq_false qre
              have qreg : 72057594037927936 < re := (fOK_no bre).resolve_left qre
              have qreh : decide (72057594037927936 < re) = true := decide_eq_true qreg
              have hall : (levB fr he pi sa && flowB re rt cm sh sc se) = false := by rw [hlev, hno]; rfl
              go_wp2
              go_ret
              exact ⟨by first | rfl | (rw [hall]; rfl), hb4⟩
          | true =>
            have qre : ¬ re < 0 := by have := fOK_yes bre; omega
            have qred : decide (re < 0) = false := decide_eq_false qre
            have qreg : ¬ 72057594037927936 < re := by have := fOK_yes bre; omega
            have qreh : decide (72057594037927936 < re) = false := decide_eq_false qreg
            go_wp2_with fail
            rw [rounds_succ]
            cases brt : fOK rt with
            | false =>
              have hno : flowB re rt cm sh sc se = false := by unfold flowB; rw [bre, brt]; rfl
              by_cases qrt : rt < 0
              · have qrtd : decide (rt < 0) = true := decide_eq_true qrt
                have hall : (levB fr he pi sa && flowB re rt cm sh sc se) = false := by rw [hlev, hno]; rfl
                go_wp2
                go_ret
                exact ⟨by first | rfl | (rw [hall]; rfl), hb4⟩
              · have qrtd : decide (rt < 0) = false := decide_eq_false qrt
                have qrtg : 72057594037927936 < rt := (fOK_no brt).resolve_left qrt
                have qrth : decide (72057594037927936 < rt) = true := decide_eq_true qrtg
                have hall : (levB fr he pi sa && flowB re rt cm sh sc se) = false := by rw [hlev, hno]; rfl
                go_wp2
                go_ret
                exact ⟨by first | rfl | (rw [hall]; rfl), hb4⟩
            | true =>
              have qrt : ¬ rt < 0 := by have := fOK_yes brt; omega
              have qrtd : decide (rt < 0) = false := decide_eq_false qrt
              have qrtg : ¬ 72057594037927936 < rt := by have := fOK_yes brt; omega
              have qrth : decide (72057594037927936 < rt) = false := decide_eq_false qrtg
              go_wp2_with fail
              rw [rounds_succ]
              cases bcm : fOK cm with
              | false =>
                have hno : flowB re rt cm sh sc se = false := by unfold flowB; rw [bre, brt, bcm]; rfl
                by_cases qcm : cm < 0
                · have qcmd : decide (cm < 0) = true := decide_eq_true qcm
                  have hall : (levB fr he pi sa && flowB re rt cm sh sc se) = false := by rw [hlev, hno]; rfl
                  go_wp2
                  go_ret
                  exact ⟨by first | rfl | (rw [hall]; rfl), hb4⟩
                · have qcmd : decide (cm < 0) = false := decide_eq_false qcm
                  have qcmg : 72057594037927936 < cm := (fOK_no bcm).resolve_left qcm
                  have qcmh : decide (72057594037927936 < cm) = true := decide_eq_true qcmg
                  have hall : (levB fr he pi sa && flowB re rt cm sh sc se) = false := by rw [hlev, hno]; rfl
                  go_wp2
                  go_ret
                  exact ⟨by first | rfl | (rw [hall]; rfl), hb4⟩
              | true =>
                have qcm : ¬ cm < 0 := by have := fOK_yes bcm; omega
                have qcmd : decide (cm < 0) = false := decide_eq_false qcm
                have qcmg : ¬ 72057594037927936 < cm := by have := fOK_yes bcm; omega
                have qcmh : decide (72057594037927936 < cm) = false := decide_eq_false qcmg
                go_wp2_with fail
                rw [rounds_succ]
                cases bsh : fOK sh with
                | false =>
                  have hno : flowB re rt cm sh sc se = false := by unfold flowB; rw [bre, brt, bcm, bsh]; rfl
                  by_cases qsh : sh < 0
                  · have qshd : decide (sh < 0) = true := decide_eq_true qsh
                    have hall : (levB fr he pi sa && flowB re rt cm sh sc se) = false := by rw [hlev, hno]; rfl
                    go_wp2
                    go_ret
                    exact ⟨by first | rfl | (rw [hall]; rfl), hb4⟩
                  · have qshd : decide (sh < 0) = false := decide_eq_false qsh
                    have qshg : 72057594037927936 < sh := (fOK_no bsh).resolve_left qsh
                    have qshh : decide (72057594037927936 < sh) = true := decide_eq_true qshg
                    have hall : (levB fr he pi sa && flowB re rt cm sh sc se) = false := by rw [hlev, hno]; rfl
                    go_wp2
                    go_ret
                    exact ⟨by first | rfl | (rw [hall]; rfl), hb4⟩
                | true =>
                  have qsh : ¬ sh < 0 := by have := fOK_yes bsh; omega
                  have qshd : decide (sh < 0) = false := decide_eq_false qsh
                  have qshg : ¬ 72057594037927936 < sh := by have := fOK_yes bsh; omega
                  have qshh : decide (72057594037927936 < sh) = false := decide_eq_false qshg
                  go_wp2_with fail
                  rw [rounds_succ]
                  cases bsc : fOK sc with
                  | false =>
                    have hno : flowB re rt cm sh sc se = false := by unfold flowB; rw [bre, brt, bcm, bsh, bsc]; rfl
                    by_cases qsc : sc < 0
                    · have qscd : decide (sc < 0) = true := decide_eq_true qsc
                      have hall : (levB fr he pi sa && flowB re rt cm sh sc se) = false := by rw [hlev, hno]; rfl
                      go_wp2
                      go_ret
                      exact ⟨by first | rfl | (rw [hall]; rfl), hb4⟩
                    · have qscd : decide (sc < 0) = false := decide_eq_false qsc
                      have qscg : 72057594037927936 < sc := (fOK_no bsc).resolve_left qsc
                      have qsch : decide (72057594037927936 < sc) = true := decide_eq_true qscg
                      have hall : (levB fr he pi sa && flowB re rt cm sh sc se) = false := by rw [hlev, hno]; rfl
                      go_wp2
                      go_ret
                      exact ⟨by first | rfl | (rw [hall]; rfl), hb4⟩
                  | true =>
                    have qsc : ¬ sc < 0 := by have := fOK_yes bsc; omega
                    have qscd : decide (sc < 0) = false := decide_eq_false qsc
                    have qscg : ¬ 72057594037927936 < sc := by have := fOK_yes bsc; omega
                    have qsch : decide (72057594037927936 < sc) = false := decide_eq_false qscg
                    go_wp2_with fail
                    rw [rounds_succ]
                    cases bse : fOK se with
                    | false =>
                      have hno : flowB re rt cm sh sc se = false := by unfold flowB; rw [bre, brt, bcm, bsh, bsc, bse]; rfl
                      by_cases qse : se < 0
                      · have qsed : decide (se < 0) = true := decide_eq_true qse
                        have hall : (levB fr he pi sa && flowB re rt cm sh sc se) = false := by rw [hlev, hno]; rfl
                        go_wp2
                        go_ret
                        exact ⟨by first | rfl | (rw [hall]; rfl), hb4⟩
                      · have qsed : decide (se < 0) = false := decide_eq_false qse
                        have qseg : 72057594037927936 < se := (fOK_no bse).resolve_left qse
                        have qseh : decide (72057594037927936 < se) = true := decide_eq_true qseg
                        have hall : (levB fr he pi sa && flowB re rt cm sh sc se) = false := by rw [hlev, hno]; rfl
                        go_wp2
                        go_ret
                        exact ⟨by first | rfl | (rw [hall]; rfl), hb4⟩
                    | true =>
                      have qse : ¬ se < 0 := by have := fOK_yes bse; omega
                      have qsed : decide (se < 0) = false := decide_eq_false qse
                      have qseg : ¬ 72057594037927936 < se := by have := fOK_yes bse; omega
                      have qseh : decide (72057594037927936 < se) = false := decide_eq_false qseg
                      go_wp2_with fail
                      rw [rounds_succ]
                      have hyes : flowB re rt cm sh sc se = true := by unfold flowB; rw [bre, brt, bcm, bsh, bsc, bse]; rfl
                      have hall : (levB fr he pi sa && flowB re rt cm sh sc se) = true := by rw [hlev, hyes]; rfl
                      go_wp2
                      go_ret
                      exact ⟨by first | rfl | (rw [hall]; rfl), hb4⟩

theorem sum_lv (fr he pi sa : Int) (h1 : 0 ≤ fr ∧ fr ≤ 1099511627776) (h2 : 0 ≤ he ∧ he ≤ 1099511627776) (h3 : 0 ≤ pi ∧ pi ≤ 1099511627776) (h4 : 0 ≤ sa ∧ sa ≤ 1099511627776) (w : World) :
    Calls Try.prog 69 #[.agg #[.int .i64 fr, .int .i64 he, .int .i64 pi, .int .i64 sa]] w fun e w' => e = .returned (.int .i64 (fr + he + pi + sa)) ∧ Below w.heap.size w w' := by
  have y0 : wrap64 (fr + he) = fr + he := by unfold wrap64; omega
  have y1 : wrap64 (fr + he + pi) = fr + he + pi := by unfold wrap64; omega
  have y2 : wrap64 (fr + he + pi + sa) = fr + he + pi + sa := by unfold wrap64; omega
  have hb := (Below.refl w.heap.size w).alloc (Nat.le_refl _) (.cells #[.int .i64 fr, .int .i64 he, .int .i64 pi, .int .i64 sa] 29)
  go_enter Try.func69, Try.ntmps69
  go_wp2
  go_ret
  exact ⟨by first | rfl | simp [y0, y1, y2], hb⟩
end
section
open Go.RowKit Go.Maps Go.Shelf
set_option linter.unusedVariables false
set_option linter.unusedSimpArgs false
theorem wrapEq (x : Int) : IntKind.i64.wrap x = wrap64 x := by
  rw [IntKind.wrap_i64, wrap64]
end
section
open Go.RowKit Go.Maps Go.Shelf
set_option linter.unusedVariables false
set_option linter.unusedSimpArgs false

def lackB (fr he pi sa : Int) : Bool := decide (min fr (min he (min pi sa)) < 0)
def sumB (fr he pi sa : Int) : Bool := levB fr he pi sa && cMay (fr + he + pi + sa)
theorem sumVal_four (fr he pi sa : Int) : (sumB fr he pi sa = true ∧ Cnt.sumVal [fr, he, pi, sa] = .tuple #[.int .i64 (fr + he + pi + sa), .int .i64 0]) ∨ (sumB fr he pi sa = false ∧ ∃ e : Int, e ≠ 0 ∧ Cnt.sumVal [fr, he, pi, sa] = .tuple #[.int .i64 0, .int .i64 e]) := by
  have hm : Cnt.mays [fr, he, pi, sa] = levB fr he pi sa := by
    unfold Cnt.mays levB
    simp only [List.all_cons, List.all_nil, Bool.and_true]
    rfl
  unfold sumB Cnt.sumVal
  rw [hm]
  cases hl : levB fr he pi sa with
  | false => exact .inr ⟨rfl, 1, by omega, by simp⟩
  | true =>
    unfold levB at hl
    simp only [Bool.and_eq_true] at hl
    have h1 := cMay_yes hl.1
    have h2 := cMay_yes hl.2.1
    have h3 := cMay_yes hl.2.2.1
    have h4 := cMay_yes hl.2.2.2
    by_cases ht : fr + he + pi + sa ≤ 1099511627776
    · left
      refine ⟨by simp [cMay]; omega, ?_⟩
      rw [if_pos rfl]
      simp only [Cnt.sumOf]
      rw [if_pos (by omega), if_pos (by omega), if_pos (by omega), if_pos (by omega)]
      simp
    · right
      refine ⟨by simp [cMay]; omega, 50, by omega, ?_⟩
      rw [if_pos rfl]
      simp only [Cnt.sumOf]
      by_cases q2 : 0 + fr + he ≤ 1099511627776
      · by_cases q3 : 0 + fr + he + pi ≤ 1099511627776
        · rw [if_pos (by omega), if_pos q2, if_pos q3, if_neg (by omega)]
        · rw [if_pos (by omega), if_pos q2, if_neg q3]
      · rw [if_pos (by omega), if_neg q2]

set_option maxRecDepth 100000 in
set_option maxHeartbeats 3200000 in
theorem min4_any (fr he pi sa : Int) (w : World) : Calls Try.prog 67 #[.slice (some ⟨w.heap.size, 0, none⟩) 4 4] (w.alloc (.cells #[.int .i64 fr, .int .i64 he, .int .i64 pi, .int .i64 sa] 3)) fun e w' => e = .returned (.int .i64 (min fr (min he (min pi sa)))) ∧ w' = w.alloc (.cells #[.int .i64 fr, .int .i64 he, .int .i64 pi, .int .i64 sa] 3) := by
  go_enter Try.func67, Try.ntmps67
  go_wp2_with fail
  refine wp_loop_rounds 6 ?_
  rw [rounds_succ]
  go_wp2_with fail
  rw [rounds_succ]
  go_wp2_with fail
  rw [rounds_succ]
  go_wp2_with fail
  rw [rounds_succ]
  go_wp2
  go_ret
  exact ⟨rfl, rfl⟩
set_option maxRecDepth 100000 in
set_option maxHeartbeats 3200000 in
theorem lacks_any (fr he pi sa re rt cn cm sh sc se : Int) (w : World) : Calls Try.prog 47 #[.agg #[.int .i64 fr, .int .i64 he, .int .i64 pi, .int .i64 sa, .int .i64 re, .int .i64 rt, .int .i64 cn, .int .i64 cm, .int .i64 sh, .int .i64 sc, .int .i64 se]] w fun e w' => e = .returned (.bool (lackB fr he pi sa)) ∧ Below w.heap.size w w' := by
  have hb3 := (((Below.refl w.heap.size w).alloc (Nat.le_refl _) (.cells #[.int .i64 fr, .int .i64 he, .int .i64 pi, .int .i64 sa, .int .i64 re, .int .i64 rt, .int .i64 cn, .int .i64 cm, .int .i64 sh, .int .i64 sc, .int .i64 se] 91)).alloc (by simp only [World.size_alloc]; omega) (.cells #[.int .i64 fr, .int .i64 he, .int .i64 pi, .int .i64 sa] 29)).alloc (by simp only [World.size_alloc]; omega) (.cells #[.int .i64 fr, .int .i64 he, .int .i64 pi, .int .i64 sa] 3)
  have key := min4_any fr he pi sa ((w.alloc (.cells #[.int .i64 fr, .int .i64 he, .int .i64 pi, .int .i64 sa, .int .i64 re, .int .i64 rt, .int .i64 cn, .int .i64 cm, .int .i64 sh, .int .i64 sc, .int .i64 se] 91)).alloc (.cells #[.int .i64 fr, .int .i64 he, .int .i64 pi, .int .i64 sa] 29))
  simp only [World.size_alloc] at key
  go_enter Try.func47, Try.ntmps47
  go_wp2_with fail
  refine (levels_any fr he pi sa _).mono ?_
  rintro e w' ⟨rfl, rfl⟩
  go_wp2_with fail
  refine key.mono ?_
  rintro e w' ⟨rfl, rfl⟩
  go_wp2
  go_ret
  exact ⟨by first | rfl | simp [lackB], hb3⟩

def overB (fr he pi sa re rt cm sh sc se : Int) : Bool := !(sumB fr he pi sa && flowB re rt cm sh sc se)
set_option maxRecDepth 100000 in
set_option maxHeartbeats 3200000 in
theorem over_any (fr he pi sa re rt cn cm sh sc se : Int) (w : World) : Calls Try.prog 41 #[.agg #[.int .i64 fr, .int .i64 he, .int .i64 pi, .int .i64 sa, .int .i64 re, .int .i64 rt, .int .i64 cn, .int .i64 cm, .int .i64 sh, .int .i64 sc, .int .i64 se]] w fun e w' => e = .returned (.bool (overB fr he pi sa re rt cm sh sc se)) ∧ Below w.heap.size w w' := by
  have hb3 := (((Below.refl w.heap.size w).alloc (Nat.le_refl _) (.cells #[.int .i64 fr, .int .i64 he, .int .i64 pi, .int .i64 sa, .int .i64 re, .int .i64 rt, .int .i64 cn, .int .i64 cm, .int .i64 sh, .int .i64 sc, .int .i64 se] 91)).alloc (by simp only [World.size_alloc]; omega) (.cells #[.int .i64 fr, .int .i64 he, .int .i64 pi, .int .i64 sa] 29)).alloc (by simp only [World.size_alloc]; omega) (.cells #[.int .i64 fr, .int .i64 he, .int .i64 pi, .int .i64 sa] 3)
  have hir : Cnt.IR (((w.alloc (.cells #[.int .i64 fr, .int .i64 he, .int .i64 pi, .int .i64 sa, .int .i64 re, .int .i64 rt, .int .i64 cn, .int .i64 cm, .int .i64 sh, .int .i64 sc, .int .i64 se] 91)).alloc (.cells #[.int .i64 fr, .int .i64 he, .int .i64 pi, .int .i64 sa] 29)).alloc (.cells #[.int .i64 fr, .int .i64 he, .int .i64 pi, .int .i64 sa] 3)) (some ⟨((w.alloc (.cells #[.int .i64 fr, .int .i64 he, .int .i64 pi, .int .i64 sa, .int .i64 re, .int .i64 rt, .int .i64 cn, .int .i64 cm, .int .i64 sh, .int .i64 sc, .int .i64 se] 91)).alloc (.cells #[.int .i64 fr, .int .i64 he, .int .i64 pi, .int .i64 sa] 29)).heap.size, 0, none⟩) 4 [fr, he, pi, sa] := Cnt.IR.made _ _ _ (0, 0) [fr, he, pi, sa] rfl
  have key := Cnt.sum_any _ 4 4 [fr, he, pi, sa] _ hir (by omega)
  simp only [World.size_alloc] at key
  rcases sumVal_four fr he pi sa with ⟨h1, h2⟩ | ⟨h1, e0, hne, h2⟩
  · rw [h2] at key
    cases hF : flowB re rt cm sh sc se with
    | _ =>
      go_enter Try.func41, Try.ntmps41
      go_wp2_with fail
      refine (levels_any fr he pi sa _).mono ?_
      rintro e w' ⟨rfl, rfl⟩
      go_wp2_with fail
      refine key.mono ?_
      rintro e w' ⟨rfl, rfl⟩
      go_wp2_with fail
      refine (mayFlow_any re rt cn cm sh sc se _).mono ?_
      rintro e w5 ⟨rfl, hx5⟩
      rw [hF]
      go_wp2
      go_ret
      exact ⟨by unfold overB; rw [h1, hF]; rfl, hb3.trans (hx5.mono hb3.size)⟩
  · rw [h2] at key
    have hneb : (e0 == 0) = false := beq_eq_false_iff_ne.2 hne
    have hned : decide (e0 = 0) = false := decide_eq_false hne
    have hneq : ¬ e0 = 0 := hne
    have hneB : (e0 != 0) = true := bne_iff_ne.2 hne
    go_enter Try.func41, Try.ntmps41
    go_wp2_with fail
    refine (levels_any fr he pi sa _).mono ?_
    rintro e w' ⟨rfl, rfl⟩
    go_wp2_with fail
    refine key.mono ?_
    rintro e w' ⟨rfl, rfl⟩
    go_wp2
    go_ret
    exact ⟨by unfold overB; rw [h1]; rfl, hb3⟩
end
end Go.Proofs.Ytipmamgmcipbfaa
