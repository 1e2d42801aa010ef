/- ask.May: may a request be? No condition but that its items lie in memory. -/
import Derived.Test.YtpfkhalomnfcfaaAskH
import Derived.Deep.QuietTactic
import Derived.BigQuiet
namespace Go.Proofs.Ytpfkhalomnfcfaa
open Go.RowKit Go.Maps Go.Shelf
set_option linter.unusedVariables false
set_option linter.unusedSimpArgs false

theorem run_store_func (P : Program) (w : World) (a : Addr) (f : Fn) (x y : Array Value) (m : Mode) : (store a (.func f x y) m).run P w = stored P w a (.func f x y) m := run_store P w a _ m rfl
attribute [local go_sem] run_store_func
set_option maxRecDepth 100000 in
set_option maxHeartbeats 12800000 in
theorem askmay_any (x : AV) (A : Option Addr) (cap : Nat) (w : World) (hl : IL w A x.l.length x.l) (hn : x.l.length ≤ 9223372036854775807) :
    Calls Try.prog 28 #[x.v A cap] w fun e w' => e = .returned (.bool (mayA x)) ∧ Below w.heap.size w w' := by
  obtain ⟨c, m, k, o, r, t, n, g, l⟩ := x
  dsimp only at hl hn
  obtain ⟨L, hL⟩ : ∃ L, hasL k = L := ⟨_, rfl⟩
  obtain ⟨lo, hlo⟩ : ∃ v, loN k = v := ⟨_, rfl⟩
  obtain ⟨hi, hhi⟩ : ∃ v, hiN k = v := ⟨_, rfl⟩
  have hM : mayA ⟨c, m, k, o, r, t, n, g, l⟩ = (!decide (L = []) && (decide (0 ≤ c) && (decide (c < 64) && (decide (1 ≤ m) && (decide (m ≤ 4294967296) && (numOK (hasB L 111) o 1 1099511627776 && (numOK (hasB L 114) r 0 7 && (numOK (hasB L 116) t 0 7 && (!(hasB L 116 && decide (t = r)) && (numOK (hasB L 110) n lo hi && (!(hasB L 103 && !gOK g) && (!(!hasB L 103 && !decide (g = [])) && ((hasB L 105 == decide (0 < l.length)) && mayL l))))))))))))) := by
    unfold mayA mayK
    rw [hL, hlo, hhi]
  have hbW : Below w.heap.size w (((w.alloc (.cells (AV.mk c m k o r t n g l |>.cs A cap) 24)).alloc (.cells #[.string ⟨L.toArray⟩] 9)).alloc (.cells #[.func (.func 62) #[] #[.pointer (some ⟨w.heap.size + 1, 0, none⟩)]] 97)) :=
    (((Below.refl w.heap.size w).alloc (Nat.le_refl _) _).alloc (by simp only [World.size_alloc]; omega) _).alloc (by simp only [World.size_alloc]; omega) _
  unfold AV.v
  unfold AV.cs at hbW
  dsimp only at hbW ⊢
  cases h0 : decide (L = []) with
  | true =>
    have g0 := of_decide_eq_true h0
    have g0b : (L == []) = true := beq_iff_eq.2 g0
    have hbW := hbW
    rw [g0] at hbW
    have hmay : mayA ⟨c, m, k, o, r, t, n, g, l⟩ = false := by rw [hM, h0]; rfl
    rw [hmay]
    clear hM hmay
    go_enter Try.func28, Try.ntmps28
    go_wp2_with fail
    refine (has_any k _).mono ?_
    rintro e w' ⟨rfl, rfl⟩
    rw [hL]
    go_wp2_with fail
    refine (bounds_any k _).mono ?_
    rintro e w' ⟨rfl, rfl⟩
    rw [hlo, hhi]
    go_wp2
    go_ret
    exact ⟨rfl, hbW⟩
  | false =>
    have g0 := of_decide_eq_false h0
    have g0b : (L == []) = false := beq_eq_false_iff_ne.2 g0
    cases h1 : decide (0 ≤ c) with
    | false =>
      have g1 : c < 0 := by have := of_decide_eq_false h1; omega
      have hmay : mayA ⟨c, m, k, o, r, t, n, g, l⟩ = false := by rw [hM, h0, h1]; rfl
      rw [hmay]
      clear hM hmay
      go_enter Try.func28, Try.ntmps28
      go_wp2_with fail
      refine (has_any k _).mono ?_
      rintro e w' ⟨rfl, rfl⟩
      rw [hL]
      go_wp2_with fail
      refine (bounds_any k _).mono ?_
      rintro e w' ⟨rfl, rfl⟩
      rw [hlo, hhi]
      go_wp2
      go_ret
      exact ⟨rfl, hbW⟩
    | true =>
      have g1 : ¬ c < 0 := by have := of_decide_eq_true h1; omega
      cases h2 : decide (c < 64) with
      | false =>
        have g2 : 64 ≤ c := by have := of_decide_eq_false h2; omega
        have hmay : mayA ⟨c, m, k, o, r, t, n, g, l⟩ = false := by rw [hM, h0, h1, h2]; rfl
        rw [hmay]
        clear hM hmay
        go_enter Try.func28, Try.ntmps28
        go_wp2_with fail
        refine (has_any k _).mono ?_
        rintro e w' ⟨rfl, rfl⟩
        rw [hL]
        go_wp2_with fail
        refine (bounds_any k _).mono ?_
        rintro e w' ⟨rfl, rfl⟩
        rw [hlo, hhi]
        go_wp2
        go_ret
        exact ⟨rfl, hbW⟩
      | true =>
        have g2 : ¬ 64 ≤ c := by have := of_decide_eq_true h2; omega
        cases h3 : decide (1 ≤ m) with
        | false =>
          have g3 : m < 1 := by have := of_decide_eq_false h3; omega
          have hmay : mayA ⟨c, m, k, o, r, t, n, g, l⟩ = false := by rw [hM, h0, h1, h2, h3]; rfl
          rw [hmay]
          clear hM hmay
          go_enter Try.func28, Try.ntmps28
          go_wp2_with fail
          refine (has_any k _).mono ?_
          rintro e w' ⟨rfl, rfl⟩
          rw [hL]
          go_wp2_with fail
          refine (bounds_any k _).mono ?_
          rintro e w' ⟨rfl, rfl⟩
          rw [hlo, hhi]
          go_wp2
          go_ret
          exact ⟨rfl, hbW⟩
        | true =>
          have g3 : ¬ m < 1 := by have := of_decide_eq_true h3; omega
          cases h4 : decide (m ≤ 4294967296) with
          | false =>
            have g4 : 4294967296 < m := by have := of_decide_eq_false h4; omega
            have hmay : mayA ⟨c, m, k, o, r, t, n, g, l⟩ = false := by rw [hM, h0, h1, h2, h3, h4]; rfl
            rw [hmay]
            clear hM hmay
            go_enter Try.func28, Try.ntmps28
            go_wp2_with fail
            refine (has_any k _).mono ?_
            rintro e w' ⟨rfl, rfl⟩
            rw [hL]
            go_wp2_with fail
            refine (bounds_any k _).mono ?_
            rintro e w' ⟨rfl, rfl⟩
            rw [hlo, hhi]
            go_wp2
            go_ret
            exact ⟨rfl, hbW⟩
          | true =>
            have g4 : ¬ 4294967296 < m := by have := of_decide_eq_true h4; omega
            have hbW2 := hbW
            go_enter Try.func28, Try.ntmps28
            go_wp2_with fail
            refine (has_any k _).mono ?_
            rintro e w' ⟨rfl, rfl⟩
            rw [hL]
            go_wp2_with fail
            refine (bounds_any k _).mono ?_
            rintro e w' ⟨rfl, rfl⟩
            rw [hlo, hhi]
            go_wp2_with fail
            refine (may2_any (w.heap.size + 1) _ L 111 o 1 1099511627776 _ (by go_simp) (by go_simp)).mono ?_
            rintro e w' ⟨rfl, rfl⟩
            cases h5 : numOK (hasB L 111) o 1 1099511627776 with
            | false =>
              have hmay : mayA ⟨c, m, k, o, r, t, n, g, l⟩ = false := by rw [hM, h0, h1, h2, h3, h4, h5]; rfl
              go_wp2
              go_ret
              exact ⟨by rw [hmay]; rfl, hbW⟩
            | true =>
              go_wp2_with fail
              refine (may2_any (w.heap.size + 1) _ L 114 r 0 7 _ (by go_simp) (by go_simp)).mono ?_
              rintro e w' ⟨rfl, rfl⟩
              cases h6 : numOK (hasB L 114) r 0 7 with
              | false =>
                have hmay : mayA ⟨c, m, k, o, r, t, n, g, l⟩ = false := by rw [hM, h0, h1, h2, h3, h4, h5, h6]; rfl
                go_wp2
                go_ret
                exact ⟨by rw [hmay]; rfl, hbW⟩
              | true =>
                go_wp2_with fail
                refine (may2_any (w.heap.size + 1) _ L 116 t 0 7 _ (by go_simp) (by go_simp)).mono ?_
                rintro e w' ⟨rfl, rfl⟩
                cases h7 : numOK (hasB L 116) t 0 7 with
                | false =>
                  have hmay : mayA ⟨c, m, k, o, r, t, n, g, l⟩ = false := by rw [hM, h0, h1, h2, h3, h4, h5, h6, h7]; rfl
                  go_wp2
                  go_ret
                  exact ⟨by rw [hmay]; rfl, hbW⟩
                | true =>
                  go_wp2_with fail
                  refine (may1_any (w.heap.size + 1) L 116 _ (by go_simp)).mono ?_
                  rintro e w' ⟨rfl, rfl⟩
                  cases b8 : hasB L 116 with
                  | false =>
                    go_wp2_with fail
                    refine (may2_any (w.heap.size + 1) _ L 110 n lo hi _ (by go_simp) (by go_simp)).mono ?_
                    rintro e w' ⟨rfl, rfl⟩
                    cases h9 : numOK (hasB L 110) n lo hi with
                    | false =>
                      have hmay : mayA ⟨c, m, k, o, r, t, n, g, l⟩ = false := by rw [hM, h0, h1, h2, h3, h4, h5, h6, h7, b8, h9]; rfl
                      go_wp2
                      go_ret
                      exact ⟨by rw [hmay]; rfl, hbW⟩
                    | true =>
                      go_wp2_with fail
                      refine (may1_any (w.heap.size + 1) L 103 _ (by go_simp)).mono ?_
                      rintro e w' ⟨rfl, rfl⟩
                      cases b10 : hasB L 103 with
                      | false =>
                        go_wp2_with fail
                        refine (may1_any (w.heap.size + 1) L 103 _ (by go_simp)).mono ?_
                        rintro e w' ⟨rfl, rfl⟩
                        rw [b10]
                        by_cases gg : g = []
                        case neg =>
                          have hmay : mayA ⟨c, m, k, o, r, t, n, g, l⟩ = false := by rw [hM, h0, h1, h2, h3, h4, h5, h6, h7, b8, h9, b10, decide_eq_false gg]; rfl
                          have ggb : (g == []) = false := beq_eq_false_iff_ne.2 gg
                          go_wp2
                          go_ret
                          exact ⟨by rw [hmay]; rfl, hbW⟩
                        have hM2 : mayA ⟨c, m, k, o, r, t, n, g, l⟩ = ((hasB L 105 == decide (0 < l.length)) && mayL l) := by rw [hM, h0, h1, h2, h3, h4, h5, h6, h7, b8, h9, b10, decide_eq_true gg]; rfl
                        have ggb : (g == []) = true := beq_iff_eq.2 gg
                        have ggc : decide (g = []) = true := decide_eq_true gg
                        clear gg
                        go_wp2_with fail
                        go_quiet (first | (refine Calls.quiet_of_same (may1_any (w.heap.size + 1) L 105 _ ?_); (first | (simpa using hcL) | go_simp)) | fail)
                        cases h12 : (hasB L 105 == decide (0 < l.length)) with
                        | false =>
                          go_wp2
                          go_ret
                          exact ⟨by rw [hM2, h12]; rfl, hbW.trans ((below_drewN _ _).mono hbW.size)⟩
                        | true =>
                          go_wp2_with fail
                          refine (mayI_any A l.length cap l _ ((hl.below hbW).drewN _) hn).mono ?_
                          rintro e w4 ⟨rfl, hx4⟩
                          have hb4 := (hbW.trans ((below_drewN _ _).mono hbW.size)).trans (hx4.mono (hbW.trans ((below_drewN _ _).mono hbW.size)).size)
                          cases h13 : mayL l with
                          | false =>
                            go_wp2
                            go_ret
                            exact ⟨by rw [hM2, h12, h13]; rfl, hb4⟩
                          | true =>
                            go_wp2
                            go_ret
                            exact ⟨by rw [hM2, h12, h13]; rfl, hb4⟩
                      | true =>
                        go_wp2_with fail
                        refine (good_any g _).mono ?_
                        rintro e w3 ⟨rfl, hx3⟩
                        have hbG := hbW.trans (hx3.mono hbW.size)
                        cases hg : gOK g with
                        | false =>
                          have hmay : mayA ⟨c, m, k, o, r, t, n, g, l⟩ = false := by rw [hM, h0, h1, h2, h3, h4, h5, h6, h7, b8, h9, b10, hg]; rfl
                          go_wp2
                          go_ret
                          exact ⟨by rw [hmay]; rfl, hbG⟩
                        | true =>
                          have hM2 : mayA ⟨c, m, k, o, r, t, n, g, l⟩ = ((hasB L 105 == decide (0 < l.length)) && mayL l) := by rw [hM, h0, h1, h2, h3, h4, h5, h6, h7, b8, h9, b10, hg]; rfl
                          have hcL : w3.cell? ⟨w.heap.size + 1, 0, none⟩ = some (.string ⟨L.toArray⟩) := (hx3.cell (by simp)).trans (by go_simp)
                          have hcF : w3.cell? ⟨w.heap.size + 1 + 1, 0, none⟩ = some (.func (.func 62) #[] #[.pointer (some ⟨w.heap.size + 1, 0, none⟩)]) := (hx3.cell (by simp)).trans (by go_simp)
                          have hc8 : w3.cell? ⟨w.heap.size, 8, none⟩ = some (.slice A l.length cap) := (hx3.cell (by simp; omega)).trans (by go_simp)
                          go_wp2_with fail
                          refine (may1_any (w.heap.size + 1) L 103 _ hcL).mono ?_
                          rintro e w' ⟨rfl, rfl⟩
                          rw [b10]
                          go_wp2_with fail
                          go_quiet (first | (refine Calls.quiet_of_same (may1_any (w.heap.size + 1) L 105 _ ?_); (first | (simpa using hcL) | go_simp)) | fail)
                          cases h12 : (hasB L 105 == decide (0 < l.length)) with
                          | false =>
                            go_wp2
                            go_ret
                            exact ⟨by rw [hM2, h12]; rfl, hbG.trans ((below_drewN _ _).mono hbG.size)⟩
                          | true =>
                            go_wp2_with fail
                            refine (mayI_any A l.length cap l _ ((hl.below hbG).drewN _) hn).mono ?_
                            rintro e w4 ⟨rfl, hx4⟩
                            have hb4 := (hbG.trans ((below_drewN _ _).mono hbG.size)).trans (hx4.mono (hbG.trans ((below_drewN _ _).mono hbG.size)).size)
                            cases h13 : mayL l with
                            | false =>
                              go_wp2
                              go_ret
                              exact ⟨by rw [hM2, h12, h13]; rfl, hb4⟩
                            | true =>
                              go_wp2
                              go_ret
                              exact ⟨by rw [hM2, h12, h13]; rfl, hb4⟩
                  | true =>
                    by_cases g8 : t = r
                    case pos =>
                      have hmay : mayA ⟨c, m, k, o, r, t, n, g, l⟩ = false := by rw [hM, h0, h1, h2, h3, h4, h5, h6, h7, b8, decide_eq_true g8]; rfl
                      have g8b : (t == r) = true := beq_iff_eq.2 g8
                      have g8c : decide (t = r) = true := decide_eq_true g8
                      clear g8
                      go_wp2
                      go_ret
                      exact ⟨by rw [hmay]; rfl, hbW⟩
                    have g8b : (t == r) = false := beq_eq_false_iff_ne.2 g8
                    go_wp2_with fail
                    refine (may2_any (w.heap.size + 1) _ L 110 n lo hi _ (by go_simp) (by go_simp)).mono ?_
                    rintro e w' ⟨rfl, rfl⟩
                    cases h9 : numOK (hasB L 110) n lo hi with
                    | false =>
                      have hmay : mayA ⟨c, m, k, o, r, t, n, g, l⟩ = false := by rw [hM, h0, h1, h2, h3, h4, h5, h6, h7, b8, decide_eq_false g8, h9]; rfl
                      go_wp2
                      go_ret
                      exact ⟨by rw [hmay]; rfl, hbW⟩
                    | true =>
                      go_wp2_with fail
                      refine (may1_any (w.heap.size + 1) L 103 _ (by go_simp)).mono ?_
                      rintro e w' ⟨rfl, rfl⟩
                      cases b10 : hasB L 103 with
                      | false =>
                        go_wp2_with fail
                        refine (may1_any (w.heap.size + 1) L 103 _ (by go_simp)).mono ?_
                        rintro e w' ⟨rfl, rfl⟩
                        rw [b10]
                        by_cases gg : g = []
                        case neg =>
                          have hmay : mayA ⟨c, m, k, o, r, t, n, g, l⟩ = false := by rw [hM, h0, h1, h2, h3, h4, h5, h6, h7, b8, decide_eq_false g8, h9, b10, decide_eq_false gg]; rfl
                          have ggb : (g == []) = false := beq_eq_false_iff_ne.2 gg
                          go_wp2
                          go_ret
                          exact ⟨by rw [hmay]; rfl, hbW⟩
                        have hM2 : mayA ⟨c, m, k, o, r, t, n, g, l⟩ = ((hasB L 105 == decide (0 < l.length)) && mayL l) := by rw [hM, h0, h1, h2, h3, h4, h5, h6, h7, b8, decide_eq_false g8, h9, b10, decide_eq_true gg]; rfl
                        have ggb : (g == []) = true := beq_iff_eq.2 gg
                        have ggc : decide (g = []) = true := decide_eq_true gg
                        clear gg
                        go_wp2_with fail
                        go_quiet (first | (refine Calls.quiet_of_same (may1_any (w.heap.size + 1) L 105 _ ?_); (first | (simpa using hcL) | go_simp)) | fail)
                        cases h12 : (hasB L 105 == decide (0 < l.length)) with
                        | false =>
                          go_wp2
                          go_ret
                          exact ⟨by rw [hM2, h12]; rfl, hbW.trans ((below_drewN _ _).mono hbW.size)⟩
                        | true =>
                          go_wp2_with fail
                          refine (mayI_any A l.length cap l _ ((hl.below hbW).drewN _) hn).mono ?_
                          rintro e w4 ⟨rfl, hx4⟩
                          have hb4 := (hbW.trans ((below_drewN _ _).mono hbW.size)).trans (hx4.mono (hbW.trans ((below_drewN _ _).mono hbW.size)).size)
                          cases h13 : mayL l with
                          | false =>
                            go_wp2
                            go_ret
                            exact ⟨by rw [hM2, h12, h13]; rfl, hb4⟩
                          | true =>
                            go_wp2
                            go_ret
                            exact ⟨by rw [hM2, h12, h13]; rfl, hb4⟩
                      | true =>
                        go_wp2_with fail
                        refine (good_any g _).mono ?_
                        rintro e w3 ⟨rfl, hx3⟩
                        have hbG := hbW.trans (hx3.mono hbW.size)
                        cases hg : gOK g with
                        | false =>
                          have hmay : mayA ⟨c, m, k, o, r, t, n, g, l⟩ = false := by rw [hM, h0, h1, h2, h3, h4, h5, h6, h7, b8, decide_eq_false g8, h9, b10, hg]; rfl
                          go_wp2
                          go_ret
                          exact ⟨by rw [hmay]; rfl, hbG⟩
                        | true =>
                          have hM2 : mayA ⟨c, m, k, o, r, t, n, g, l⟩ = ((hasB L 105 == decide (0 < l.length)) && mayL l) := by rw [hM, h0, h1, h2, h3, h4, h5, h6, h7, b8, decide_eq_false g8, h9, b10, hg]; rfl
                          have hcL : w3.cell? ⟨w.heap.size + 1, 0, none⟩ = some (.string ⟨L.toArray⟩) := (hx3.cell (by simp)).trans (by go_simp)
                          have hcF : w3.cell? ⟨w.heap.size + 1 + 1, 0, none⟩ = some (.func (.func 62) #[] #[.pointer (some ⟨w.heap.size + 1, 0, none⟩)]) := (hx3.cell (by simp)).trans (by go_simp)
                          have hc8 : w3.cell? ⟨w.heap.size, 8, none⟩ = some (.slice A l.length cap) := (hx3.cell (by simp; omega)).trans (by go_simp)
                          go_wp2_with fail
                          refine (may1_any (w.heap.size + 1) L 103 _ hcL).mono ?_
                          rintro e w' ⟨rfl, rfl⟩
                          rw [b10]
                          go_wp2_with fail
                          go_quiet (first | (refine Calls.quiet_of_same (may1_any (w.heap.size + 1) L 105 _ ?_); (first | (simpa using hcL) | go_simp)) | fail)
                          cases h12 : (hasB L 105 == decide (0 < l.length)) with
                          | false =>
                            go_wp2
                            go_ret
                            exact ⟨by rw [hM2, h12]; rfl, hbG.trans ((below_drewN _ _).mono hbG.size)⟩
                          | true =>
                            go_wp2_with fail
                            refine (mayI_any A l.length cap l _ ((hl.below hbG).drewN _) hn).mono ?_
                            rintro e w4 ⟨rfl, hx4⟩
                            have hb4 := (hbG.trans ((below_drewN _ _).mono hbG.size)).trans (hx4.mono (hbG.trans ((below_drewN _ _).mono hbG.size)).size)
                            cases h13 : mayL l with
                            | false =>
                              go_wp2
                              go_ret
                              exact ⟨by rw [hM2, h12, h13]; rfl, hb4⟩
                            | true =>
                              go_wp2
                              go_ret
                              exact ⟨by rw [hM2, h12, h13]; rfl, hb4⟩
end Go.Proofs.Ytpfkhalomnfcfaa
