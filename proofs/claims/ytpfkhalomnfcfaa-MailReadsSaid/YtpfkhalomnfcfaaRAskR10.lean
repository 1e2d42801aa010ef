/- The reference's May of a request: the kinds that have the fields rti. No condition but that its items lie in memory. -/
import Derived.Test.YtpfkhalomnfcfaaRAskH
namespace Go.Proofs.Ytpfkhalomnfcfaa
open Go.RowKit Go.Maps Go.Shelf
set_option linter.unusedVariables false
set_option linter.unusedSimpArgs false

set_option maxRecDepth 100000 in
set_option maxHeartbeats 25600000 in
theorem rmay_R10 (c m o r t n : Int) (g : List UInt8) (l : List It) (k : Int) (hL : hasL k = [114, 116, 105]) (h1 : (k == 1) = false) (h7 : (k == 7) = false) (h11 : (k == 11) = false) (A : Option Addr) (cap : Nat) (w : World) (hl : IL w A l.length l) (hwl : WL l) (hn : l.length ≤ 9223372036854775807) (hg7 : g.length ≤ 9223372036854775807) :
    Calls Try.prog 33 #[AV.v ⟨c, m, k, o, r, t, n, g, l⟩ A cap] w fun e w' => e = .returned (.bool (mayA ⟨c, m, k, o, r, t, n, g, l⟩)) ∧ Below w.heap.size w w' := by
  have H111 : hasB (hasL k) 111 = false := by rw [hL]; rfl
  have H114 : hasB (hasL k) 114 = true := by rw [hL]; rfl
  have H116 : hasB (hasL k) 116 = true := by rw [hL]; rfl
  have H110 : hasB (hasL k) 110 = false := by rw [hL]; rfl
  have H103 : hasB (hasL k) 103 = false := by rw [hL]; rfl
  have H105 : hasB (hasL k) 105 = true := by rw [hL]; rfl
  have hLO : loN k = 0 := by unfold loN; rw [if_neg (by simpa using h11)]
  have hHI : hiN k = 0 := by unfold hiN; rw [if_neg (by simpa using h1), if_neg (by simpa using h7), if_neg (by simpa using h11)]
  have hM : mayA ⟨c, m, k, o, r, t, n, g, l⟩ = (mayC c m && (numOK false o 1 1099511627776 && (numOK true r 0 7 && (numOK true t 0 7 && (!(true && decide (t = r)) && (!(false && !gOK g) && (!(!false && !decide (g = [])) && ((true == decide (0 < l.length)) && (mayL l && numOK false n 0 0))))))))) := by
    unfold mayA mayK mayC
    dsimp only
    rw [H111, H114, H116, H110, H103, H105, hLO, hHI, hL]
    rw [show decide ([114, 116, 105] = ([] : List UInt8)) = false from rfl, Bool.not_false, Bool.true_and]
    ac_rfl
  have hbxa0 : Blk (w.alloc (.cells (AV.cs ⟨c, m, k, o, r, t, n, g, l⟩ A cap) 24)) w.heap.size 24 (AV.cs ⟨c, m, k, o, r, t, n, g, l⟩ A cap) := Blk.new _ _ _
  have hb0 := (Below.refl w.heap.size w).alloc (Nat.le_refl _) (.cells (AV.cs ⟨c, m, k, o, r, t, n, g, l⟩ A cap) 24)
  have hila0 := hl.alloc (.cells (AV.cs ⟨c, m, k, o, r, t, n, g, l⟩ A cap) 24)
  unfold AV.v
  unfold AV.cs at hbxa0 hb0 hila0
  dsimp only at hbxa0 hb0 hila0 ⊢
  go_enter Try.func33, Try.ntmps33
  have key := rhas_any k (w.alloc (.cells (AV.cs ⟨c, m, k, o, r, t, n, g, l⟩ A cap) 24))
  rw [hL] at key
  have hSa0 := boxS (c := c) (m := m) (k := k) (o := o) (r := r) (t := t) (n := n) (g := g) (l := l) (A := A) (cap := cap) hbxa0
  go_wp2_with fail
  refine key.mono ?_
  rintro e w1 ⟨rfl, hx1⟩
  clear key
  have hb1 := hb0.trans (hx1.mono hb0.size)
  have hbxa1 := hbxa0.kept (Keep.of_below hx1) (fun h => absurd hbxa0.lt (Nat.not_lt.2 h))
  have hila1 := hila0.below hx1
  clear hbxa0 hila0 hSa0
  have hSa1 := boxS (c := c) (m := m) (k := k) (o := o) (r := r) (t := t) (n := n) (g := g) (l := l) (A := A) (cap := cap) hbxa1
  go_wp2_with fail
  refine (refmay09_any c m _).mono ?_
  rintro e w' ⟨rfl, hww⟩
  subst w'
  cases hC : mayC c m with
  | false =>
    have hno : mayA ⟨c, m, k, o, r, t, n, g, l⟩ = false := by rw [hM, hC]; rfl
    go_wp2
    go_ret
    exact ⟨by rw [hno]; rfl, hb1⟩
  | true =>
    have key := rhas1_at k 111 111 false rfl H111 w1
    go_wp2_with fail
    refine key.mono ?_
    rintro e w2 ⟨rfl, hx2⟩
    clear key
    have hb2 := hb1.trans (hx2.mono hb1.size)
    have hbxa2 := hbxa1.kept (Keep.of_below hx2) (fun h => absurd hbxa1.lt (Nat.not_lt.2 h))
    have hila2 := hila1.below hx2
    clear hbxa1 hila1 hSa1
    cases h5 : numOK false o 1 1099511627776 with
    | false =>
      have qa : (o == 0) = false := by simpa [numOK] using h5
      have qa2 : decide (o = 0) = false := by simpa [numOK] using h5
      have key := rhas1_at k 111 111 false rfl H111 w2
      have hSa2 := boxS (c := c) (m := m) (k := k) (o := o) (r := r) (t := t) (n := n) (g := g) (l := l) (A := A) (cap := cap) hbxa2
      go_wp2_with fail
      refine key.mono ?_
      rintro e w3 ⟨rfl, hx3⟩
      clear key
      have hb3 := hb2.trans (hx3.mono hb2.size)
      have hbxa3 := hbxa2.kept (Keep.of_below hx3) (fun h => absurd hbxa2.lt (Nat.not_lt.2 h))
      have hila3 := hila2.below hx3
      clear hbxa2 hila2 hSa2
      have hno : mayA ⟨c, m, k, o, r, t, n, g, l⟩ = false := by rw [hM, hC, h5]; rfl
      have hSa3 := boxS (c := c) (m := m) (k := k) (o := o) (r := r) (t := t) (n := n) (g := g) (l := l) (A := A) (cap := cap) hbxa3
      go_wp2
      go_ret
      exact ⟨by rw [hno]; rfl, hb3⟩
    | true =>
      have qa : (o == 0) = true := by simpa [numOK] using h5
      have qa2 : decide (o = 0) = true := by simpa [numOK] using h5
      have key := rhas1_at k 111 111 false rfl H111 w2
      have hSa2 := boxS (c := c) (m := m) (k := k) (o := o) (r := r) (t := t) (n := n) (g := g) (l := l) (A := A) (cap := cap) hbxa2
      go_wp2_with fail
      refine key.mono ?_
      rintro e w3 ⟨rfl, hx3⟩
      clear key
      have hb3 := hb2.trans (hx3.mono hb2.size)
      have hbxa3 := hbxa2.kept (Keep.of_below hx3) (fun h => absurd hbxa2.lt (Nat.not_lt.2 h))
      have hila3 := hila2.below hx3
      clear hbxa2 hila2 hSa2
      cases h6 : numOK true r 0 7 with
      | false =>
        by_cases q6l : r < 0
        case pos =>
          have hno : mayA ⟨c, m, k, o, r, t, n, g, l⟩ = false := by rw [hM, hC, h5, h6]; rfl
          have hSa3 := boxS (c := c) (m := m) (k := k) (o := o) (r := r) (t := t) (n := n) (g := g) (l := l) (A := A) (cap := cap) hbxa3
          go_wp2
          go_ret
          exact ⟨by rw [hno]; rfl, hb3⟩
        have q6g : 7 < r := by simp [numOK] at h6; omega
        have hno : mayA ⟨c, m, k, o, r, t, n, g, l⟩ = false := by rw [hM, hC, h5, h6]; rfl
        have hSa3 := boxS (c := c) (m := m) (k := k) (o := o) (r := r) (t := t) (n := n) (g := g) (l := l) (A := A) (cap := cap) hbxa3
        go_wp2
        go_ret
        exact ⟨by rw [hno]; rfl, hb3⟩
      | true =>
        have q6l : ¬ r < 0 := by simp [numOK] at h6; omega
        have q6g : ¬ 7 < r := by simp [numOK] at h6; omega
        cases h7 : numOK true t 0 7 with
        | false =>
          by_cases q7l : t < 0
          case pos =>
            have hno : mayA ⟨c, m, k, o, r, t, n, g, l⟩ = false := by rw [hM, hC, h5, h6, h7]; rfl
            have hSa3 := boxS (c := c) (m := m) (k := k) (o := o) (r := r) (t := t) (n := n) (g := g) (l := l) (A := A) (cap := cap) hbxa3
            go_wp2
            go_ret
            exact ⟨by rw [hno]; rfl, hb3⟩
          have q7g : 7 < t := by simp [numOK] at h7; omega
          have hno : mayA ⟨c, m, k, o, r, t, n, g, l⟩ = false := by rw [hM, hC, h5, h6, h7]; rfl
          have hSa3 := boxS (c := c) (m := m) (k := k) (o := o) (r := r) (t := t) (n := n) (g := g) (l := l) (A := A) (cap := cap) hbxa3
          go_wp2
          go_ret
          exact ⟨by rw [hno]; rfl, hb3⟩
        | true =>
          have q7l : ¬ t < 0 := by simp [numOK] at h7; omega
          have q7g : ¬ 7 < t := by simp [numOK] at h7; omega
          have key := rhas1_at k 114 114 true rfl H114 w3
          have hSa3 := boxS (c := c) (m := m) (k := k) (o := o) (r := r) (t := t) (n := n) (g := g) (l := l) (A := A) (cap := cap) hbxa3
          go_wp2_with fail
          refine key.mono ?_
          rintro e w4 ⟨rfl, hx4⟩
          clear key
          have hb4 := hb3.trans (hx4.mono hb3.size)
          have hbxa4 := hbxa3.kept (Keep.of_below hx4) (fun h => absurd hbxa3.lt (Nat.not_lt.2 h))
          have hila4 := hila3.below hx4
          clear hbxa3 hila3 hSa3
          have key := rhas1_at k 116 116 true rfl H116 w4
          have hSa4 := boxS (c := c) (m := m) (k := k) (o := o) (r := r) (t := t) (n := n) (g := g) (l := l) (A := A) (cap := cap) hbxa4
          go_wp2_with fail
          refine key.mono ?_
          rintro e w5 ⟨rfl, hx5⟩
          clear key
          have hb5 := hb4.trans (hx5.mono hb4.size)
          have hbxa5 := hbxa4.kept (Keep.of_below hx5) (fun h => absurd hbxa4.lt (Nat.not_lt.2 h))
          have hila5 := hila4.below hx5
          clear hbxa4 hila4 hSa4
          have key := rhas1_at k 116 116 true rfl H116 w5
          have hSa5 := boxS (c := c) (m := m) (k := k) (o := o) (r := r) (t := t) (n := n) (g := g) (l := l) (A := A) (cap := cap) hbxa5
          go_wp2_with fail
          refine key.mono ?_
          rintro e w6 ⟨rfl, hx6⟩
          clear key
          have hb6 := hb5.trans (hx6.mono hb5.size)
          have hbxa6 := hbxa5.kept (Keep.of_below hx6) (fun h => absurd hbxa5.lt (Nat.not_lt.2 h))
          have hila6 := hila5.below hx6
          clear hbxa5 hila5 hSa5
          by_cases q8 : t = r
          case pos =>
            have h8 : decide (t = r) = true := decide_eq_true q8
            have q8b : (t == r) = true := beq_iff_eq.2 q8
            clear q8
            have hno : mayA ⟨c, m, k, o, r, t, n, g, l⟩ = false := by rw [hM, hC, h5, h6, h7, h8]; rfl
            have hSa6 := boxS (c := c) (m := m) (k := k) (o := o) (r := r) (t := t) (n := n) (g := g) (l := l) (A := A) (cap := cap) hbxa6
            go_wp2
            go_ret
            exact ⟨by rw [hno]; rfl, hb6⟩
          have h8 : decide (t = r) = false := decide_eq_false q8
          have q8b : (t == r) = false := beq_eq_false_iff_ne.2 q8
          by_cases qg : g = []
          case neg =>
            have h11 : decide (g = []) = false := decide_eq_false qg
            have qgb : (g == []) = false := beq_eq_false_iff_ne.2 qg
            cases hgg : gOK g with
            | true =>
              have hSa6 := boxS (c := c) (m := m) (k := k) (o := o) (r := r) (t := t) (n := n) (g := g) (l := l) (A := A) (cap := cap) hbxa6
              go_wp2_with fail
              refine wp_region_held_drew (S := (fun w' => w'.cell? ⟨w.heap.size, 7, none⟩ = some (.string ⟨g.toArray⟩) ∧ w'.cell? ⟨w.heap.size, 8, none⟩ = some (.slice A l.length cap))) (by kernel_rfl) ⟨hSa6.2.2.2.2.2.2.2.1, hSa6.2.2.2.2.2.2.2.2⟩ (fun hHeld => ?_)
              refine wpAnyH_take (i := 0) (oi := ?oi0Z1) (v := ?v0Z1) ?hi0Z1 (by kernel_rfl) (by kernel_rfl) (by kernel_rfl) ?hq0Z1 (Or.inl ⟨?hw0Z1, ?hy0Z1⟩) (by assumption) ?rest0Z1
              case hi0Z1 => (simp only [List.getElem?_toArray, List.getElem?_cons_succ, List.getElem?_cons_zero]; rfl)
              case hq0Z1 => exact fun _ _ _ h => h
              case hw0Z1 => rfl
              case hy0Z1 => (intro w hSw; (try dsimp only at hSw); go_simp <;> with_reducible rfl)
              try simp only [Act.put, List.setIfInBounds_toArray, List.set_cons_zero, List.set_cons_succ]
              refine wpAnyH_take (i := 2) (oi := ?oi2Z1) (v := ?v2Z1) ?hi2Z1 (by kernel_rfl) (by kernel_rfl) (by kernel_rfl) ?hq2Z1 (Or.inl ⟨?hw2Z1, ?hy2Z1⟩) (by assumption) ?rest2Z1
              case hi2Z1 => (simp only [List.getElem?_toArray, List.getElem?_cons_succ, List.getElem?_cons_zero]; rfl)
              case hq2Z1 => exact fun _ _ _ h => h
              case hw2Z1 => rfl
              case hy2Z1 => (intro w hSw; (try dsimp only at hSw); go_simp <;> with_reducible rfl)
              try simp only [Act.put, List.setIfInBounds_toArray, List.set_cons_zero, List.set_cons_succ]
              refine wpAnyH_take (i := 3) (oi := ?oi3Z1) (v := ?v3Z1) ?hi3Z1 (by kernel_rfl) (by kernel_rfl) (by kernel_rfl) ?hq3Z1 (Or.inl ⟨?hw3Z1, ?hy3Z1⟩) (by assumption) ?rest3Z1
              case hi3Z1 => (simp only [List.getElem?_toArray, List.getElem?_cons_succ, List.getElem?_cons_zero]; rfl)
              case hq3Z1 => exact fun _ _ _ h => h
              case hw3Z1 => rfl
              case hy3Z1 => (intro w hSw; (try dsimp only at hSw); go_simp <;> with_reducible rfl)
              try simp only [Act.put, List.setIfInBounds_toArray, List.set_cons_zero, List.set_cons_succ]
              refine wpAnyH_ready (rs := [1]) (by kernel_rfl) (by simp) ?_
              refine AllReadyH.cons (o := ?o1Z1) ?hi1Z1 (fun K hK => ?st1Z1) AllReadyH.nil
              case hi1Z1 => (simp only [List.getElem?_toArray, List.getElem?_cons_succ, List.getElem?_cons_zero]; rfl)
              go_simp
              refine (rhas1_at k 103 103 false rfl H103 _).mono ?_
              rintro e w7 ⟨rfl, hx7⟩
              have hx7 : Below (w6.drew).heap.size (w6.drew) w7 := hx7
              have hb7 := (Below.drew hb6).trans (hx7.mono (Below.drew hb6).size)
              have hbxa7 := (hbxa6.drew).kept (Keep.of_below hx7) (fun h => absurd (hbxa6).lt (Nat.not_lt.2 h))
              have hila7 := (hila6.drew).below hx7
              have hSa7 := boxS (c := c) (m := m) (k := k) (o := o) (r := r) (t := t) (n := n) (g := g) (l := l) (A := A) (cap := cap) hbxa7
              go_wp2_with fail
              refine hK.out _ _ ⟨hSa7.2.2.2.2.2.2.2.1, hSa7.2.2.2.2.2.2.2.2⟩ (fun hHeld2 => ?_)
              clear hK K hHeld
              have hHeld := hHeld2
              clear hHeld2
              try simp only [Act.put, List.setIfInBounds_toArray, List.set_cons_zero, List.set_cons_succ]
              refine wpAnyH_ready (rs := [4]) (by kernel_rfl) (by simp) ?_
              refine AllReadyH.cons (o := ?o4Z1) ?hi4Z1 (fun K hK => ?st4Z1) AllReadyH.nil
              case hi4Z1 => (simp only [List.getElem?_toArray, List.getElem?_cons_succ, List.getElem?_cons_zero]; rfl)
              go_simp
              refine (refgood_any g _ hg7).mono ?_
              rintro e w' ⟨rfl, hww⟩
              subst w'
              rw [hgg]
              go_wp2_with fail
              refine hK.out _ _ ⟨hSa7.2.2.2.2.2.2.2.1, hSa7.2.2.2.2.2.2.2.2⟩ (fun hHeld2 => ?_)
              clear hK K hHeld
              have hHeld := hHeld2
              clear hHeld2
              try simp only [Act.put, List.setIfInBounds_toArray, List.set_cons_zero, List.set_cons_succ]
              refine wpAnyH_take (i := 5) (oi := ?oi5Z1) (v := ?v5Z1) ?hi5Z1 (by kernel_rfl) (by kernel_rfl) (by kernel_rfl) ?hq5Z1 (Or.inl ⟨?hw5Z1, ?hy5Z1⟩) (by assumption) ?rest5Z1
              case hi5Z1 => (simp only [List.getElem?_toArray, List.getElem?_cons_succ, List.getElem?_cons_zero]; rfl)
              case hq5Z1 => exact fun _ _ _ h => h
              case hw5Z1 => rfl
              case hy5Z1 => (intro w hSw; (try dsimp only at hSw); go_simp <;> with_reducible rfl)
              try simp only [Act.put, List.setIfInBounds_toArray, List.set_cons_zero, List.set_cons_succ]
              refine wpAnyH_take (i := 6) (oi := ?oi6Z1) (v := ?v6Z1) ?hi6Z1 (by kernel_rfl) (by kernel_rfl) (by kernel_rfl) ?hq6Z1 (Or.inl ⟨?hw6Z1, ?hy6Z1⟩) (by assumption) ?rest6Z1
              case hi6Z1 => (simp only [List.getElem?_toArray, List.getElem?_cons_succ, List.getElem?_cons_zero]; rfl)
              case hq6Z1 => exact fun _ _ _ h => h
              case hw6Z1 => rfl
              case hy6Z1 => (intro w hSw; (try dsimp only at hSw); go_simp <;> with_reducible rfl)
              try simp only [Act.put, List.setIfInBounds_toArray, List.set_cons_zero, List.set_cons_succ]
              refine wpAnyH_take (i := 7) (oi := ?oi7Z1) (v := undef) ?hi7Z1 (by kernel_rfl) (by kernel_rfl) (by kernel_rfl) ?hq7Z1 (Or.inr ⟨?hw7Z1, rfl⟩) (by assumption) ?rest7Z1
              case hi7Z1 => (simp only [List.getElem?_toArray, List.getElem?_cons_succ, List.getElem?_cons_zero]; rfl)
              case hq7Z1 => exact fun _ _ _ h => h
              case hw7Z1 => rfl
              try simp only [Act.put, List.setIfInBounds_toArray, List.set_cons_zero, List.set_cons_succ]
              refine wpAnyH_take (i := 8) (oi := ?oi8Z1) (v := undef) ?hi8Z1 (by kernel_rfl) (by kernel_rfl) (by kernel_rfl) ?hq8Z1 (Or.inr ⟨?hw8Z1, rfl⟩) (by assumption) ?rest8Z1
              case hi8Z1 => (simp only [List.getElem?_toArray, List.getElem?_cons_succ, List.getElem?_cons_zero]; rfl)
              case hq8Z1 => exact fun _ _ _ h => h
              case hw8Z1 => rfl
              try simp only [Act.put, List.setIfInBounds_toArray, List.set_cons_zero, List.set_cons_succ]
              refine wpAnyH_take (i := 9) (oi := ?oi9Z1) (v := undef) ?hi9Z1 (by kernel_rfl) (by kernel_rfl) (by kernel_rfl) ?hq9Z1 (Or.inr ⟨?hw9Z1, rfl⟩) (by assumption) ?rest9Z1
              case hi9Z1 => (simp only [List.getElem?_toArray, List.getElem?_cons_succ, List.getElem?_cons_zero]; rfl)
              case hq9Z1 => exact fun _ _ _ h => h
              case hw9Z1 => rfl
              try simp only [Act.put, List.setIfInBounds_toArray, List.set_cons_zero, List.set_cons_succ]
              refine wpAnyH_take (i := 10) (oi := ?oi10Z1) (v := undef) ?hi10Z1 (by kernel_rfl) (by kernel_rfl) (by kernel_rfl) ?hq10Z1 (Or.inr ⟨?hw10Z1, rfl⟩) (by assumption) ?rest10Z1
              case hi10Z1 => (simp only [List.getElem?_toArray, List.getElem?_cons_succ, List.getElem?_cons_zero]; rfl)
              case hq10Z1 => exact fun _ _ _ h => h
              case hw10Z1 => rfl
              try simp only [Act.put, List.setIfInBounds_toArray, List.set_cons_zero, List.set_cons_succ]
              refine wpAnyH_take (i := 11) (oi := ?oi11Z1) (v := undef) ?hi11Z1 (by kernel_rfl) (by kernel_rfl) (by kernel_rfl) ?hq11Z1 (Or.inr ⟨?hw11Z1, rfl⟩) (by assumption) ?rest11Z1
              case hi11Z1 => (simp only [List.getElem?_toArray, List.getElem?_cons_succ, List.getElem?_cons_zero]; rfl)
              case hq11Z1 => exact fun _ _ _ h => h
              case hw11Z1 => rfl
              try simp only [Act.put, List.setIfInBounds_toArray, List.set_cons_zero, List.set_cons_succ]
              refine wpAnyH_take (i := 12) (oi := ?oi12Z1) (v := undef) ?hi12Z1 (by kernel_rfl) (by kernel_rfl) (by kernel_rfl) ?hq12Z1 (Or.inr ⟨?hw12Z1, rfl⟩) (by assumption) ?rest12Z1
              case hi12Z1 => (simp only [List.getElem?_toArray, List.getElem?_cons_succ, List.getElem?_cons_zero]; rfl)
              case hq12Z1 => exact fun _ _ _ h => h
              case hw12Z1 => rfl
              try simp only [Act.put, List.setIfInBounds_toArray, List.set_cons_zero, List.set_cons_succ]
              refine wpAnyH_take (i := 13) (oi := ?oi13Z1) (v := undef) ?hi13Z1 (by kernel_rfl) (by kernel_rfl) (by kernel_rfl) ?hq13Z1 (Or.inr ⟨?hw13Z1, rfl⟩) (by assumption) ?rest13Z1
              case hi13Z1 => (simp only [List.getElem?_toArray, List.getElem?_cons_succ, List.getElem?_cons_zero]; rfl)
              case hq13Z1 => exact fun _ _ _ h => h
              case hw13Z1 => rfl
              try simp only [Act.put, List.setIfInBounds_toArray, List.set_cons_zero, List.set_cons_succ]
              refine wpAnyH_take (i := 14) (oi := ?oi14Z1) (v := undef) ?hi14Z1 (by kernel_rfl) (by kernel_rfl) (by kernel_rfl) ?hq14Z1 (Or.inr ⟨?hw14Z1, rfl⟩) (by assumption) ?rest14Z1
              case hi14Z1 => (simp only [List.getElem?_toArray, List.getElem?_cons_succ, List.getElem?_cons_zero]; rfl)
              case hq14Z1 => exact fun _ _ _ h => h
              case hw14Z1 => rfl
              try simp only [Act.put, List.setIfInBounds_toArray, List.set_cons_zero, List.set_cons_succ]
              refine wpAnyH_take (i := 15) (oi := ?oi15Z1) (v := ?v15Z1) ?hi15Z1 (by kernel_rfl) (by kernel_rfl) (by kernel_rfl) ?hq15Z1 (Or.inl ⟨?hw15Z1, ?hy15Z1⟩) (by assumption) ?rest15Z1
              case hi15Z1 => (simp only [List.getElem?_toArray, List.getElem?_cons_succ, List.getElem?_cons_zero]; rfl)
              case hq15Z1 => exact fun _ _ _ h => h
              case hw15Z1 => rfl
              case hy15Z1 => (intro w hSw; (try dsimp only at hSw); go_simp <;> with_reducible rfl)
              try simp only [Act.put, List.setIfInBounds_toArray, List.set_cons_zero, List.set_cons_succ]
              refine wpAnyH_done (by kernel_rfl) ?_ _
              have hno : mayA ⟨c, m, k, o, r, t, n, g, l⟩ = false := by rw [hM, hC, h5, h6, h7, h8, h11]; rfl
              go_wp2
              go_ret
              exact ⟨by rw [hno]; rfl, hb7⟩
            | false =>
              have hSa6 := boxS (c := c) (m := m) (k := k) (o := o) (r := r) (t := t) (n := n) (g := g) (l := l) (A := A) (cap := cap) hbxa6
              go_wp2_with fail
              refine wp_region_held_drew (S := (fun w' => w'.cell? ⟨w.heap.size, 7, none⟩ = some (.string ⟨g.toArray⟩) ∧ w'.cell? ⟨w.heap.size, 8, none⟩ = some (.slice A l.length cap))) (by kernel_rfl) ⟨hSa6.2.2.2.2.2.2.2.1, hSa6.2.2.2.2.2.2.2.2⟩ (fun hHeld => ?_)
              refine wpAnyH_take (i := 0) (oi := ?oi0Z2) (v := ?v0Z2) ?hi0Z2 (by kernel_rfl) (by kernel_rfl) (by kernel_rfl) ?hq0Z2 (Or.inl ⟨?hw0Z2, ?hy0Z2⟩) (by assumption) ?rest0Z2
              case hi0Z2 => (simp only [List.getElem?_toArray, List.getElem?_cons_succ, List.getElem?_cons_zero]; rfl)
              case hq0Z2 => exact fun _ _ _ h => h
              case hw0Z2 => rfl
              case hy0Z2 => (intro w hSw; (try dsimp only at hSw); go_simp <;> with_reducible rfl)
              try simp only [Act.put, List.setIfInBounds_toArray, List.set_cons_zero, List.set_cons_succ]
              refine wpAnyH_take (i := 2) (oi := ?oi2Z2) (v := ?v2Z2) ?hi2Z2 (by kernel_rfl) (by kernel_rfl) (by kernel_rfl) ?hq2Z2 (Or.inl ⟨?hw2Z2, ?hy2Z2⟩) (by assumption) ?rest2Z2
              case hi2Z2 => (simp only [List.getElem?_toArray, List.getElem?_cons_succ, List.getElem?_cons_zero]; rfl)
              case hq2Z2 => exact fun _ _ _ h => h
              case hw2Z2 => rfl
              case hy2Z2 => (intro w hSw; (try dsimp only at hSw); go_simp <;> with_reducible rfl)
              try simp only [Act.put, List.setIfInBounds_toArray, List.set_cons_zero, List.set_cons_succ]
              refine wpAnyH_take (i := 3) (oi := ?oi3Z2) (v := ?v3Z2) ?hi3Z2 (by kernel_rfl) (by kernel_rfl) (by kernel_rfl) ?hq3Z2 (Or.inl ⟨?hw3Z2, ?hy3Z2⟩) (by assumption) ?rest3Z2
              case hi3Z2 => (simp only [List.getElem?_toArray, List.getElem?_cons_succ, List.getElem?_cons_zero]; rfl)
              case hq3Z2 => exact fun _ _ _ h => h
              case hw3Z2 => rfl
              case hy3Z2 => (intro w hSw; (try dsimp only at hSw); go_simp <;> with_reducible rfl)
              try simp only [Act.put, List.setIfInBounds_toArray, List.set_cons_zero, List.set_cons_succ]
              refine wpAnyH_ready (rs := [1]) (by kernel_rfl) (by simp) ?_
              refine AllReadyH.cons (o := ?o1Z2) ?hi1Z2 (fun K hK => ?st1Z2) AllReadyH.nil
              case hi1Z2 => (simp only [List.getElem?_toArray, List.getElem?_cons_succ, List.getElem?_cons_zero]; rfl)
              go_simp
              refine (rhas1_at k 103 103 false rfl H103 _).mono ?_
              rintro e w7 ⟨rfl, hx7⟩
              have hx7 : Below (w6.drew).heap.size (w6.drew) w7 := hx7
              have hb7 := (Below.drew hb6).trans (hx7.mono (Below.drew hb6).size)
              have hbxa7 := (hbxa6.drew).kept (Keep.of_below hx7) (fun h => absurd (hbxa6).lt (Nat.not_lt.2 h))
              have hila7 := (hila6.drew).below hx7
              have hSa7 := boxS (c := c) (m := m) (k := k) (o := o) (r := r) (t := t) (n := n) (g := g) (l := l) (A := A) (cap := cap) hbxa7
              go_wp2_with fail
              refine hK.out _ _ ⟨hSa7.2.2.2.2.2.2.2.1, hSa7.2.2.2.2.2.2.2.2⟩ (fun hHeld2 => ?_)
              clear hK K hHeld
              have hHeld := hHeld2
              clear hHeld2
              try simp only [Act.put, List.setIfInBounds_toArray, List.set_cons_zero, List.set_cons_succ]
              refine wpAnyH_ready (rs := [4]) (by kernel_rfl) (by simp) ?_
              refine AllReadyH.cons (o := ?o4Z2) ?hi4Z2 (fun K hK => ?st4Z2) AllReadyH.nil
              case hi4Z2 => (simp only [List.getElem?_toArray, List.getElem?_cons_succ, List.getElem?_cons_zero]; rfl)
              go_simp
              refine (refgood_any g _ hg7).mono ?_
              rintro e w' ⟨rfl, hww⟩
              subst w'
              rw [hgg]
              go_wp2_with fail
              refine hK.out _ _ ⟨hSa7.2.2.2.2.2.2.2.1, hSa7.2.2.2.2.2.2.2.2⟩ (fun hHeld2 => ?_)
              clear hK K hHeld
              have hHeld := hHeld2
              clear hHeld2
              try simp only [Act.put, List.setIfInBounds_toArray, List.set_cons_zero, List.set_cons_succ]
              refine wpAnyH_take (i := 5) (oi := ?oi5Z2) (v := ?v5Z2) ?hi5Z2 (by kernel_rfl) (by kernel_rfl) (by kernel_rfl) ?hq5Z2 (Or.inl ⟨?hw5Z2, ?hy5Z2⟩) (by assumption) ?rest5Z2
              case hi5Z2 => (simp only [List.getElem?_toArray, List.getElem?_cons_succ, List.getElem?_cons_zero]; rfl)
              case hq5Z2 => exact fun _ _ _ h => h
              case hw5Z2 => rfl
              case hy5Z2 => (intro w hSw; (try dsimp only at hSw); go_simp <;> with_reducible rfl)
              try simp only [Act.put, List.setIfInBounds_toArray, List.set_cons_zero, List.set_cons_succ]
              refine wpAnyH_take (i := 6) (oi := ?oi6Z2) (v := ?v6Z2) ?hi6Z2 (by kernel_rfl) (by kernel_rfl) (by kernel_rfl) ?hq6Z2 (Or.inl ⟨?hw6Z2, ?hy6Z2⟩) (by assumption) ?rest6Z2
              case hi6Z2 => (simp only [List.getElem?_toArray, List.getElem?_cons_succ, List.getElem?_cons_zero]; rfl)
              case hq6Z2 => exact fun _ _ _ h => h
              case hw6Z2 => rfl
              case hy6Z2 => (intro w hSw; (try dsimp only at hSw); go_simp <;> with_reducible rfl)
              try simp only [Act.put, List.setIfInBounds_toArray, List.set_cons_zero, List.set_cons_succ]
              refine wpAnyH_take (i := 7) (oi := ?oi7Z2) (v := ?v7Z2) ?hi7Z2 (by kernel_rfl) (by kernel_rfl) (by kernel_rfl) ?hq7Z2 (Or.inl ⟨?hw7Z2, ?hy7Z2⟩) (by assumption) ?rest7Z2
              case hi7Z2 => (simp only [List.getElem?_toArray, List.getElem?_cons_succ, List.getElem?_cons_zero]; rfl)
              case hq7Z2 => exact fun _ _ _ h => h
              case hw7Z2 => rfl
              case hy7Z2 => (intro w hSw; (try dsimp only at hSw); go_simp <;> with_reducible rfl)
              try simp only [Act.put, List.setIfInBounds_toArray, List.set_cons_zero, List.set_cons_succ]
              refine wpAnyH_ready (rs := [8]) (by kernel_rfl) (by simp) ?_
              refine AllReadyH.cons (o := ?o8Z2) ?hi8Z2 (fun K hK => ?st8Z2) AllReadyH.nil
              case hi8Z2 => (simp only [List.getElem?_toArray, List.getElem?_cons_succ, List.getElem?_cons_zero]; rfl)
              go_simp
              refine (rhas1_at k 103 103 false rfl H103 _).mono ?_
              rintro e w8 ⟨rfl, hx8⟩
              have hx8 : Below (w7).heap.size (w7) w8 := hx8
              have hb8 := hb7.trans (hx8.mono hb7.size)
              have hbxa8 := (hbxa7).kept (Keep.of_below hx8) (fun h => absurd (hbxa7).lt (Nat.not_lt.2 h))
              have hila8 := (hila7).below hx8
              have hSa8 := boxS (c := c) (m := m) (k := k) (o := o) (r := r) (t := t) (n := n) (g := g) (l := l) (A := A) (cap := cap) hbxa8
              go_wp2_with fail
              refine hK.out _ _ ⟨hSa8.2.2.2.2.2.2.2.1, hSa8.2.2.2.2.2.2.2.2⟩ (fun hHeld2 => ?_)
              clear hK K hHeld
              have hHeld := hHeld2
              clear hHeld2
              try simp only [Act.put, List.setIfInBounds_toArray, List.set_cons_zero, List.set_cons_succ]
              refine wpAnyH_take (i := 9) (oi := ?oi9Z2) (v := ?v9Z2) ?hi9Z2 (by kernel_rfl) (by kernel_rfl) (by kernel_rfl) ?hq9Z2 (Or.inl ⟨?hw9Z2, ?hy9Z2⟩) (by assumption) ?rest9Z2
              case hi9Z2 => (simp only [List.getElem?_toArray, List.getElem?_cons_succ, List.getElem?_cons_zero]; rfl)
              case hq9Z2 => exact fun _ _ _ h => h
              case hw9Z2 => rfl
              case hy9Z2 => (intro w hSw; (try dsimp only at hSw); go_simp <;> with_reducible rfl)
              try simp only [Act.put, List.setIfInBounds_toArray, List.set_cons_zero, List.set_cons_succ]
              refine wpAnyH_take (i := 10) (oi := ?oi10Z2) (v := ?v10Z2) ?hi10Z2 (by kernel_rfl) (by kernel_rfl) (by kernel_rfl) ?hq10Z2 (Or.inl ⟨?hw10Z2, ?hy10Z2⟩) (by assumption) ?rest10Z2
              case hi10Z2 => (simp only [List.getElem?_toArray, List.getElem?_cons_succ, List.getElem?_cons_zero]; rfl)
              case hq10Z2 => exact fun _ _ _ h => h
              case hw10Z2 => rfl
              case hy10Z2 => (intro w hSw; (try dsimp only at hSw); go_simp <;> with_reducible rfl)
              try simp only [Act.put, List.setIfInBounds_toArray, List.set_cons_zero, List.set_cons_succ]
              refine wpAnyH_take (i := 11) (oi := ?oi11Z2) (v := ?v11Z2) ?hi11Z2 (by kernel_rfl) (by kernel_rfl) (by kernel_rfl) ?hq11Z2 (Or.inl ⟨?hw11Z2, ?hy11Z2⟩) (by assumption) ?rest11Z2
              case hi11Z2 => (simp only [List.getElem?_toArray, List.getElem?_cons_succ, List.getElem?_cons_zero]; rfl)
              case hq11Z2 => exact fun _ _ _ h => h
              case hw11Z2 => rfl
              case hy11Z2 => (intro w hSw; (try dsimp only at hSw); go_simp <;> with_reducible rfl)
              try simp only [Act.put, List.setIfInBounds_toArray, List.set_cons_zero, List.set_cons_succ]
              refine wpAnyH_take (i := 12) (oi := ?oi12Z2) (v := ?v12Z2) ?hi12Z2 (by kernel_rfl) (by kernel_rfl) (by kernel_rfl) ?hq12Z2 (Or.inl ⟨?hw12Z2, ?hy12Z2⟩) (by assumption) ?rest12Z2
              case hi12Z2 => (simp only [List.getElem?_toArray, List.getElem?_cons_succ, List.getElem?_cons_zero]; rfl)
              case hq12Z2 => exact fun _ _ _ h => h
              case hw12Z2 => rfl
              case hy12Z2 => (intro w hSw; (try dsimp only at hSw); go_simp <;> with_reducible rfl)
              try simp only [Act.put, List.setIfInBounds_toArray, List.set_cons_zero, List.set_cons_succ]
              refine wpAnyH_take (i := 13) (oi := ?oi13Z2) (v := ?v13Z2) ?hi13Z2 (by kernel_rfl) (by kernel_rfl) (by kernel_rfl) ?hq13Z2 (Or.inl ⟨?hw13Z2, ?hy13Z2⟩) (by assumption) ?rest13Z2
              case hi13Z2 => (simp only [List.getElem?_toArray, List.getElem?_cons_succ, List.getElem?_cons_zero]; rfl)
              case hq13Z2 => exact fun _ _ _ h => h
              case hw13Z2 => rfl
              case hy13Z2 => (intro w hSw; (try dsimp only at hSw); go_simp <;> with_reducible rfl)
              try simp only [Act.put, List.setIfInBounds_toArray, List.set_cons_zero, List.set_cons_succ]
              refine wpAnyH_take (i := 14) (oi := ?oi14Z2) (v := ?v14Z2) ?hi14Z2 (by kernel_rfl) (by kernel_rfl) (by kernel_rfl) ?hq14Z2 (Or.inl ⟨?hw14Z2, ?hy14Z2⟩) (by assumption) ?rest14Z2
              case hi14Z2 => (simp only [List.getElem?_toArray, List.getElem?_cons_succ, List.getElem?_cons_zero]; rfl)
              case hq14Z2 => exact fun _ _ _ h => h
              case hw14Z2 => rfl
              case hy14Z2 => (intro w hSw; (try dsimp only at hSw); go_simp <;> with_reducible rfl)
              try simp only [Act.put, List.setIfInBounds_toArray, List.set_cons_zero, List.set_cons_succ]
              refine wpAnyH_take (i := 15) (oi := ?oi15Z2) (v := ?v15Z2) ?hi15Z2 (by kernel_rfl) (by kernel_rfl) (by kernel_rfl) ?hq15Z2 (Or.inl ⟨?hw15Z2, ?hy15Z2⟩) (by assumption) ?rest15Z2
              case hi15Z2 => (simp only [List.getElem?_toArray, List.getElem?_cons_succ, List.getElem?_cons_zero]; rfl)
              case hq15Z2 => exact fun _ _ _ h => h
              case hw15Z2 => rfl
              case hy15Z2 => (intro w hSw; (try dsimp only at hSw); go_simp <;> with_reducible rfl)
              try simp only [Act.put, List.setIfInBounds_toArray, List.set_cons_zero, List.set_cons_succ]
              refine wpAnyH_done (by kernel_rfl) ?_ _
              have hno : mayA ⟨c, m, k, o, r, t, n, g, l⟩ = false := by rw [hM, hC, h5, h6, h7, h8, h11]; rfl
              go_wp2
              go_ret
              exact ⟨by rw [hno]; rfl, hb8⟩
          have h11 : decide (g = []) = true := decide_eq_true qg
          have qgb : (g == []) = true := beq_iff_eq.2 qg
          have hgg : gOK g = false := by rw [qg]; rfl
          clear qg
          have hSa6 := boxS (c := c) (m := m) (k := k) (o := o) (r := r) (t := t) (n := n) (g := g) (l := l) (A := A) (cap := cap) hbxa6
          go_wp2_with fail
          refine wp_region_held_drew (S := (fun w' => w'.cell? ⟨w.heap.size, 7, none⟩ = some (.string ⟨g.toArray⟩) ∧ w'.cell? ⟨w.heap.size, 8, none⟩ = some (.slice A l.length cap))) (by kernel_rfl) ⟨hSa6.2.2.2.2.2.2.2.1, hSa6.2.2.2.2.2.2.2.2⟩ (fun hHeld => ?_)
          refine wpAnyH_take (i := 0) (oi := ?oi0Z3) (v := ?v0Z3) ?hi0Z3 (by kernel_rfl) (by kernel_rfl) (by kernel_rfl) ?hq0Z3 (Or.inl ⟨?hw0Z3, ?hy0Z3⟩) (by assumption) ?rest0Z3
          case hi0Z3 => (simp only [List.getElem?_toArray, List.getElem?_cons_succ, List.getElem?_cons_zero]; rfl)
          case hq0Z3 => exact fun _ _ _ h => h
          case hw0Z3 => rfl
          case hy0Z3 => (intro w hSw; (try dsimp only at hSw); go_simp <;> with_reducible rfl)
          try simp only [Act.put, List.setIfInBounds_toArray, List.set_cons_zero, List.set_cons_succ]
          refine wpAnyH_take (i := 2) (oi := ?oi2Z3) (v := ?v2Z3) ?hi2Z3 (by kernel_rfl) (by kernel_rfl) (by kernel_rfl) ?hq2Z3 (Or.inl ⟨?hw2Z3, ?hy2Z3⟩) (by assumption) ?rest2Z3
          case hi2Z3 => (simp only [List.getElem?_toArray, List.getElem?_cons_succ, List.getElem?_cons_zero]; rfl)
          case hq2Z3 => exact fun _ _ _ h => h
          case hw2Z3 => rfl
          case hy2Z3 => (intro w hSw; (try dsimp only at hSw); go_simp <;> with_reducible rfl)
          try simp only [Act.put, List.setIfInBounds_toArray, List.set_cons_zero, List.set_cons_succ]
          refine wpAnyH_take (i := 3) (oi := ?oi3Z3) (v := ?v3Z3) ?hi3Z3 (by kernel_rfl) (by kernel_rfl) (by kernel_rfl) ?hq3Z3 (Or.inl ⟨?hw3Z3, ?hy3Z3⟩) (by assumption) ?rest3Z3
          case hi3Z3 => (simp only [List.getElem?_toArray, List.getElem?_cons_succ, List.getElem?_cons_zero]; rfl)
          case hq3Z3 => exact fun _ _ _ h => h
          case hw3Z3 => rfl
          case hy3Z3 => (intro w hSw; (try dsimp only at hSw); go_simp <;> with_reducible rfl)
          try simp only [Act.put, List.setIfInBounds_toArray, List.set_cons_zero, List.set_cons_succ]
          refine wpAnyH_ready (rs := [1]) (by kernel_rfl) (by simp) ?_
          refine AllReadyH.cons (o := ?o1Z3) ?hi1Z3 (fun K hK => ?st1Z3) AllReadyH.nil
          case hi1Z3 => (simp only [List.getElem?_toArray, List.getElem?_cons_succ, List.getElem?_cons_zero]; rfl)
          go_simp
          refine (rhas1_at k 103 103 false rfl H103 _).mono ?_
          rintro e w7 ⟨rfl, hx7⟩
          have hx7 : Below (w6.drew).heap.size (w6.drew) w7 := hx7
          have hb7 := (Below.drew hb6).trans (hx7.mono (Below.drew hb6).size)
          have hbxa7 := (hbxa6.drew).kept (Keep.of_below hx7) (fun h => absurd (hbxa6).lt (Nat.not_lt.2 h))
          have hila7 := (hila6.drew).below hx7
          have hSa7 := boxS (c := c) (m := m) (k := k) (o := o) (r := r) (t := t) (n := n) (g := g) (l := l) (A := A) (cap := cap) hbxa7
          go_wp2_with fail
          refine hK.out _ _ ⟨hSa7.2.2.2.2.2.2.2.1, hSa7.2.2.2.2.2.2.2.2⟩ (fun hHeld2 => ?_)
          clear hK K hHeld
          have hHeld := hHeld2
          clear hHeld2
          try simp only [Act.put, List.setIfInBounds_toArray, List.set_cons_zero, List.set_cons_succ]
          refine wpAnyH_ready (rs := [4]) (by kernel_rfl) (by simp) ?_
          refine AllReadyH.cons (o := ?o4Z3) ?hi4Z3 (fun K hK => ?st4Z3) AllReadyH.nil
          case hi4Z3 => (simp only [List.getElem?_toArray, List.getElem?_cons_succ, List.getElem?_cons_zero]; rfl)
          go_simp
          refine (refgood_any g _ hg7).mono ?_
          rintro e w' ⟨rfl, hww⟩
          subst w'
          rw [hgg]
          go_wp2_with fail
          refine hK.out _ _ ⟨hSa7.2.2.2.2.2.2.2.1, hSa7.2.2.2.2.2.2.2.2⟩ (fun hHeld2 => ?_)
          clear hK K hHeld
          have hHeld := hHeld2
          clear hHeld2
          try simp only [Act.put, List.setIfInBounds_toArray, List.set_cons_zero, List.set_cons_succ]
          refine wpAnyH_take (i := 5) (oi := ?oi5Z3) (v := ?v5Z3) ?hi5Z3 (by kernel_rfl) (by kernel_rfl) (by kernel_rfl) ?hq5Z3 (Or.inl ⟨?hw5Z3, ?hy5Z3⟩) (by assumption) ?rest5Z3
          case hi5Z3 => (simp only [List.getElem?_toArray, List.getElem?_cons_succ, List.getElem?_cons_zero]; rfl)
          case hq5Z3 => exact fun _ _ _ h => h
          case hw5Z3 => rfl
          case hy5Z3 => (intro w hSw; (try dsimp only at hSw); go_simp <;> with_reducible rfl)
          try simp only [Act.put, List.setIfInBounds_toArray, List.set_cons_zero, List.set_cons_succ]
          refine wpAnyH_take (i := 6) (oi := ?oi6Z3) (v := ?v6Z3) ?hi6Z3 (by kernel_rfl) (by kernel_rfl) (by kernel_rfl) ?hq6Z3 (Or.inl ⟨?hw6Z3, ?hy6Z3⟩) (by assumption) ?rest6Z3
          case hi6Z3 => (simp only [List.getElem?_toArray, List.getElem?_cons_succ, List.getElem?_cons_zero]; rfl)
          case hq6Z3 => exact fun _ _ _ h => h
          case hw6Z3 => rfl
          case hy6Z3 => (intro w hSw; (try dsimp only at hSw); go_simp <;> with_reducible rfl)
          try simp only [Act.put, List.setIfInBounds_toArray, List.set_cons_zero, List.set_cons_succ]
          refine wpAnyH_take (i := 7) (oi := ?oi7Z3) (v := ?v7Z3) ?hi7Z3 (by kernel_rfl) (by kernel_rfl) (by kernel_rfl) ?hq7Z3 (Or.inl ⟨?hw7Z3, ?hy7Z3⟩) (by assumption) ?rest7Z3
          case hi7Z3 => (simp only [List.getElem?_toArray, List.getElem?_cons_succ, List.getElem?_cons_zero]; rfl)
          case hq7Z3 => exact fun _ _ _ h => h
          case hw7Z3 => rfl
          case hy7Z3 => (intro w hSw; (try dsimp only at hSw); go_simp <;> with_reducible rfl)
          try simp only [Act.put, List.setIfInBounds_toArray, List.set_cons_zero, List.set_cons_succ]
          refine wpAnyH_ready (rs := [8]) (by kernel_rfl) (by simp) ?_
          refine AllReadyH.cons (o := ?o8Z3) ?hi8Z3 (fun K hK => ?st8Z3) AllReadyH.nil
          case hi8Z3 => (simp only [List.getElem?_toArray, List.getElem?_cons_succ, List.getElem?_cons_zero]; rfl)
          go_simp
          refine (rhas1_at k 103 103 false rfl H103 _).mono ?_
          rintro e w8 ⟨rfl, hx8⟩
          have hx8 : Below (w7).heap.size (w7) w8 := hx8
          have hb8 := hb7.trans (hx8.mono hb7.size)
          have hbxa8 := (hbxa7).kept (Keep.of_below hx8) (fun h => absurd (hbxa7).lt (Nat.not_lt.2 h))
          have hila8 := (hila7).below hx8
          have hSa8 := boxS (c := c) (m := m) (k := k) (o := o) (r := r) (t := t) (n := n) (g := g) (l := l) (A := A) (cap := cap) hbxa8
          go_wp2_with fail
          refine hK.out _ _ ⟨hSa8.2.2.2.2.2.2.2.1, hSa8.2.2.2.2.2.2.2.2⟩ (fun hHeld2 => ?_)
          clear hK K hHeld
          have hHeld := hHeld2
          clear hHeld2
          try simp only [Act.put, List.setIfInBounds_toArray, List.set_cons_zero, List.set_cons_succ]
          refine wpAnyH_take (i := 9) (oi := ?oi9Z3) (v := ?v9Z3) ?hi9Z3 (by kernel_rfl) (by kernel_rfl) (by kernel_rfl) ?hq9Z3 (Or.inl ⟨?hw9Z3, ?hy9Z3⟩) (by assumption) ?rest9Z3
          case hi9Z3 => (simp only [List.getElem?_toArray, List.getElem?_cons_succ, List.getElem?_cons_zero]; rfl)
          case hq9Z3 => exact fun _ _ _ h => h
          case hw9Z3 => rfl
          case hy9Z3 => (intro w hSw; (try dsimp only at hSw); go_simp <;> with_reducible rfl)
          try simp only [Act.put, List.setIfInBounds_toArray, List.set_cons_zero, List.set_cons_succ]
          refine wpAnyH_take (i := 10) (oi := ?oi10Z3) (v := ?v10Z3) ?hi10Z3 (by kernel_rfl) (by kernel_rfl) (by kernel_rfl) ?hq10Z3 (Or.inl ⟨?hw10Z3, ?hy10Z3⟩) (by assumption) ?rest10Z3
          case hi10Z3 => (simp only [List.getElem?_toArray, List.getElem?_cons_succ, List.getElem?_cons_zero]; rfl)
          case hq10Z3 => exact fun _ _ _ h => h
          case hw10Z3 => rfl
          case hy10Z3 => (intro w hSw; (try dsimp only at hSw); go_simp <;> with_reducible rfl)
          try simp only [Act.put, List.setIfInBounds_toArray, List.set_cons_zero, List.set_cons_succ]
          refine wpAnyH_take (i := 11) (oi := ?oi11Z3) (v := ?v11Z3) ?hi11Z3 (by kernel_rfl) (by kernel_rfl) (by kernel_rfl) ?hq11Z3 (Or.inl ⟨?hw11Z3, ?hy11Z3⟩) (by assumption) ?rest11Z3
          case hi11Z3 => (simp only [List.getElem?_toArray, List.getElem?_cons_succ, List.getElem?_cons_zero]; rfl)
          case hq11Z3 => exact fun _ _ _ h => h
          case hw11Z3 => rfl
          case hy11Z3 => (intro w hSw; (try dsimp only at hSw); go_simp <;> with_reducible rfl)
          try simp only [Act.put, List.setIfInBounds_toArray, List.set_cons_zero, List.set_cons_succ]
          refine wpAnyH_take (i := 12) (oi := ?oi12Z3) (v := ?v12Z3) ?hi12Z3 (by kernel_rfl) (by kernel_rfl) (by kernel_rfl) ?hq12Z3 (Or.inl ⟨?hw12Z3, ?hy12Z3⟩) (by assumption) ?rest12Z3
          case hi12Z3 => (simp only [List.getElem?_toArray, List.getElem?_cons_succ, List.getElem?_cons_zero]; rfl)
          case hq12Z3 => exact fun _ _ _ h => h
          case hw12Z3 => rfl
          case hy12Z3 => (intro w hSw; (try dsimp only at hSw); go_simp <;> with_reducible rfl)
          try simp only [Act.put, List.setIfInBounds_toArray, List.set_cons_zero, List.set_cons_succ]
          refine wpAnyH_take (i := 13) (oi := ?oi13Z3) (v := ?v13Z3) ?hi13Z3 (by kernel_rfl) (by kernel_rfl) (by kernel_rfl) ?hq13Z3 (Or.inl ⟨?hw13Z3, ?hy13Z3⟩) (by assumption) ?rest13Z3
          case hi13Z3 => (simp only [List.getElem?_toArray, List.getElem?_cons_succ, List.getElem?_cons_zero]; rfl)
          case hq13Z3 => exact fun _ _ _ h => h
          case hw13Z3 => rfl
          case hy13Z3 => (intro w hSw; (try dsimp only at hSw); go_simp <;> with_reducible rfl)
          try simp only [Act.put, List.setIfInBounds_toArray, List.set_cons_zero, List.set_cons_succ]
          refine wpAnyH_take (i := 14) (oi := ?oi14Z3) (v := ?v14Z3) ?hi14Z3 (by kernel_rfl) (by kernel_rfl) (by kernel_rfl) ?hq14Z3 (Or.inl ⟨?hw14Z3, ?hy14Z3⟩) (by assumption) ?rest14Z3
          case hi14Z3 => (simp only [List.getElem?_toArray, List.getElem?_cons_succ, List.getElem?_cons_zero]; rfl)
          case hq14Z3 => exact fun _ _ _ h => h
          case hw14Z3 => rfl
          case hy14Z3 => (intro w hSw; (try dsimp only at hSw); go_simp <;> with_reducible rfl)
          try simp only [Act.put, List.setIfInBounds_toArray, List.set_cons_zero, List.set_cons_succ]
          refine wpAnyH_take (i := 15) (oi := ?oi15Z3) (v := ?v15Z3) ?hi15Z3 (by kernel_rfl) (by kernel_rfl) (by kernel_rfl) ?hq15Z3 (Or.inl ⟨?hw15Z3, ?hy15Z3⟩) (by assumption) ?rest15Z3
          case hi15Z3 => (simp only [List.getElem?_toArray, List.getElem?_cons_succ, List.getElem?_cons_zero]; rfl)
          case hq15Z3 => exact fun _ _ _ h => h
          case hw15Z3 => rfl
          case hy15Z3 => (intro w hSw; (try dsimp only at hSw); go_simp <;> with_reducible rfl)
          try simp only [Act.put, List.setIfInBounds_toArray, List.set_cons_zero, List.set_cons_succ]
          refine wpAnyH_done (by kernel_rfl) ?_ _
          rcases l with _ | ⟨p0, l0⟩
          case nil =>
            have key := rhas1_at k 105 105 true rfl H105 w8
            have hSa8 := boxS (c := c) (m := m) (k := k) (o := o) (r := r) (t := t) (n := n) (g := g) (l := []) (A := A) (cap := cap) hbxa8
            go_wp2_with fail
            refine key.mono ?_
            rintro e w9 ⟨rfl, hx9⟩
            clear key
            have hb9 := hb8.trans (hx9.mono hb8.size)
            have hbxa9 := hbxa8.kept (Keep.of_below hx9) (fun h => absurd hbxa8.lt (Nat.not_lt.2 h))
            have hila9 := hila8.below hx9
            clear hbxa8 hila8 hSa8
            have hno : mayA ⟨c, m, k, o, r, t, n, g, []⟩ = false := by rw [hM, hC, h5, h6, h7, h8, h11]; rfl
            have hSa9 := boxS (c := c) (m := m) (k := k) (o := o) (r := r) (t := t) (n := n) (g := g) (l := []) (A := A) (cap := cap) hbxa9
            go_wp2
            go_ret
            exact ⟨by rw [hno]; rfl, hb9⟩
          case cons =>
            have key := rhas1_at k 105 105 true rfl H105 w8
            have hSa8 := boxS (c := c) (m := m) (k := k) (o := o) (r := r) (t := t) (n := n) (g := g) (l := p0 :: l0) (A := A) (cap := cap) hbxa8
            go_wp2_with fail
            refine key.mono ?_
            rintro e w9 ⟨rfl, hx9⟩
            clear key
            have hb9 := hb8.trans (hx9.mono hb8.size)
            have hbxa9 := hbxa8.kept (Keep.of_below hx9) (fun h => absurd hbxa8.lt (Nat.not_lt.2 h))
            have hila9 := hila8.below hx9
            clear hbxa8 hila8 hSa8
            have key := rhas1_at k 105 105 true rfl H105 w9
            have hSa9 := boxS (c := c) (m := m) (k := k) (o := o) (r := r) (t := t) (n := n) (g := g) (l := p0 :: l0) (A := A) (cap := cap) hbxa9
            go_wp2_with fail
            refine key.mono ?_
            rintro e w10 ⟨rfl, hx10⟩
            clear key
            have hb10 := hb9.trans (hx10.mono hb9.size)
            have hbxa10 := hbxa9.kept (Keep.of_below hx10) (fun h => absurd hbxa9.lt (Nat.not_lt.2 h))
            have hila10 := hila9.below hx10
            clear hbxa9 hila9 hSa9
            have key := refmay_b A _ cap _ w10 hila10 hn hwl.long
            have hSa10 := boxS (c := c) (m := m) (k := k) (o := o) (r := r) (t := t) (n := n) (g := g) (l := p0 :: l0) (A := A) (cap := cap) hbxa10
            go_wp2_with fail
            refine key.mono ?_
            rintro e w11 ⟨rfl, hx11⟩
            clear key
            have hb11 := hb10.trans (hx11.mono hb10.size)
            have hbxa11 := hbxa10.kept (Keep.of_below hx11) (fun h => absurd hbxa10.lt (Nat.not_lt.2 h))
            have hila11 := hila10.below hx11
            clear hbxa10 hila10 hSa10
            cases hm : mayL (p0 :: l0) with
            | false =>
              have hno : mayA ⟨c, m, k, o, r, t, n, g, p0 :: l0⟩ = false := by rw [hM, hC, h5, h6, h7, h8, h11, hm]; rfl
              have hSa11 := boxS (c := c) (m := m) (k := k) (o := o) (r := r) (t := t) (n := n) (g := g) (l := p0 :: l0) (A := A) (cap := cap) hbxa11
              go_wp2
              go_ret
              exact ⟨by rw [hno]; rfl, hb11⟩
            | true =>
              have hfin : mayA ⟨c, m, k, o, r, t, n, g, p0 :: l0⟩ = numOK false n 0 0 := by rw [hM, hC, h5, h6, h7, h8, h11, hm]; rfl
              by_cases n0 : n = 0
              case pos =>
                have hv : numOK false n 0 0 = true := by rw [n0]; rfl
                have n0b : (n == 0) = true := beq_iff_eq.2 n0
                have n0c : decide (n = 0) = true := decide_eq_true n0
                clear n0
                have hSa11 := boxS (c := c) (m := m) (k := k) (o := o) (r := r) (t := t) (n := n) (g := g) (l := p0 :: l0) (A := A) (cap := cap) hbxa11
                go_wp2
                go_ret
                exact ⟨by rw [hfin, hv]; rfl, hb11⟩
              have n0b : (n == 0) = false := beq_eq_false_iff_ne.2 n0
              have hv : numOK false n 0 0 = false := decide_eq_false n0
              have hSa11 := boxS (c := c) (m := m) (k := k) (o := o) (r := r) (t := t) (n := n) (g := g) (l := p0 :: l0) (A := A) (cap := cap) hbxa11
              go_wp2
              go_ret
              exact ⟨by rw [hfin, hv]; rfl, hb11⟩
end Go.Proofs.Ytpfkhalomnfcfaa
