/- 'AskOrders' returns true for every input: the row of this law, proved. No condition. -/
import Derived.Test.YtejpabeamjhmjaaRAskM
import Derived.ProofKit
import Derived.OpenShut
import Derived.ShutString
import Derived.ChangeOld
import Derived.SizedLaws
namespace Go.Proofs.Ytejpabeamjhmjaa
open Go.RowKit
set_option linter.unusedVariables false
set_option linter.unusedSimpArgs false
theorem two_boxes (w : World) (cs cs2 : Array Value) : Blk ((w.alloc (.cells cs 53)).alloc (.cells cs2 53)) w.heap.size 53 cs ∧ Blk ((w.alloc (.cells cs 53)).alloc (.cells cs2 53)) (w.heap.size + 1) 53 cs2 ∧ Below w.heap.size w ((w.alloc (.cells cs 53)).alloc (.cells cs2 53)) := by
  refine ⟨(Blk.new _ _ _).alloc _, ?_, ((Below.refl w.heap.size w).alloc (Nat.le_refl _) _).alloc (by simp only [World.size_alloc]; omega) _⟩
  have := Blk.new (w.alloc (.cells cs 53)) 53 cs2
  rw [World.size_alloc] at this
  exact this
theorem order_facts {x : AV} : (orderN x = 0 ∧ (mayA x = false ∨ x.k ≠ 1)) ∨ (mayA x = true ∧ x.k = 1 ∧ orderN x = 64 * x.m + x.c ∧ 0 ≤ x.c ∧ x.c ≤ 63 ∧ 1 ≤ x.m ∧ x.m ≤ 4294967296) := by
  unfold orderN
  by_cases hk : x.k = 1
  · cases hm : mayA x with
    | false => exact .inl ⟨by rw [Bool.and_false], .inl rfl⟩
    | true =>
      obtain ⟨_, ⟨f1, f2⟩, ⟨f3, f4⟩, _⟩ := mayA_facts hm
      exact .inr ⟨rfl, hk, by rw [decide_eq_true hk]; rfl, f1, f2, f3, f4⟩
  · exact .inl ⟨by rw [decide_eq_false hk]; rfl, .inr hk⟩
/-- Of two that make orders: the numbers are the same just where clients and numbers are. -/
theorem order_same {a b c d : Int} (h1 : 0 ≤ a ∧ a ≤ 63) (h2 : 0 ≤ c ∧ c ≤ 63) : (64 * b + a = 64 * d + c) ↔ (a = c ∧ b = d) := by omega
set_option maxRecDepth 100000 in
set_option maxHeartbeats 25600000 in
theorem askOrders_walk {w : World} (y0 : AV) (A0 : Option Addr) (cap0 : Nat) (hil0 : IL w A0 y0.l.length y0.l) (hwl0 : WL y0.l) (hwf0 : WFA y0) (y1 : AV) (A1 : Option Addr) (cap1 : Nat) (hil1 : IL w A1 y1.l.length y1.l) (hwl1 : WL y1.l) (hwf1 : WFA y1) (a2 : Int) (w2 : (Lit.int .i64 a2).wf = true) :
    Calls Try.prog 9 #[y0.v A0 cap0, y1.v A1 cap1, .int .i64 a2] w fun e w' => e = .returned (.bool true) ∧ Below w.heap.size w w' := by
  have hn := hwf0.n
  have hn2 := hwf1.n
  have hg7 : y0.g.length ≤ 9223372036854775807 := hwf0.g
  have hwc := wf_of hwf0.c
  have hr2 := (wf_of w2).2
  clear hwl1 hwf0 hwf1
  obtain ⟨ON, hON⟩ : ∃ q, orderN y0 = q := ⟨_, rfl⟩
  obtain ⟨ON2, hON2⟩ : ∃ q, orderN y1 = q := ⟨_, rfl⟩
  obtain ⟨HO, hHO⟩ : ∃ q, homeN y0.c a2 = q := ⟨_, rfl⟩
  have hf1 := order_facts (x := y0)
  have hf2 := order_facts (x := y1)
  rw [hON] at hf1
  rw [hON2] at hf2
  obtain ⟨c, m, k, o, r, t, n, g, l⟩ := y0
  obtain ⟨c2, m2, k2, o2, r2, t2, n2, g2, l2⟩ := y1
  dsimp only at hil0 hil1 hn hn2 hwl0 hg7 hwc hHO hf1 hf2
  obtain ⟨hbxa0, hbxb0, hb0⟩ := two_boxes w (AV.cs ⟨c, m, k, o, r, t, n, g, l⟩ A0 cap0) (AV.cs ⟨c2, m2, k2, o2, r2, t2, n2, g2, l2⟩ A1 cap1)
  have hila0 := (hil0.alloc (.cells (AV.cs ⟨c, m, k, o, r, t, n, g, l⟩ A0 cap0) 53)).alloc (.cells (AV.cs ⟨c2, m2, k2, o2, r2, t2, n2, g2, l2⟩ A1 cap1) 53)
  have hilb0 := (hil1.alloc (.cells (AV.cs ⟨c, m, k, o, r, t, n, g, l⟩ A0 cap0) 53)).alloc (.cells (AV.cs ⟨c2, m2, k2, o2, r2, t2, n2, g2, l2⟩ A1 cap1) 53)
  clear hil0 hil1
  unfold AV.v
  unfold AV.cs at hbxa0 hbxb0 hb0 hila0 hilb0
  dsimp only at hbxa0 hbxb0 hb0 hila0 hilb0 ⊢
  by_cases len1 : 100 < l.length
  · have g1z : (100 : Int) < (l.length : Int) := by omega
    go_enter Try.func9, Try.ntmps9
    go_wp2_with fail
    refine (alives_any _).mono ?_
    rintro e w1 ⟨rfl, hx1⟩
    have hb1 := hb0.trans (hx1.mono hb0.size)
    go_wp2
    go_ret
    exact ⟨rfl, hb1⟩
  have g1z : ¬ (100 : Int) < (l.length : Int) := by omega
  by_cases len2 : 100 < l2.length
  · have g2z : (100 : Int) < (l2.length : Int) := by omega
    go_enter Try.func9, Try.ntmps9
    go_wp2_with fail
    refine (alives_any _).mono ?_
    rintro e w1 ⟨rfl, hx1⟩
    have hb1 := hb0.trans (hx1.mono hb0.size)
    go_wp2
    go_ret
    exact ⟨rfl, hb1⟩
  have g2z : ¬ (100 : Int) < (l2.length : Int) := by omega
  cases hm : mayA ⟨c, m, k, o, r, t, n, g, l⟩ with
  | false =>
    obtain rfl : ON = 0 := by
      rcases hf1 with ⟨h, _⟩ | ⟨h, _⟩
      · exact h
      · rw [hm] at h
        cases h
    clear hf1 hf2
    by_cases h0 : 0 ≤ c
    case neg =>
      have hq0 : ¬ 0 ≤ c := h0
      have hq0d : decide (0 ≤ c) = false := decide_eq_false h0
      obtain rfl : HO = 0 := by rw [← hHO]; unfold homeN; rw [if_neg (by omega)]
      go_enter Try.func9, Try.ntmps9
      have hSa0 := boxS (c := c) (m := m) (k := k) (o := o) (r := r) (t := t) (n := n) (g := g) (l := l) (A := A0) (cap := cap0) hbxa0
      have hSb0 := boxS (c := c2) (m := m2) (k := k2) (o := o2) (r := r2) (t := t2) (n := n2) (g := g2) (l := l2) (A := A1) (cap := cap1) hbxb0
      go_wp2_with fail
      refine wp_region_held_drew (S := (fun w' => (w'.cell? ⟨w.heap.size, 0, none⟩ = some (.int .i64 c) ∧ w'.cell? ⟨w.heap.size, 1, none⟩ = some (.int .i64 m) ∧ w'.cell? ⟨w.heap.size, 2, none⟩ = some (.int .i64 k) ∧ w'.cell? ⟨w.heap.size, 3, none⟩ = some (.int .i64 o) ∧ w'.cell? ⟨w.heap.size, 4, none⟩ = some (.int .i64 r) ∧ w'.cell? ⟨w.heap.size, 5, none⟩ = some (.int .i64 t) ∧ w'.cell? ⟨w.heap.size, 6, none⟩ = some (.int .i64 n) ∧ w'.cell? ⟨w.heap.size, 7, none⟩ = some (.string ⟨g.toArray⟩) ∧ w'.cell? ⟨w.heap.size, 8, none⟩ = some (.slice A0 l.length cap0)) ∧ (w'.cell? ⟨w.heap.size + 1, 0, none⟩ = some (.int .i64 c2) ∧ w'.cell? ⟨w.heap.size + 1, 1, none⟩ = some (.int .i64 m2) ∧ w'.cell? ⟨w.heap.size + 1, 2, none⟩ = some (.int .i64 k2) ∧ w'.cell? ⟨w.heap.size + 1, 3, none⟩ = some (.int .i64 o2) ∧ w'.cell? ⟨w.heap.size + 1, 4, none⟩ = some (.int .i64 r2) ∧ w'.cell? ⟨w.heap.size + 1, 5, none⟩ = some (.int .i64 t2) ∧ w'.cell? ⟨w.heap.size + 1, 6, none⟩ = some (.int .i64 n2) ∧ w'.cell? ⟨w.heap.size + 1, 7, none⟩ = some (.string ⟨g2.toArray⟩) ∧ w'.cell? ⟨w.heap.size + 1, 8, none⟩ = some (.slice A1 l2.length cap1)))) (by kernel_rfl) ⟨hSa0, hSb0⟩ (fun hHeld => ?_)
      refine wpAnyH_take (i := 0) (oi := ?oi0U11) (v := ?v0U11) ?hi0U11 (by kernel_rfl) (by kernel_rfl) (by kernel_rfl) ?hq0U11 (Or.inl ⟨?hw0U11, ?hy0U11⟩) (by assumption) ?rest0U11
      case hi0U11 => (simp only [List.getElem?_toArray, List.getElem?_cons_succ, List.getElem?_cons_zero]; rfl)
      case hq0U11 => exact fun _ _ _ h => h
      case hw0U11 => rfl
      case hy0U11 => (intro w hSw; (try dsimp only at hSw); go_simp <;> with_reducible rfl)
      try simp only [Act.put, List.setIfInBounds_toArray, List.set_cons_zero, List.set_cons_succ]
      refine wpAnyH_take (i := 2) (oi := ?oi2U11) (v := ?v2U11) ?hi2U11 (by kernel_rfl) (by kernel_rfl) (by kernel_rfl) ?hq2U11 (Or.inl ⟨?hw2U11, ?hy2U11⟩) (by assumption) ?rest2U11
      case hi2U11 => (simp only [List.getElem?_toArray, List.getElem?_cons_succ, List.getElem?_cons_zero]; rfl)
      case hq2U11 => exact fun _ _ _ h => h
      case hw2U11 => rfl
      case hy2U11 => (intro w hSw; (try dsimp only at hSw); go_simp <;> with_reducible rfl)
      try simp only [Act.put, List.setIfInBounds_toArray, List.set_cons_zero, List.set_cons_succ]
      refine wpAnyH_ready (rs := [1]) (by kernel_rfl) (by simp) ?_
      refine AllReadyH.cons (o := ?o1U11) ?hi1U11 (fun K hK => ?st1U11) AllReadyH.nil
      case hi1U11 => (simp only [List.getElem?_toArray, List.getElem?_cons_succ, List.getElem?_cons_zero]; rfl)
      go_simp
      refine (order_any ⟨c, m, k, o, r, t, n, g, l⟩ A0 cap0 _ hila0.drew hn).mono ?_
      rintro e w1 ⟨rfl, hx1⟩
      have hx1 : Below (((w.alloc (.cells (AV.cs ⟨c, m, k, o, r, t, n, g, l⟩ A0 cap0) 53)).alloc (.cells (AV.cs ⟨c2, m2, k2, o2, r2, t2, n2, g2, l2⟩ A1 cap1) 53)).drew).heap.size (((w.alloc (.cells (AV.cs ⟨c, m, k, o, r, t, n, g, l⟩ A0 cap0) 53)).alloc (.cells (AV.cs ⟨c2, m2, k2, o2, r2, t2, n2, g2, l2⟩ A1 cap1) 53)).drew) w1 := hx1
      have hb1 := (Below.drew hb0).trans (hx1.mono (Below.drew hb0).size)
      have hbxa1 := (hbxa0.drew).kept (Keep.of_below hx1) (fun h => absurd hbxa0.lt (Nat.not_lt.2 h))
      have hbxb1 := (hbxb0.drew).kept (Keep.of_below hx1) (fun h => absurd hbxb0.lt (Nat.not_lt.2 h))
      have hila1 := (hila0.drew).below hx1
      have hilb1 := (hilb0.drew).below hx1
      have hSa1 := boxS (c := c) (m := m) (k := k) (o := o) (r := r) (t := t) (n := n) (g := g) (l := l) (A := A0) (cap := cap0) hbxa1
      have hSb1 := boxS (c := c2) (m := m2) (k := k2) (o := o2) (r := r2) (t := t2) (n := n2) (g := g2) (l := l2) (A := A1) (cap := cap1) hbxb1
      rw [hON]
      go_wp2_with fail
      refine hK.out _ _ ⟨hSa1, hSb1⟩ (fun hHeld2 => ?_)
      clear hK K hHeld
      have hHeld := hHeld2
      clear hHeld2
      try simp only [Act.put, List.setIfInBounds_toArray, List.set_cons_zero, List.set_cons_succ]
      refine wpAnyH_ready (rs := [3]) (by kernel_rfl) (by simp) ?_
      refine AllReadyH.cons (o := ?o3U11) ?hi3U11 (fun K hK => ?st3U11) AllReadyH.nil
      case hi3U11 => (simp only [List.getElem?_toArray, List.getElem?_cons_succ, List.getElem?_cons_zero]; rfl)
      go_simp
      refine (order_any ⟨c2, m2, k2, o2, r2, t2, n2, g2, l2⟩ A1 cap1 _ hilb1 hn2).mono ?_
      rintro e w2 ⟨rfl, hx2⟩
      have hx2 : Below (w1).heap.size (w1) w2 := hx2
      have hb2 := hb1.trans (hx2.mono hb1.size)
      have hbxa2 := (hbxa1).kept (Keep.of_below hx2) (fun h => absurd hbxa1.lt (Nat.not_lt.2 h))
      have hbxb2 := (hbxb1).kept (Keep.of_below hx2) (fun h => absurd hbxb1.lt (Nat.not_lt.2 h))
      have hila2 := (hila1).below hx2
      have hilb2 := (hilb1).below hx2
      have hSa2 := boxS (c := c) (m := m) (k := k) (o := o) (r := r) (t := t) (n := n) (g := g) (l := l) (A := A0) (cap := cap0) hbxa2
      have hSb2 := boxS (c := c2) (m := m2) (k := k2) (o := o2) (r := r2) (t := t2) (n := n2) (g := g2) (l := l2) (A := A1) (cap := cap1) hbxb2
      rw [hON2]
      go_wp2_with fail
      refine hK.out _ _ ⟨hSa2, hSb2⟩ (fun hHeld2 => ?_)
      clear hK K hHeld
      have hHeld := hHeld2
      clear hHeld2
      try simp only [Act.put, List.setIfInBounds_toArray, List.set_cons_zero, List.set_cons_succ]
      refine wpAnyH_take (i := 4) (oi := ?oi4U11) (v := ?v4U11) ?hi4U11 (by kernel_rfl) (by kernel_rfl) (by kernel_rfl) ?hq4U11 (Or.inl ⟨?hw4U11, ?hy4U11⟩) (by assumption) ?rest4U11
      case hi4U11 => (simp only [List.getElem?_toArray, List.getElem?_cons_succ, List.getElem?_cons_zero]; rfl)
      case hq4U11 => exact fun _ _ _ h => h
      case hw4U11 => rfl
      case hy4U11 => (intro w hSw; (try dsimp only at hSw); go_simp <;> with_reducible rfl)
      try simp only [Act.put, List.setIfInBounds_toArray, List.set_cons_zero, List.set_cons_succ]
      refine wpAnyH_take (i := 5) (oi := ?oi5U11) (v := ?v5U11) ?hi5U11 (by kernel_rfl) (by kernel_rfl) (by kernel_rfl) ?hq5U11 (Or.inl ⟨?hw5U11, ?hy5U11⟩) (by assumption) ?rest5U11
      case hi5U11 => (simp only [List.getElem?_toArray, List.getElem?_cons_succ, List.getElem?_cons_zero]; rfl)
      case hq5U11 => exact fun _ _ _ h => h
      case hw5U11 => rfl
      case hy5U11 => (intro w hSw; (try dsimp only at hSw); go_simp <;> with_reducible rfl)
      try simp only [Act.put, List.setIfInBounds_toArray, List.set_cons_zero, List.set_cons_succ]
      refine wpAnyH_done (by kernel_rfl) ?_ _
      have key := raskmay_any ⟨c, m, k, o, r, t, n, g, l⟩ A0 cap0 w2 hila2 hwl0 hn hg7
      rw [hm] at key
      unfold AV.v at key
      dsimp only at key
      go_wp2_with fail
      refine key.mono ?_
      rintro e w3 ⟨rfl, hx3⟩
      clear key
      have hb3 := hb2.trans (hx3.mono hb2.size)
      have hbxa3 := hbxa2.kept (Keep.of_below hx3) (fun h => absurd hbxa2.lt (Nat.not_lt.2 h))
      have hbxb3 := hbxb2.kept (Keep.of_below hx3) (fun h => absurd hbxb2.lt (Nat.not_lt.2 h))
      have hila3 := hila2.below hx3
      have hilb3 := hilb2.below hx3
      clear hbxa2 hbxb2 hila2 hilb2 hSa2 hSb2
      have hSa3 := boxS (c := c) (m := m) (k := k) (o := o) (r := r) (t := t) (n := n) (g := g) (l := l) (A := A0) (cap := cap0) hbxa3
      have hSb3 := boxS (c := c2) (m := m2) (k := k2) (o := o2) (r := r2) (t := t2) (n := n2) (g := g2) (l := l2) (A := A1) (cap := cap1) hbxb3
      go_wp2_with fail
      refine wp_region_held_drew (S := (fun w' => (w'.cell? ⟨w.heap.size, 0, none⟩ = some (.int .i64 c) ∧ w'.cell? ⟨w.heap.size, 1, none⟩ = some (.int .i64 m) ∧ w'.cell? ⟨w.heap.size, 2, none⟩ = some (.int .i64 k) ∧ w'.cell? ⟨w.heap.size, 3, none⟩ = some (.int .i64 o) ∧ w'.cell? ⟨w.heap.size, 4, none⟩ = some (.int .i64 r) ∧ w'.cell? ⟨w.heap.size, 5, none⟩ = some (.int .i64 t) ∧ w'.cell? ⟨w.heap.size, 6, none⟩ = some (.int .i64 n) ∧ w'.cell? ⟨w.heap.size, 7, none⟩ = some (.string ⟨g.toArray⟩) ∧ w'.cell? ⟨w.heap.size, 8, none⟩ = some (.slice A0 l.length cap0)) ∧ (w'.cell? ⟨w.heap.size + 1, 0, none⟩ = some (.int .i64 c2) ∧ w'.cell? ⟨w.heap.size + 1, 1, none⟩ = some (.int .i64 m2) ∧ w'.cell? ⟨w.heap.size + 1, 2, none⟩ = some (.int .i64 k2) ∧ w'.cell? ⟨w.heap.size + 1, 3, none⟩ = some (.int .i64 o2) ∧ w'.cell? ⟨w.heap.size + 1, 4, none⟩ = some (.int .i64 r2) ∧ w'.cell? ⟨w.heap.size + 1, 5, none⟩ = some (.int .i64 t2) ∧ w'.cell? ⟨w.heap.size + 1, 6, none⟩ = some (.int .i64 n2) ∧ w'.cell? ⟨w.heap.size + 1, 7, none⟩ = some (.string ⟨g2.toArray⟩) ∧ w'.cell? ⟨w.heap.size + 1, 8, none⟩ = some (.slice A1 l2.length cap1)))) (by kernel_rfl) ⟨hSa3, hSb3⟩ (fun hHeld => ?_)
      refine wpAnyH_ready (rs := [0]) (by kernel_rfl) (by simp) ?_
      refine AllReadyH.cons (o := ?o0V11) ?hi0V11 (fun K hK => ?st0V11) AllReadyH.nil
      case hi0V11 => (simp only [List.getElem?_toArray, List.getElem?_cons_succ, List.getElem?_cons_zero]; rfl)
      go_simp
      refine (alives_any _).mono ?_
      rintro e w4 ⟨rfl, hx4⟩
      have hx4 : Below (w3.drew).heap.size (w3.drew) w4 := hx4
      have hb4 := (Below.drew hb3).trans (hx4.mono (Below.drew hb3).size)
      have hbxa4 := (hbxa3.drew).kept (Keep.of_below hx4) (fun h => absurd hbxa3.lt (Nat.not_lt.2 h))
      have hbxb4 := (hbxb3.drew).kept (Keep.of_below hx4) (fun h => absurd hbxb3.lt (Nat.not_lt.2 h))
      have hila4 := (hila3.drew).below hx4
      have hilb4 := (hilb3.drew).below hx4
      have hSa4 := boxS (c := c) (m := m) (k := k) (o := o) (r := r) (t := t) (n := n) (g := g) (l := l) (A := A0) (cap := cap0) hbxa4
      have hSb4 := boxS (c := c2) (m := m2) (k := k2) (o := o2) (r := r2) (t := t2) (n := n2) (g := g2) (l := l2) (A := A1) (cap := cap1) hbxb4
      go_wp2_with fail
      refine hK.out _ _ ⟨hSa4, hSb4⟩ (fun hHeld2 => ?_)
      clear hK K hHeld
      have hHeld := hHeld2
      clear hHeld2
      try simp only [Act.put, List.setIfInBounds_toArray, List.set_cons_zero, List.set_cons_succ]
      refine wpAnyH_take (i := 1) (oi := ?oi1V11) (v := ?v1V11) ?hi1V11 (by kernel_rfl) (by kernel_rfl) (by kernel_rfl) ?hq1V11 (Or.inl ⟨?hw1V11, ?hy1V11⟩) (by assumption) ?rest1V11
      case hi1V11 => (simp only [List.getElem?_toArray, List.getElem?_cons_succ, List.getElem?_cons_zero]; rfl)
      case hq1V11 => exact fun _ _ _ h => h
      case hw1V11 => rfl
      case hy1V11 => (intro w hSw; (try dsimp only at hSw); go_simp <;> with_reducible rfl)
      try simp only [Act.put, List.setIfInBounds_toArray, List.set_cons_zero, List.set_cons_succ]
      refine wpAnyH_take (i := 2) (oi := ?oi2V11) (v := ?v2V11) ?hi2V11 (by kernel_rfl) (by kernel_rfl) (by kernel_rfl) ?hq2V11 (Or.inl ⟨?hw2V11, ?hy2V11⟩) (by assumption) ?rest2V11
      case hi2V11 => (simp only [List.getElem?_toArray, List.getElem?_cons_succ, List.getElem?_cons_zero]; rfl)
      case hq2V11 => exact fun _ _ _ h => h
      case hw2V11 => rfl
      case hy2V11 => (intro w hSw; (try dsimp only at hSw); go_simp <;> with_reducible rfl)
      try simp only [Act.put, List.setIfInBounds_toArray, List.set_cons_zero, List.set_cons_succ]
      refine wpAnyH_take (i := 3) (oi := ?oi3V11) (v := ?v3V11) ?hi3V11 (by kernel_rfl) (by kernel_rfl) (by kernel_rfl) ?hq3V11 (Or.inl ⟨?hw3V11, ?hy3V11⟩) (by assumption) ?rest3V11
      case hi3V11 => (simp only [List.getElem?_toArray, List.getElem?_cons_succ, List.getElem?_cons_zero]; rfl)
      case hq3V11 => exact fun _ _ _ h => h
      case hw3V11 => rfl
      case hy3V11 => (intro w hSw; (try dsimp only at hSw); go_simp <;> with_reducible rfl)
      try simp only [Act.put, List.setIfInBounds_toArray, List.set_cons_zero, List.set_cons_succ]
      refine wpAnyH_take (i := 4) (oi := ?oi4V11) (v := ?v4V11) ?hi4V11 (by kernel_rfl) (by kernel_rfl) (by kernel_rfl) ?hq4V11 (Or.inl ⟨?hw4V11, ?hy4V11⟩) (by assumption) ?rest4V11
      case hi4V11 => (simp only [List.getElem?_toArray, List.getElem?_cons_succ, List.getElem?_cons_zero]; rfl)
      case hq4V11 => exact fun _ _ _ h => h
      case hw4V11 => rfl
      case hy4V11 => (intro w hSw; (try dsimp only at hSw); go_simp <;> with_reducible rfl)
      try simp only [Act.put, List.setIfInBounds_toArray, List.set_cons_zero, List.set_cons_succ]
      refine wpAnyH_take (i := 5) (oi := ?oi5V11) (v := ?v5V11) ?hi5V11 (by kernel_rfl) (by kernel_rfl) (by kernel_rfl) ?hq5V11 (Or.inl ⟨?hw5V11, ?hy5V11⟩) (by assumption) ?rest5V11
      case hi5V11 => (simp only [List.getElem?_toArray, List.getElem?_cons_succ, List.getElem?_cons_zero]; rfl)
      case hq5V11 => exact fun _ _ _ h => h
      case hw5V11 => rfl
      case hy5V11 => (intro w hSw; (try dsimp only at hSw); go_simp <;> with_reducible rfl)
      try simp only [Act.put, List.setIfInBounds_toArray, List.set_cons_zero, List.set_cons_succ]
      refine wpAnyH_take (i := 6) (oi := ?oi6V11) (v := ?v6V11) ?hi6V11 (by kernel_rfl) (by kernel_rfl) (by kernel_rfl) ?hq6V11 (Or.inl ⟨?hw6V11, ?hy6V11⟩) (by assumption) ?rest6V11
      case hi6V11 => (simp only [List.getElem?_toArray, List.getElem?_cons_succ, List.getElem?_cons_zero]; rfl)
      case hq6V11 => exact fun _ _ _ h => h
      case hw6V11 => rfl
      case hy6V11 => (intro w hSw; (try dsimp only at hSw); go_simp <;> with_reducible rfl)
      try simp only [Act.put, List.setIfInBounds_toArray, List.set_cons_zero, List.set_cons_succ]
      refine wpAnyH_take (i := 7) (oi := ?oi7V11) (v := ?v7V11) ?hi7V11 (by kernel_rfl) (by kernel_rfl) (by kernel_rfl) ?hq7V11 (Or.inl ⟨?hw7V11, ?hy7V11⟩) (by assumption) ?rest7V11
      case hi7V11 => (simp only [List.getElem?_toArray, List.getElem?_cons_succ, List.getElem?_cons_zero]; rfl)
      case hq7V11 => exact fun _ _ _ h => h
      case hw7V11 => rfl
      case hy7V11 => (intro w hSw; (try dsimp only at hSw); go_simp <;> with_reducible rfl)
      try simp only [Act.put, List.setIfInBounds_toArray, List.set_cons_zero, List.set_cons_succ]
      refine wpAnyH_take (i := 8) (oi := ?oi8V11) (v := ?v8V11) ?hi8V11 (by kernel_rfl) (by kernel_rfl) (by kernel_rfl) ?hq8V11 (Or.inl ⟨?hw8V11, ?hy8V11⟩) (by assumption) ?rest8V11
      case hi8V11 => (simp only [List.getElem?_toArray, List.getElem?_cons_succ, List.getElem?_cons_zero]; rfl)
      case hq8V11 => exact fun _ _ _ h => h
      case hw8V11 => rfl
      case hy8V11 => (intro w hSw; (try dsimp only at hSw); go_simp <;> with_reducible rfl)
      try simp only [Act.put, List.setIfInBounds_toArray, List.set_cons_zero, List.set_cons_succ]
      refine wpAnyH_take (i := 9) (oi := ?oi9V11) (v := ?v9V11) ?hi9V11 (by kernel_rfl) (by kernel_rfl) (by kernel_rfl) ?hq9V11 (Or.inl ⟨?hw9V11, ?hy9V11⟩) (by assumption) ?rest9V11
      case hi9V11 => (simp only [List.getElem?_toArray, List.getElem?_cons_succ, List.getElem?_cons_zero]; rfl)
      case hq9V11 => exact fun _ _ _ h => h
      case hw9V11 => rfl
      case hy9V11 => (intro w hSw; (try dsimp only at hSw); go_simp <;> with_reducible rfl)
      try simp only [Act.put, List.setIfInBounds_toArray, List.set_cons_zero, List.set_cons_succ]
      refine wpAnyH_take (i := 10) (oi := ?oi10V11) (v := ?v10V11) ?hi10V11 (by kernel_rfl) (by kernel_rfl) (by kernel_rfl) ?hq10V11 (Or.inl ⟨?hw10V11, ?hy10V11⟩) (by assumption) ?rest10V11
      case hi10V11 => (simp only [List.getElem?_toArray, List.getElem?_cons_succ, List.getElem?_cons_zero]; rfl)
      case hq10V11 => exact fun _ _ _ h => h
      case hw10V11 => rfl
      case hy10V11 => (intro w hSw; (try dsimp only at hSw); go_simp <;> with_reducible rfl)
      try simp only [Act.put, List.setIfInBounds_toArray, List.set_cons_zero, List.set_cons_succ]
      refine wpAnyH_take (i := 12) (oi := ?oi12V11) (v := ?v12V11) ?hi12V11 (by kernel_rfl) (by kernel_rfl) (by kernel_rfl) ?hq12V11 (Or.inl ⟨?hw12V11, ?hy12V11⟩) (by assumption) ?rest12V11
      case hi12V11 => (simp only [List.getElem?_toArray, List.getElem?_cons_succ, List.getElem?_cons_zero]; rfl)
      case hq12V11 => exact fun _ _ _ h => h
      case hw12V11 => rfl
      case hy12V11 => (intro w hSw; (try dsimp only at hSw); go_simp <;> with_reducible rfl)
      try simp only [Act.put, List.setIfInBounds_toArray, List.set_cons_zero, List.set_cons_succ]
      refine wpAnyH_ready (rs := [11]) (by kernel_rfl) (by simp) ?_
      refine AllReadyH.cons (o := ?o11V11) ?hi11V11 (fun K hK => ?st11V11) AllReadyH.nil
      case hi11V11 => (simp only [List.getElem?_toArray, List.getElem?_cons_succ, List.getElem?_cons_zero]; rfl)
      go_simp
      refine (home_any c a2 _ hr2).mono ?_
      rintro e w' ⟨rfl, hww⟩
      subst w'
      rw [hHO]
      go_wp2_with fail
      refine hK.out _ _ ⟨hSa4, hSb4⟩ (fun hHeld2 => ?_)
      clear hK K hHeld
      have hHeld := hHeld2
      clear hHeld2
      try simp only [Act.put, List.setIfInBounds_toArray, List.set_cons_zero, List.set_cons_succ]
      refine wpAnyH_take (i := 13) (oi := ?oi13V11) (v := ?v13V11) ?hi13V11 (by kernel_rfl) (by kernel_rfl) (by kernel_rfl) ?hq13V11 (Or.inl ⟨?hw13V11, ?hy13V11⟩) (by assumption) ?rest13V11
      case hi13V11 => (simp only [List.getElem?_toArray, List.getElem?_cons_succ, List.getElem?_cons_zero]; rfl)
      case hq13V11 => exact fun _ _ _ h => h
      case hw13V11 => rfl
      case hy13V11 => (intro w hSw; (try dsimp only at hSw); go_simp <;> with_reducible rfl)
      try simp only [Act.put, List.setIfInBounds_toArray, List.set_cons_zero, List.set_cons_succ]
      refine wpAnyH_take (i := 14) (oi := ?oi14V11) (v := ?v14V11) ?hi14V11 (by kernel_rfl) (by kernel_rfl) (by kernel_rfl) ?hq14V11 (Or.inl ⟨?hw14V11, ?hy14V11⟩) (by assumption) ?rest14V11
      case hi14V11 => (simp only [List.getElem?_toArray, List.getElem?_cons_succ, List.getElem?_cons_zero]; rfl)
      case hq14V11 => exact fun _ _ _ h => h
      case hw14V11 => rfl
      case hy14V11 => (intro w hSw; (try dsimp only at hSw); go_simp <;> with_reducible rfl)
      try simp only [Act.put, List.setIfInBounds_toArray, List.set_cons_zero, List.set_cons_succ]
      refine wpAnyH_take (i := 15) (oi := ?oi15V11) (v := ?v15V11) ?hi15V11 (by kernel_rfl) (by kernel_rfl) (by kernel_rfl) ?hq15V11 (Or.inl ⟨?hw15V11, ?hy15V11⟩) (by assumption) ?rest15V11
      case hi15V11 => (simp only [List.getElem?_toArray, List.getElem?_cons_succ, List.getElem?_cons_zero]; rfl)
      case hq15V11 => exact fun _ _ _ h => h
      case hw15V11 => rfl
      case hy15V11 => (intro w hSw; (try dsimp only at hSw); go_simp <;> with_reducible rfl)
      try simp only [Act.put, List.setIfInBounds_toArray, List.set_cons_zero, List.set_cons_succ]
      refine wpAnyH_take (i := 16) (oi := ?oi16V11) (v := ?v16V11) ?hi16V11 (by kernel_rfl) (by kernel_rfl) (by kernel_rfl) ?hq16V11 (Or.inl ⟨?hw16V11, ?hy16V11⟩) (by assumption) ?rest16V11
      case hi16V11 => (simp only [List.getElem?_toArray, List.getElem?_cons_succ, List.getElem?_cons_zero]; rfl)
      case hq16V11 => exact fun _ _ _ h => h
      case hw16V11 => rfl
      case hy16V11 => (intro w hSw; (try dsimp only at hSw); go_simp <;> with_reducible rfl)
      try simp only [Act.put, List.setIfInBounds_toArray, List.set_cons_zero, List.set_cons_succ]
      refine wpAnyH_take (i := 17) (oi := ?oi17V11) (v := ?v17V11) ?hi17V11 (by kernel_rfl) (by kernel_rfl) (by kernel_rfl) ?hq17V11 (Or.inl ⟨?hw17V11, ?hy17V11⟩) (by assumption) ?rest17V11
      case hi17V11 => (simp only [List.getElem?_toArray, List.getElem?_cons_succ, List.getElem?_cons_zero]; rfl)
      case hq17V11 => exact fun _ _ _ h => h
      case hw17V11 => rfl
      case hy17V11 => (intro w hSw; (try dsimp only at hSw); go_simp <;> with_reducible rfl)
      try simp only [Act.put, List.setIfInBounds_toArray, List.set_cons_zero, List.set_cons_succ]
      refine wpAnyH_take (i := 18) (oi := ?oi18V11) (v := ?v18V11) ?hi18V11 (by kernel_rfl) (by kernel_rfl) (by kernel_rfl) ?hq18V11 (Or.inl ⟨?hw18V11, ?hy18V11⟩) (by assumption) ?rest18V11
      case hi18V11 => (simp only [List.getElem?_toArray, List.getElem?_cons_succ, List.getElem?_cons_zero]; rfl)
      case hq18V11 => exact fun _ _ _ h => h
      case hw18V11 => rfl
      case hy18V11 => (intro w hSw; (try dsimp only at hSw); go_simp <;> with_reducible rfl)
      try simp only [Act.put, List.setIfInBounds_toArray, List.set_cons_zero, List.set_cons_succ]
      refine wpAnyH_take (i := 19) (oi := ?oi19V11) (v := undef) ?hi19V11 (by kernel_rfl) (by kernel_rfl) (by kernel_rfl) ?hq19V11 (Or.inr ⟨?hw19V11, rfl⟩) (by assumption) ?rest19V11
      case hi19V11 => (simp only [List.getElem?_toArray, List.getElem?_cons_succ, List.getElem?_cons_zero]; rfl)
      case hq19V11 => exact fun _ _ _ h => h
      case hw19V11 => rfl
      try simp only [Act.put, List.setIfInBounds_toArray, List.set_cons_zero, List.set_cons_succ]
      refine wpAnyH_take (i := 21) (oi := ?oi21V11) (v := undef) ?hi21V11 (by kernel_rfl) (by kernel_rfl) (by kernel_rfl) ?hq21V11 (Or.inr ⟨?hw21V11, rfl⟩) (by assumption) ?rest21V11
      case hi21V11 => (simp only [List.getElem?_toArray, List.getElem?_cons_succ, List.getElem?_cons_zero]; rfl)
      case hq21V11 => exact fun _ _ _ h => h
      case hw21V11 => rfl
      try simp only [Act.put, List.setIfInBounds_toArray, List.set_cons_zero, List.set_cons_succ]
      refine wpAnyH_take (i := 22) (oi := ?oi22V11) (v := undef) ?hi22V11 (by kernel_rfl) (by kernel_rfl) (by kernel_rfl) ?hq22V11 (Or.inr ⟨?hw22V11, rfl⟩) (by assumption) ?rest22V11
      case hi22V11 => (simp only [List.getElem?_toArray, List.getElem?_cons_succ, List.getElem?_cons_zero]; rfl)
      case hq22V11 => exact fun _ _ _ h => h
      case hw22V11 => rfl
      try simp only [Act.put, List.setIfInBounds_toArray, List.set_cons_zero, List.set_cons_succ]
      refine wpAnyH_take (i := 20) (oi := ?oi20V11) (v := undef) ?hi20V11 (by kernel_rfl) (by kernel_rfl) (by kernel_rfl) ?hq20V11 (Or.inr ⟨?hw20V11, rfl⟩) (by assumption) ?rest20V11
      case hi20V11 => (simp only [List.getElem?_toArray, List.getElem?_cons_succ, List.getElem?_cons_zero]; rfl)
      case hq20V11 => exact fun _ _ _ h => h
      case hw20V11 => rfl
      try simp only [Act.put, List.setIfInBounds_toArray, List.set_cons_zero, List.set_cons_succ]
      refine wpAnyH_take (i := 23) (oi := ?oi23V11) (v := undef) ?hi23V11 (by kernel_rfl) (by kernel_rfl) (by kernel_rfl) ?hq23V11 (Or.inr ⟨?hw23V11, rfl⟩) (by assumption) ?rest23V11
      case hi23V11 => (simp only [List.getElem?_toArray, List.getElem?_cons_succ, List.getElem?_cons_zero]; rfl)
      case hq23V11 => exact fun _ _ _ h => h
      case hw23V11 => rfl
      try simp only [Act.put, List.setIfInBounds_toArray, List.set_cons_zero, List.set_cons_succ]
      refine wpAnyH_take (i := 24) (oi := ?oi24V11) (v := undef) ?hi24V11 (by kernel_rfl) (by kernel_rfl) (by kernel_rfl) ?hq24V11 (Or.inr ⟨?hw24V11, rfl⟩) (by assumption) ?rest24V11
      case hi24V11 => (simp only [List.getElem?_toArray, List.getElem?_cons_succ, List.getElem?_cons_zero]; rfl)
      case hq24V11 => exact fun _ _ _ h => h
      case hw24V11 => rfl
      try simp only [Act.put, List.setIfInBounds_toArray, List.set_cons_zero, List.set_cons_succ]
      refine wpAnyH_take (i := 25) (oi := ?oi25V11) (v := undef) ?hi25V11 (by kernel_rfl) (by kernel_rfl) (by kernel_rfl) ?hq25V11 (Or.inr ⟨?hw25V11, rfl⟩) (by assumption) ?rest25V11
      case hi25V11 => (simp only [List.getElem?_toArray, List.getElem?_cons_succ, List.getElem?_cons_zero]; rfl)
      case hq25V11 => exact fun _ _ _ h => h
      case hw25V11 => rfl
      try simp only [Act.put, List.setIfInBounds_toArray, List.set_cons_zero, List.set_cons_succ]
      refine wpAnyH_take (i := 26) (oi := ?oi26V11) (v := undef) ?hi26V11 (by kernel_rfl) (by kernel_rfl) (by kernel_rfl) ?hq26V11 (Or.inr ⟨?hw26V11, rfl⟩) (by assumption) ?rest26V11
      case hi26V11 => (simp only [List.getElem?_toArray, List.getElem?_cons_succ, List.getElem?_cons_zero]; rfl)
      case hq26V11 => exact fun _ _ _ h => h
      case hw26V11 => rfl
      try simp only [Act.put, List.setIfInBounds_toArray, List.set_cons_zero, List.set_cons_succ]
      refine wpAnyH_take (i := 27) (oi := ?oi27V11) (v := undef) ?hi27V11 (by kernel_rfl) (by kernel_rfl) (by kernel_rfl) ?hq27V11 (Or.inr ⟨?hw27V11, rfl⟩) (by assumption) ?rest27V11
      case hi27V11 => (simp only [List.getElem?_toArray, List.getElem?_cons_succ, List.getElem?_cons_zero]; rfl)
      case hq27V11 => exact fun _ _ _ h => h
      case hw27V11 => rfl
      try simp only [Act.put, List.setIfInBounds_toArray, List.set_cons_zero, List.set_cons_succ]
      refine wpAnyH_take (i := 28) (oi := ?oi28V11) (v := ?v28V11) ?hi28V11 (by kernel_rfl) (by kernel_rfl) (by kernel_rfl) ?hq28V11 (Or.inl ⟨?hw28V11, ?hy28V11⟩) (by assumption) ?rest28V11
      case hi28V11 => (simp only [List.getElem?_toArray, List.getElem?_cons_succ, List.getElem?_cons_zero]; rfl)
      case hq28V11 => exact fun _ _ _ h => h
      case hw28V11 => rfl
      case hy28V11 => (intro w hSw; (try dsimp only at hSw); go_simp <;> with_reducible rfl)
      try simp only [Act.put, List.setIfInBounds_toArray, List.set_cons_zero, List.set_cons_succ]
      refine wpAnyH_take (i := 29) (oi := ?oi29V11) (v := ?v29V11) ?hi29V11 (by kernel_rfl) (by kernel_rfl) (by kernel_rfl) ?hq29V11 (Or.inl ⟨?hw29V11, ?hy29V11⟩) (by assumption) ?rest29V11
      case hi29V11 => (simp only [List.getElem?_toArray, List.getElem?_cons_succ, List.getElem?_cons_zero]; rfl)
      case hq29V11 => exact fun _ _ _ h => h
      case hw29V11 => rfl
      case hy29V11 => (intro w hSw; (try dsimp only at hSw); go_simp <;> with_reducible rfl)
      try simp only [Act.put, List.setIfInBounds_toArray, List.set_cons_zero, List.set_cons_succ]
      refine wpAnyH_done (by kernel_rfl) ?_ _
      go_wp2
      go_ret
      exact ⟨by simp, hb4⟩
    by_cases h1 : 1 ≤ a2
    case neg =>
      have hq1 : ¬ 1 ≤ a2 := h1
      have hq1d : decide (1 ≤ a2) = false := decide_eq_false h1
      obtain rfl : HO = 0 := by rw [← hHO]; unfold homeN; rw [if_neg (by omega)]
      go_enter Try.func9, Try.ntmps9
      have hSa0 := boxS (c := c) (m := m) (k := k) (o := o) (r := r) (t := t) (n := n) (g := g) (l := l) (A := A0) (cap := cap0) hbxa0
      have hSb0 := boxS (c := c2) (m := m2) (k := k2) (o := o2) (r := r2) (t := t2) (n := n2) (g := g2) (l := l2) (A := A1) (cap := cap1) hbxb0
      go_wp2_with fail
      refine wp_region_held_drew (S := (fun w' => (w'.cell? ⟨w.heap.size, 0, none⟩ = some (.int .i64 c) ∧ w'.cell? ⟨w.heap.size, 1, none⟩ = some (.int .i64 m) ∧ w'.cell? ⟨w.heap.size, 2, none⟩ = some (.int .i64 k) ∧ w'.cell? ⟨w.heap.size, 3, none⟩ = some (.int .i64 o) ∧ w'.cell? ⟨w.heap.size, 4, none⟩ = some (.int .i64 r) ∧ w'.cell? ⟨w.heap.size, 5, none⟩ = some (.int .i64 t) ∧ w'.cell? ⟨w.heap.size, 6, none⟩ = some (.int .i64 n) ∧ w'.cell? ⟨w.heap.size, 7, none⟩ = some (.string ⟨g.toArray⟩) ∧ w'.cell? ⟨w.heap.size, 8, none⟩ = some (.slice A0 l.length cap0)) ∧ (w'.cell? ⟨w.heap.size + 1, 0, none⟩ = some (.int .i64 c2) ∧ w'.cell? ⟨w.heap.size + 1, 1, none⟩ = some (.int .i64 m2) ∧ w'.cell? ⟨w.heap.size + 1, 2, none⟩ = some (.int .i64 k2) ∧ w'.cell? ⟨w.heap.size + 1, 3, none⟩ = some (.int .i64 o2) ∧ w'.cell? ⟨w.heap.size + 1, 4, none⟩ = some (.int .i64 r2) ∧ w'.cell? ⟨w.heap.size + 1, 5, none⟩ = some (.int .i64 t2) ∧ w'.cell? ⟨w.heap.size + 1, 6, none⟩ = some (.int .i64 n2) ∧ w'.cell? ⟨w.heap.size + 1, 7, none⟩ = some (.string ⟨g2.toArray⟩) ∧ w'.cell? ⟨w.heap.size + 1, 8, none⟩ = some (.slice A1 l2.length cap1)))) (by kernel_rfl) ⟨hSa0, hSb0⟩ (fun hHeld => ?_)
      refine wpAnyH_take (i := 0) (oi := ?oi0U12) (v := ?v0U12) ?hi0U12 (by kernel_rfl) (by kernel_rfl) (by kernel_rfl) ?hq0U12 (Or.inl ⟨?hw0U12, ?hy0U12⟩) (by assumption) ?rest0U12
      case hi0U12 => (simp only [List.getElem?_toArray, List.getElem?_cons_succ, List.getElem?_cons_zero]; rfl)
      case hq0U12 => exact fun _ _ _ h => h
      case hw0U12 => rfl
      case hy0U12 => (intro w hSw; (try dsimp only at hSw); go_simp <;> with_reducible rfl)
      try simp only [Act.put, List.setIfInBounds_toArray, List.set_cons_zero, List.set_cons_succ]
      refine wpAnyH_take (i := 2) (oi := ?oi2U12) (v := ?v2U12) ?hi2U12 (by kernel_rfl) (by kernel_rfl) (by kernel_rfl) ?hq2U12 (Or.inl ⟨?hw2U12, ?hy2U12⟩) (by assumption) ?rest2U12
      case hi2U12 => (simp only [List.getElem?_toArray, List.getElem?_cons_succ, List.getElem?_cons_zero]; rfl)
      case hq2U12 => exact fun _ _ _ h => h
      case hw2U12 => rfl
      case hy2U12 => (intro w hSw; (try dsimp only at hSw); go_simp <;> with_reducible rfl)
      try simp only [Act.put, List.setIfInBounds_toArray, List.set_cons_zero, List.set_cons_succ]
      refine wpAnyH_ready (rs := [1]) (by kernel_rfl) (by simp) ?_
      refine AllReadyH.cons (o := ?o1U12) ?hi1U12 (fun K hK => ?st1U12) AllReadyH.nil
      case hi1U12 => (simp only [List.getElem?_toArray, List.getElem?_cons_succ, List.getElem?_cons_zero]; rfl)
      go_simp
      refine (order_any ⟨c, m, k, o, r, t, n, g, l⟩ A0 cap0 _ hila0.drew hn).mono ?_
      rintro e w1 ⟨rfl, hx1⟩
      have hx1 : Below (((w.alloc (.cells (AV.cs ⟨c, m, k, o, r, t, n, g, l⟩ A0 cap0) 53)).alloc (.cells (AV.cs ⟨c2, m2, k2, o2, r2, t2, n2, g2, l2⟩ A1 cap1) 53)).drew).heap.size (((w.alloc (.cells (AV.cs ⟨c, m, k, o, r, t, n, g, l⟩ A0 cap0) 53)).alloc (.cells (AV.cs ⟨c2, m2, k2, o2, r2, t2, n2, g2, l2⟩ A1 cap1) 53)).drew) w1 := hx1
      have hb1 := (Below.drew hb0).trans (hx1.mono (Below.drew hb0).size)
      have hbxa1 := (hbxa0.drew).kept (Keep.of_below hx1) (fun h => absurd hbxa0.lt (Nat.not_lt.2 h))
      have hbxb1 := (hbxb0.drew).kept (Keep.of_below hx1) (fun h => absurd hbxb0.lt (Nat.not_lt.2 h))
      have hila1 := (hila0.drew).below hx1
      have hilb1 := (hilb0.drew).below hx1
      have hSa1 := boxS (c := c) (m := m) (k := k) (o := o) (r := r) (t := t) (n := n) (g := g) (l := l) (A := A0) (cap := cap0) hbxa1
      have hSb1 := boxS (c := c2) (m := m2) (k := k2) (o := o2) (r := r2) (t := t2) (n := n2) (g := g2) (l := l2) (A := A1) (cap := cap1) hbxb1
      rw [hON]
      go_wp2_with fail
      refine hK.out _ _ ⟨hSa1, hSb1⟩ (fun hHeld2 => ?_)
      clear hK K hHeld
      have hHeld := hHeld2
      clear hHeld2
      try simp only [Act.put, List.setIfInBounds_toArray, List.set_cons_zero, List.set_cons_succ]
      refine wpAnyH_ready (rs := [3]) (by kernel_rfl) (by simp) ?_
      refine AllReadyH.cons (o := ?o3U12) ?hi3U12 (fun K hK => ?st3U12) AllReadyH.nil
      case hi3U12 => (simp only [List.getElem?_toArray, List.getElem?_cons_succ, List.getElem?_cons_zero]; rfl)
      go_simp
      refine (order_any ⟨c2, m2, k2, o2, r2, t2, n2, g2, l2⟩ A1 cap1 _ hilb1 hn2).mono ?_
      rintro e w2 ⟨rfl, hx2⟩
      have hx2 : Below (w1).heap.size (w1) w2 := hx2
      have hb2 := hb1.trans (hx2.mono hb1.size)
      have hbxa2 := (hbxa1).kept (Keep.of_below hx2) (fun h => absurd hbxa1.lt (Nat.not_lt.2 h))
      have hbxb2 := (hbxb1).kept (Keep.of_below hx2) (fun h => absurd hbxb1.lt (Nat.not_lt.2 h))
      have hila2 := (hila1).below hx2
      have hilb2 := (hilb1).below hx2
      have hSa2 := boxS (c := c) (m := m) (k := k) (o := o) (r := r) (t := t) (n := n) (g := g) (l := l) (A := A0) (cap := cap0) hbxa2
      have hSb2 := boxS (c := c2) (m := m2) (k := k2) (o := o2) (r := r2) (t := t2) (n := n2) (g := g2) (l := l2) (A := A1) (cap := cap1) hbxb2
      rw [hON2]
      go_wp2_with fail
      refine hK.out _ _ ⟨hSa2, hSb2⟩ (fun hHeld2 => ?_)
      clear hK K hHeld
      have hHeld := hHeld2
      clear hHeld2
      try simp only [Act.put, List.setIfInBounds_toArray, List.set_cons_zero, List.set_cons_succ]
      refine wpAnyH_take (i := 4) (oi := ?oi4U12) (v := ?v4U12) ?hi4U12 (by kernel_rfl) (by kernel_rfl) (by kernel_rfl) ?hq4U12 (Or.inl ⟨?hw4U12, ?hy4U12⟩) (by assumption) ?rest4U12
      case hi4U12 => (simp only [List.getElem?_toArray, List.getElem?_cons_succ, List.getElem?_cons_zero]; rfl)
      case hq4U12 => exact fun _ _ _ h => h
      case hw4U12 => rfl
      case hy4U12 => (intro w hSw; (try dsimp only at hSw); go_simp <;> with_reducible rfl)
      try simp only [Act.put, List.setIfInBounds_toArray, List.set_cons_zero, List.set_cons_succ]
      refine wpAnyH_take (i := 5) (oi := ?oi5U12) (v := ?v5U12) ?hi5U12 (by kernel_rfl) (by kernel_rfl) (by kernel_rfl) ?hq5U12 (Or.inl ⟨?hw5U12, ?hy5U12⟩) (by assumption) ?rest5U12
      case hi5U12 => (simp only [List.getElem?_toArray, List.getElem?_cons_succ, List.getElem?_cons_zero]; rfl)
      case hq5U12 => exact fun _ _ _ h => h
      case hw5U12 => rfl
      case hy5U12 => (intro w hSw; (try dsimp only at hSw); go_simp <;> with_reducible rfl)
      try simp only [Act.put, List.setIfInBounds_toArray, List.set_cons_zero, List.set_cons_succ]
      refine wpAnyH_done (by kernel_rfl) ?_ _
      have key := raskmay_any ⟨c, m, k, o, r, t, n, g, l⟩ A0 cap0 w2 hila2 hwl0 hn hg7
      rw [hm] at key
      unfold AV.v at key
      dsimp only at key
      go_wp2_with fail
      refine key.mono ?_
      rintro e w3 ⟨rfl, hx3⟩
      clear key
      have hb3 := hb2.trans (hx3.mono hb2.size)
      have hbxa3 := hbxa2.kept (Keep.of_below hx3) (fun h => absurd hbxa2.lt (Nat.not_lt.2 h))
      have hbxb3 := hbxb2.kept (Keep.of_below hx3) (fun h => absurd hbxb2.lt (Nat.not_lt.2 h))
      have hila3 := hila2.below hx3
      have hilb3 := hilb2.below hx3
      clear hbxa2 hbxb2 hila2 hilb2 hSa2 hSb2
      have hSa3 := boxS (c := c) (m := m) (k := k) (o := o) (r := r) (t := t) (n := n) (g := g) (l := l) (A := A0) (cap := cap0) hbxa3
      have hSb3 := boxS (c := c2) (m := m2) (k := k2) (o := o2) (r := r2) (t := t2) (n := n2) (g := g2) (l := l2) (A := A1) (cap := cap1) hbxb3
      go_wp2_with fail
      refine wp_region_held_drew (S := (fun w' => (w'.cell? ⟨w.heap.size, 0, none⟩ = some (.int .i64 c) ∧ w'.cell? ⟨w.heap.size, 1, none⟩ = some (.int .i64 m) ∧ w'.cell? ⟨w.heap.size, 2, none⟩ = some (.int .i64 k) ∧ w'.cell? ⟨w.heap.size, 3, none⟩ = some (.int .i64 o) ∧ w'.cell? ⟨w.heap.size, 4, none⟩ = some (.int .i64 r) ∧ w'.cell? ⟨w.heap.size, 5, none⟩ = some (.int .i64 t) ∧ w'.cell? ⟨w.heap.size, 6, none⟩ = some (.int .i64 n) ∧ w'.cell? ⟨w.heap.size, 7, none⟩ = some (.string ⟨g.toArray⟩) ∧ w'.cell? ⟨w.heap.size, 8, none⟩ = some (.slice A0 l.length cap0)) ∧ (w'.cell? ⟨w.heap.size + 1, 0, none⟩ = some (.int .i64 c2) ∧ w'.cell? ⟨w.heap.size + 1, 1, none⟩ = some (.int .i64 m2) ∧ w'.cell? ⟨w.heap.size + 1, 2, none⟩ = some (.int .i64 k2) ∧ w'.cell? ⟨w.heap.size + 1, 3, none⟩ = some (.int .i64 o2) ∧ w'.cell? ⟨w.heap.size + 1, 4, none⟩ = some (.int .i64 r2) ∧ w'.cell? ⟨w.heap.size + 1, 5, none⟩ = some (.int .i64 t2) ∧ w'.cell? ⟨w.heap.size + 1, 6, none⟩ = some (.int .i64 n2) ∧ w'.cell? ⟨w.heap.size + 1, 7, none⟩ = some (.string ⟨g2.toArray⟩) ∧ w'.cell? ⟨w.heap.size + 1, 8, none⟩ = some (.slice A1 l2.length cap1)))) (by kernel_rfl) ⟨hSa3, hSb3⟩ (fun hHeld => ?_)
      refine wpAnyH_ready (rs := [0]) (by kernel_rfl) (by simp) ?_
      refine AllReadyH.cons (o := ?o0V12) ?hi0V12 (fun K hK => ?st0V12) AllReadyH.nil
      case hi0V12 => (simp only [List.getElem?_toArray, List.getElem?_cons_succ, List.getElem?_cons_zero]; rfl)
      go_simp
      refine (alives_any _).mono ?_
      rintro e w4 ⟨rfl, hx4⟩
      have hx4 : Below (w3.drew).heap.size (w3.drew) w4 := hx4
      have hb4 := (Below.drew hb3).trans (hx4.mono (Below.drew hb3).size)
      have hbxa4 := (hbxa3.drew).kept (Keep.of_below hx4) (fun h => absurd hbxa3.lt (Nat.not_lt.2 h))
      have hbxb4 := (hbxb3.drew).kept (Keep.of_below hx4) (fun h => absurd hbxb3.lt (Nat.not_lt.2 h))
      have hila4 := (hila3.drew).below hx4
      have hilb4 := (hilb3.drew).below hx4
      have hSa4 := boxS (c := c) (m := m) (k := k) (o := o) (r := r) (t := t) (n := n) (g := g) (l := l) (A := A0) (cap := cap0) hbxa4
      have hSb4 := boxS (c := c2) (m := m2) (k := k2) (o := o2) (r := r2) (t := t2) (n := n2) (g := g2) (l := l2) (A := A1) (cap := cap1) hbxb4
      go_wp2_with fail
      refine hK.out _ _ ⟨hSa4, hSb4⟩ (fun hHeld2 => ?_)
      clear hK K hHeld
      have hHeld := hHeld2
      clear hHeld2
      try simp only [Act.put, List.setIfInBounds_toArray, List.set_cons_zero, List.set_cons_succ]
      refine wpAnyH_take (i := 1) (oi := ?oi1V12) (v := ?v1V12) ?hi1V12 (by kernel_rfl) (by kernel_rfl) (by kernel_rfl) ?hq1V12 (Or.inl ⟨?hw1V12, ?hy1V12⟩) (by assumption) ?rest1V12
      case hi1V12 => (simp only [List.getElem?_toArray, List.getElem?_cons_succ, List.getElem?_cons_zero]; rfl)
      case hq1V12 => exact fun _ _ _ h => h
      case hw1V12 => rfl
      case hy1V12 => (intro w hSw; (try dsimp only at hSw); go_simp <;> with_reducible rfl)
      try simp only [Act.put, List.setIfInBounds_toArray, List.set_cons_zero, List.set_cons_succ]
      refine wpAnyH_take (i := 2) (oi := ?oi2V12) (v := ?v2V12) ?hi2V12 (by kernel_rfl) (by kernel_rfl) (by kernel_rfl) ?hq2V12 (Or.inl ⟨?hw2V12, ?hy2V12⟩) (by assumption) ?rest2V12
      case hi2V12 => (simp only [List.getElem?_toArray, List.getElem?_cons_succ, List.getElem?_cons_zero]; rfl)
      case hq2V12 => exact fun _ _ _ h => h
      case hw2V12 => rfl
      case hy2V12 => (intro w hSw; (try dsimp only at hSw); go_simp <;> with_reducible rfl)
      try simp only [Act.put, List.setIfInBounds_toArray, List.set_cons_zero, List.set_cons_succ]
      refine wpAnyH_take (i := 3) (oi := ?oi3V12) (v := ?v3V12) ?hi3V12 (by kernel_rfl) (by kernel_rfl) (by kernel_rfl) ?hq3V12 (Or.inl ⟨?hw3V12, ?hy3V12⟩) (by assumption) ?rest3V12
      case hi3V12 => (simp only [List.getElem?_toArray, List.getElem?_cons_succ, List.getElem?_cons_zero]; rfl)
      case hq3V12 => exact fun _ _ _ h => h
      case hw3V12 => rfl
      case hy3V12 => (intro w hSw; (try dsimp only at hSw); go_simp <;> with_reducible rfl)
      try simp only [Act.put, List.setIfInBounds_toArray, List.set_cons_zero, List.set_cons_succ]
      refine wpAnyH_take (i := 4) (oi := ?oi4V12) (v := ?v4V12) ?hi4V12 (by kernel_rfl) (by kernel_rfl) (by kernel_rfl) ?hq4V12 (Or.inl ⟨?hw4V12, ?hy4V12⟩) (by assumption) ?rest4V12
      case hi4V12 => (simp only [List.getElem?_toArray, List.getElem?_cons_succ, List.getElem?_cons_zero]; rfl)
      case hq4V12 => exact fun _ _ _ h => h
      case hw4V12 => rfl
      case hy4V12 => (intro w hSw; (try dsimp only at hSw); go_simp <;> with_reducible rfl)
      try simp only [Act.put, List.setIfInBounds_toArray, List.set_cons_zero, List.set_cons_succ]
      refine wpAnyH_take (i := 5) (oi := ?oi5V12) (v := ?v5V12) ?hi5V12 (by kernel_rfl) (by kernel_rfl) (by kernel_rfl) ?hq5V12 (Or.inl ⟨?hw5V12, ?hy5V12⟩) (by assumption) ?rest5V12
      case hi5V12 => (simp only [List.getElem?_toArray, List.getElem?_cons_succ, List.getElem?_cons_zero]; rfl)
      case hq5V12 => exact fun _ _ _ h => h
      case hw5V12 => rfl
      case hy5V12 => (intro w hSw; (try dsimp only at hSw); go_simp <;> with_reducible rfl)
      try simp only [Act.put, List.setIfInBounds_toArray, List.set_cons_zero, List.set_cons_succ]
      refine wpAnyH_take (i := 6) (oi := ?oi6V12) (v := ?v6V12) ?hi6V12 (by kernel_rfl) (by kernel_rfl) (by kernel_rfl) ?hq6V12 (Or.inl ⟨?hw6V12, ?hy6V12⟩) (by assumption) ?rest6V12
      case hi6V12 => (simp only [List.getElem?_toArray, List.getElem?_cons_succ, List.getElem?_cons_zero]; rfl)
      case hq6V12 => exact fun _ _ _ h => h
      case hw6V12 => rfl
      case hy6V12 => (intro w hSw; (try dsimp only at hSw); go_simp <;> with_reducible rfl)
      try simp only [Act.put, List.setIfInBounds_toArray, List.set_cons_zero, List.set_cons_succ]
      refine wpAnyH_take (i := 7) (oi := ?oi7V12) (v := ?v7V12) ?hi7V12 (by kernel_rfl) (by kernel_rfl) (by kernel_rfl) ?hq7V12 (Or.inl ⟨?hw7V12, ?hy7V12⟩) (by assumption) ?rest7V12
      case hi7V12 => (simp only [List.getElem?_toArray, List.getElem?_cons_succ, List.getElem?_cons_zero]; rfl)
      case hq7V12 => exact fun _ _ _ h => h
      case hw7V12 => rfl
      case hy7V12 => (intro w hSw; (try dsimp only at hSw); go_simp <;> with_reducible rfl)
      try simp only [Act.put, List.setIfInBounds_toArray, List.set_cons_zero, List.set_cons_succ]
      refine wpAnyH_take (i := 8) (oi := ?oi8V12) (v := ?v8V12) ?hi8V12 (by kernel_rfl) (by kernel_rfl) (by kernel_rfl) ?hq8V12 (Or.inl ⟨?hw8V12, ?hy8V12⟩) (by assumption) ?rest8V12
      case hi8V12 => (simp only [List.getElem?_toArray, List.getElem?_cons_succ, List.getElem?_cons_zero]; rfl)
      case hq8V12 => exact fun _ _ _ h => h
      case hw8V12 => rfl
      case hy8V12 => (intro w hSw; (try dsimp only at hSw); go_simp <;> with_reducible rfl)
      try simp only [Act.put, List.setIfInBounds_toArray, List.set_cons_zero, List.set_cons_succ]
      refine wpAnyH_take (i := 9) (oi := ?oi9V12) (v := ?v9V12) ?hi9V12 (by kernel_rfl) (by kernel_rfl) (by kernel_rfl) ?hq9V12 (Or.inl ⟨?hw9V12, ?hy9V12⟩) (by assumption) ?rest9V12
      case hi9V12 => (simp only [List.getElem?_toArray, List.getElem?_cons_succ, List.getElem?_cons_zero]; rfl)
      case hq9V12 => exact fun _ _ _ h => h
      case hw9V12 => rfl
      case hy9V12 => (intro w hSw; (try dsimp only at hSw); go_simp <;> with_reducible rfl)
      try simp only [Act.put, List.setIfInBounds_toArray, List.set_cons_zero, List.set_cons_succ]
      refine wpAnyH_take (i := 10) (oi := ?oi10V12) (v := ?v10V12) ?hi10V12 (by kernel_rfl) (by kernel_rfl) (by kernel_rfl) ?hq10V12 (Or.inl ⟨?hw10V12, ?hy10V12⟩) (by assumption) ?rest10V12
      case hi10V12 => (simp only [List.getElem?_toArray, List.getElem?_cons_succ, List.getElem?_cons_zero]; rfl)
      case hq10V12 => exact fun _ _ _ h => h
      case hw10V12 => rfl
      case hy10V12 => (intro w hSw; (try dsimp only at hSw); go_simp <;> with_reducible rfl)
      try simp only [Act.put, List.setIfInBounds_toArray, List.set_cons_zero, List.set_cons_succ]
      refine wpAnyH_take (i := 12) (oi := ?oi12V12) (v := ?v12V12) ?hi12V12 (by kernel_rfl) (by kernel_rfl) (by kernel_rfl) ?hq12V12 (Or.inl ⟨?hw12V12, ?hy12V12⟩) (by assumption) ?rest12V12
      case hi12V12 => (simp only [List.getElem?_toArray, List.getElem?_cons_succ, List.getElem?_cons_zero]; rfl)
      case hq12V12 => exact fun _ _ _ h => h
      case hw12V12 => rfl
      case hy12V12 => (intro w hSw; (try dsimp only at hSw); go_simp <;> with_reducible rfl)
      try simp only [Act.put, List.setIfInBounds_toArray, List.set_cons_zero, List.set_cons_succ]
      refine wpAnyH_ready (rs := [11]) (by kernel_rfl) (by simp) ?_
      refine AllReadyH.cons (o := ?o11V12) ?hi11V12 (fun K hK => ?st11V12) AllReadyH.nil
      case hi11V12 => (simp only [List.getElem?_toArray, List.getElem?_cons_succ, List.getElem?_cons_zero]; rfl)
      go_simp
      refine (home_any c a2 _ hr2).mono ?_
      rintro e w' ⟨rfl, hww⟩
      subst w'
      rw [hHO]
      go_wp2_with fail
      refine hK.out _ _ ⟨hSa4, hSb4⟩ (fun hHeld2 => ?_)
      clear hK K hHeld
      have hHeld := hHeld2
      clear hHeld2
      try simp only [Act.put, List.setIfInBounds_toArray, List.set_cons_zero, List.set_cons_succ]
      refine wpAnyH_take (i := 13) (oi := ?oi13V12) (v := ?v13V12) ?hi13V12 (by kernel_rfl) (by kernel_rfl) (by kernel_rfl) ?hq13V12 (Or.inl ⟨?hw13V12, ?hy13V12⟩) (by assumption) ?rest13V12
      case hi13V12 => (simp only [List.getElem?_toArray, List.getElem?_cons_succ, List.getElem?_cons_zero]; rfl)
      case hq13V12 => exact fun _ _ _ h => h
      case hw13V12 => rfl
      case hy13V12 => (intro w hSw; (try dsimp only at hSw); go_simp <;> with_reducible rfl)
      try simp only [Act.put, List.setIfInBounds_toArray, List.set_cons_zero, List.set_cons_succ]
      refine wpAnyH_take (i := 14) (oi := ?oi14V12) (v := ?v14V12) ?hi14V12 (by kernel_rfl) (by kernel_rfl) (by kernel_rfl) ?hq14V12 (Or.inl ⟨?hw14V12, ?hy14V12⟩) (by assumption) ?rest14V12
      case hi14V12 => (simp only [List.getElem?_toArray, List.getElem?_cons_succ, List.getElem?_cons_zero]; rfl)
      case hq14V12 => exact fun _ _ _ h => h
      case hw14V12 => rfl
      case hy14V12 => (intro w hSw; (try dsimp only at hSw); go_simp <;> with_reducible rfl)
      try simp only [Act.put, List.setIfInBounds_toArray, List.set_cons_zero, List.set_cons_succ]
      refine wpAnyH_take (i := 15) (oi := ?oi15V12) (v := ?v15V12) ?hi15V12 (by kernel_rfl) (by kernel_rfl) (by kernel_rfl) ?hq15V12 (Or.inl ⟨?hw15V12, ?hy15V12⟩) (by assumption) ?rest15V12
      case hi15V12 => (simp only [List.getElem?_toArray, List.getElem?_cons_succ, List.getElem?_cons_zero]; rfl)
      case hq15V12 => exact fun _ _ _ h => h
      case hw15V12 => rfl
      case hy15V12 => (intro w hSw; (try dsimp only at hSw); go_simp <;> with_reducible rfl)
      try simp only [Act.put, List.setIfInBounds_toArray, List.set_cons_zero, List.set_cons_succ]
      refine wpAnyH_take (i := 16) (oi := ?oi16V12) (v := ?v16V12) ?hi16V12 (by kernel_rfl) (by kernel_rfl) (by kernel_rfl) ?hq16V12 (Or.inl ⟨?hw16V12, ?hy16V12⟩) (by assumption) ?rest16V12
      case hi16V12 => (simp only [List.getElem?_toArray, List.getElem?_cons_succ, List.getElem?_cons_zero]; rfl)
      case hq16V12 => exact fun _ _ _ h => h
      case hw16V12 => rfl
      case hy16V12 => (intro w hSw; (try dsimp only at hSw); go_simp <;> with_reducible rfl)
      try simp only [Act.put, List.setIfInBounds_toArray, List.set_cons_zero, List.set_cons_succ]
      refine wpAnyH_take (i := 17) (oi := ?oi17V12) (v := ?v17V12) ?hi17V12 (by kernel_rfl) (by kernel_rfl) (by kernel_rfl) ?hq17V12 (Or.inl ⟨?hw17V12, ?hy17V12⟩) (by assumption) ?rest17V12
      case hi17V12 => (simp only [List.getElem?_toArray, List.getElem?_cons_succ, List.getElem?_cons_zero]; rfl)
      case hq17V12 => exact fun _ _ _ h => h
      case hw17V12 => rfl
      case hy17V12 => (intro w hSw; (try dsimp only at hSw); go_simp <;> with_reducible rfl)
      try simp only [Act.put, List.setIfInBounds_toArray, List.set_cons_zero, List.set_cons_succ]
      refine wpAnyH_take (i := 18) (oi := ?oi18V12) (v := ?v18V12) ?hi18V12 (by kernel_rfl) (by kernel_rfl) (by kernel_rfl) ?hq18V12 (Or.inl ⟨?hw18V12, ?hy18V12⟩) (by assumption) ?rest18V12
      case hi18V12 => (simp only [List.getElem?_toArray, List.getElem?_cons_succ, List.getElem?_cons_zero]; rfl)
      case hq18V12 => exact fun _ _ _ h => h
      case hw18V12 => rfl
      case hy18V12 => (intro w hSw; (try dsimp only at hSw); go_simp <;> with_reducible rfl)
      try simp only [Act.put, List.setIfInBounds_toArray, List.set_cons_zero, List.set_cons_succ]
      refine wpAnyH_take (i := 19) (oi := ?oi19V12) (v := undef) ?hi19V12 (by kernel_rfl) (by kernel_rfl) (by kernel_rfl) ?hq19V12 (Or.inr ⟨?hw19V12, rfl⟩) (by assumption) ?rest19V12
      case hi19V12 => (simp only [List.getElem?_toArray, List.getElem?_cons_succ, List.getElem?_cons_zero]; rfl)
      case hq19V12 => exact fun _ _ _ h => h
      case hw19V12 => rfl
      try simp only [Act.put, List.setIfInBounds_toArray, List.set_cons_zero, List.set_cons_succ]
      refine wpAnyH_take (i := 21) (oi := ?oi21V12) (v := undef) ?hi21V12 (by kernel_rfl) (by kernel_rfl) (by kernel_rfl) ?hq21V12 (Or.inr ⟨?hw21V12, rfl⟩) (by assumption) ?rest21V12
      case hi21V12 => (simp only [List.getElem?_toArray, List.getElem?_cons_succ, List.getElem?_cons_zero]; rfl)
      case hq21V12 => exact fun _ _ _ h => h
      case hw21V12 => rfl
      try simp only [Act.put, List.setIfInBounds_toArray, List.set_cons_zero, List.set_cons_succ]
      refine wpAnyH_take (i := 22) (oi := ?oi22V12) (v := undef) ?hi22V12 (by kernel_rfl) (by kernel_rfl) (by kernel_rfl) ?hq22V12 (Or.inr ⟨?hw22V12, rfl⟩) (by assumption) ?rest22V12
      case hi22V12 => (simp only [List.getElem?_toArray, List.getElem?_cons_succ, List.getElem?_cons_zero]; rfl)
      case hq22V12 => exact fun _ _ _ h => h
      case hw22V12 => rfl
      try simp only [Act.put, List.setIfInBounds_toArray, List.set_cons_zero, List.set_cons_succ]
      refine wpAnyH_take (i := 20) (oi := ?oi20V12) (v := undef) ?hi20V12 (by kernel_rfl) (by kernel_rfl) (by kernel_rfl) ?hq20V12 (Or.inr ⟨?hw20V12, rfl⟩) (by assumption) ?rest20V12
      case hi20V12 => (simp only [List.getElem?_toArray, List.getElem?_cons_succ, List.getElem?_cons_zero]; rfl)
      case hq20V12 => exact fun _ _ _ h => h
      case hw20V12 => rfl
      try simp only [Act.put, List.setIfInBounds_toArray, List.set_cons_zero, List.set_cons_succ]
      refine wpAnyH_take (i := 23) (oi := ?oi23V12) (v := undef) ?hi23V12 (by kernel_rfl) (by kernel_rfl) (by kernel_rfl) ?hq23V12 (Or.inr ⟨?hw23V12, rfl⟩) (by assumption) ?rest23V12
      case hi23V12 => (simp only [List.getElem?_toArray, List.getElem?_cons_succ, List.getElem?_cons_zero]; rfl)
      case hq23V12 => exact fun _ _ _ h => h
      case hw23V12 => rfl
      try simp only [Act.put, List.setIfInBounds_toArray, List.set_cons_zero, List.set_cons_succ]
      refine wpAnyH_take (i := 24) (oi := ?oi24V12) (v := undef) ?hi24V12 (by kernel_rfl) (by kernel_rfl) (by kernel_rfl) ?hq24V12 (Or.inr ⟨?hw24V12, rfl⟩) (by assumption) ?rest24V12
      case hi24V12 => (simp only [List.getElem?_toArray, List.getElem?_cons_succ, List.getElem?_cons_zero]; rfl)
      case hq24V12 => exact fun _ _ _ h => h
      case hw24V12 => rfl
      try simp only [Act.put, List.setIfInBounds_toArray, List.set_cons_zero, List.set_cons_succ]
      refine wpAnyH_take (i := 25) (oi := ?oi25V12) (v := undef) ?hi25V12 (by kernel_rfl) (by kernel_rfl) (by kernel_rfl) ?hq25V12 (Or.inr ⟨?hw25V12, rfl⟩) (by assumption) ?rest25V12
      case hi25V12 => (simp only [List.getElem?_toArray, List.getElem?_cons_succ, List.getElem?_cons_zero]; rfl)
      case hq25V12 => exact fun _ _ _ h => h
      case hw25V12 => rfl
      try simp only [Act.put, List.setIfInBounds_toArray, List.set_cons_zero, List.set_cons_succ]
      refine wpAnyH_take (i := 26) (oi := ?oi26V12) (v := undef) ?hi26V12 (by kernel_rfl) (by kernel_rfl) (by kernel_rfl) ?hq26V12 (Or.inr ⟨?hw26V12, rfl⟩) (by assumption) ?rest26V12
      case hi26V12 => (simp only [List.getElem?_toArray, List.getElem?_cons_succ, List.getElem?_cons_zero]; rfl)
      case hq26V12 => exact fun _ _ _ h => h
      case hw26V12 => rfl
      try simp only [Act.put, List.setIfInBounds_toArray, List.set_cons_zero, List.set_cons_succ]
      refine wpAnyH_take (i := 27) (oi := ?oi27V12) (v := undef) ?hi27V12 (by kernel_rfl) (by kernel_rfl) (by kernel_rfl) ?hq27V12 (Or.inr ⟨?hw27V12, rfl⟩) (by assumption) ?rest27V12
      case hi27V12 => (simp only [List.getElem?_toArray, List.getElem?_cons_succ, List.getElem?_cons_zero]; rfl)
      case hq27V12 => exact fun _ _ _ h => h
      case hw27V12 => rfl
      try simp only [Act.put, List.setIfInBounds_toArray, List.set_cons_zero, List.set_cons_succ]
      refine wpAnyH_take (i := 28) (oi := ?oi28V12) (v := ?v28V12) ?hi28V12 (by kernel_rfl) (by kernel_rfl) (by kernel_rfl) ?hq28V12 (Or.inl ⟨?hw28V12, ?hy28V12⟩) (by assumption) ?rest28V12
      case hi28V12 => (simp only [List.getElem?_toArray, List.getElem?_cons_succ, List.getElem?_cons_zero]; rfl)
      case hq28V12 => exact fun _ _ _ h => h
      case hw28V12 => rfl
      case hy28V12 => (intro w hSw; (try dsimp only at hSw); go_simp <;> with_reducible rfl)
      try simp only [Act.put, List.setIfInBounds_toArray, List.set_cons_zero, List.set_cons_succ]
      refine wpAnyH_take (i := 29) (oi := ?oi29V12) (v := ?v29V12) ?hi29V12 (by kernel_rfl) (by kernel_rfl) (by kernel_rfl) ?hq29V12 (Or.inl ⟨?hw29V12, ?hy29V12⟩) (by assumption) ?rest29V12
      case hi29V12 => (simp only [List.getElem?_toArray, List.getElem?_cons_succ, List.getElem?_cons_zero]; rfl)
      case hq29V12 => exact fun _ _ _ h => h
      case hw29V12 => rfl
      case hy29V12 => (intro w hSw; (try dsimp only at hSw); go_simp <;> with_reducible rfl)
      try simp only [Act.put, List.setIfInBounds_toArray, List.set_cons_zero, List.set_cons_succ]
      refine wpAnyH_done (by kernel_rfl) ?_ _
      go_wp2
      go_ret
      exact ⟨by simp, hb4⟩
    have hr0 : (a2 == 0) = false := beq_eq_false_iff_ne.2 (by omega)
    have hr1 : ¬ a2 = 0 := by omega
    have hrem : wrap64 (Int.tmod c a2) = HO := by
      rw [← hHO]
      unfold homeN
      rw [if_pos (by omega), Int.tmod_eq_emod_of_nonneg h0]
      have hb1 := Int.emod_nonneg c (show a2 ≠ 0 by omega)
      have hb2 := Int.emod_lt_of_pos c (show 0 < a2 by omega)
      unfold wrap64
      omega
    have hrem2 : c % a2 = HO := by rw [← hHO]; unfold homeN; rw [if_pos (by omega)]
    go_enter Try.func9, Try.ntmps9
    have hSa0 := boxS (c := c) (m := m) (k := k) (o := o) (r := r) (t := t) (n := n) (g := g) (l := l) (A := A0) (cap := cap0) hbxa0
    have hSb0 := boxS (c := c2) (m := m2) (k := k2) (o := o2) (r := r2) (t := t2) (n := n2) (g := g2) (l := l2) (A := A1) (cap := cap1) hbxb0
    go_wp2_with fail
    refine wp_region_held_drew (S := (fun w' => (w'.cell? ⟨w.heap.size, 0, none⟩ = some (.int .i64 c) ∧ w'.cell? ⟨w.heap.size, 1, none⟩ = some (.int .i64 m) ∧ w'.cell? ⟨w.heap.size, 2, none⟩ = some (.int .i64 k) ∧ w'.cell? ⟨w.heap.size, 3, none⟩ = some (.int .i64 o) ∧ w'.cell? ⟨w.heap.size, 4, none⟩ = some (.int .i64 r) ∧ w'.cell? ⟨w.heap.size, 5, none⟩ = some (.int .i64 t) ∧ w'.cell? ⟨w.heap.size, 6, none⟩ = some (.int .i64 n) ∧ w'.cell? ⟨w.heap.size, 7, none⟩ = some (.string ⟨g.toArray⟩) ∧ w'.cell? ⟨w.heap.size, 8, none⟩ = some (.slice A0 l.length cap0)) ∧ (w'.cell? ⟨w.heap.size + 1, 0, none⟩ = some (.int .i64 c2) ∧ w'.cell? ⟨w.heap.size + 1, 1, none⟩ = some (.int .i64 m2) ∧ w'.cell? ⟨w.heap.size + 1, 2, none⟩ = some (.int .i64 k2) ∧ w'.cell? ⟨w.heap.size + 1, 3, none⟩ = some (.int .i64 o2) ∧ w'.cell? ⟨w.heap.size + 1, 4, none⟩ = some (.int .i64 r2) ∧ w'.cell? ⟨w.heap.size + 1, 5, none⟩ = some (.int .i64 t2) ∧ w'.cell? ⟨w.heap.size + 1, 6, none⟩ = some (.int .i64 n2) ∧ w'.cell? ⟨w.heap.size + 1, 7, none⟩ = some (.string ⟨g2.toArray⟩) ∧ w'.cell? ⟨w.heap.size + 1, 8, none⟩ = some (.slice A1 l2.length cap1)))) (by kernel_rfl) ⟨hSa0, hSb0⟩ (fun hHeld => ?_)
    refine wpAnyH_take (i := 0) (oi := ?oi0U13) (v := ?v0U13) ?hi0U13 (by kernel_rfl) (by kernel_rfl) (by kernel_rfl) ?hq0U13 (Or.inl ⟨?hw0U13, ?hy0U13⟩) (by assumption) ?rest0U13
    case hi0U13 => (simp only [List.getElem?_toArray, List.getElem?_cons_succ, List.getElem?_cons_zero]; rfl)
    case hq0U13 => exact fun _ _ _ h => h
    case hw0U13 => rfl
    case hy0U13 => (intro w hSw; (try dsimp only at hSw); go_simp <;> with_reducible rfl)
    try simp only [Act.put, List.setIfInBounds_toArray, List.set_cons_zero, List.set_cons_succ]
    refine wpAnyH_take (i := 2) (oi := ?oi2U13) (v := ?v2U13) ?hi2U13 (by kernel_rfl) (by kernel_rfl) (by kernel_rfl) ?hq2U13 (Or.inl ⟨?hw2U13, ?hy2U13⟩) (by assumption) ?rest2U13
    case hi2U13 => (simp only [List.getElem?_toArray, List.getElem?_cons_succ, List.getElem?_cons_zero]; rfl)
    case hq2U13 => exact fun _ _ _ h => h
    case hw2U13 => rfl
    case hy2U13 => (intro w hSw; (try dsimp only at hSw); go_simp <;> with_reducible rfl)
    try simp only [Act.put, List.setIfInBounds_toArray, List.set_cons_zero, List.set_cons_succ]
    refine wpAnyH_ready (rs := [1]) (by kernel_rfl) (by simp) ?_
    refine AllReadyH.cons (o := ?o1U13) ?hi1U13 (fun K hK => ?st1U13) AllReadyH.nil
    case hi1U13 => (simp only [List.getElem?_toArray, List.getElem?_cons_succ, List.getElem?_cons_zero]; rfl)
    go_simp
    refine (order_any ⟨c, m, k, o, r, t, n, g, l⟩ A0 cap0 _ hila0.drew hn).mono ?_
    rintro e w1 ⟨rfl, hx1⟩
    have hx1 : Below (((w.alloc (.cells (AV.cs ⟨c, m, k, o, r, t, n, g, l⟩ A0 cap0) 53)).alloc (.cells (AV.cs ⟨c2, m2, k2, o2, r2, t2, n2, g2, l2⟩ A1 cap1) 53)).drew).heap.size (((w.alloc (.cells (AV.cs ⟨c, m, k, o, r, t, n, g, l⟩ A0 cap0) 53)).alloc (.cells (AV.cs ⟨c2, m2, k2, o2, r2, t2, n2, g2, l2⟩ A1 cap1) 53)).drew) w1 := hx1
    have hb1 := (Below.drew hb0).trans (hx1.mono (Below.drew hb0).size)
    have hbxa1 := (hbxa0.drew).kept (Keep.of_below hx1) (fun h => absurd hbxa0.lt (Nat.not_lt.2 h))
    have hbxb1 := (hbxb0.drew).kept (Keep.of_below hx1) (fun h => absurd hbxb0.lt (Nat.not_lt.2 h))
    have hila1 := (hila0.drew).below hx1
    have hilb1 := (hilb0.drew).below hx1
    have hSa1 := boxS (c := c) (m := m) (k := k) (o := o) (r := r) (t := t) (n := n) (g := g) (l := l) (A := A0) (cap := cap0) hbxa1
    have hSb1 := boxS (c := c2) (m := m2) (k := k2) (o := o2) (r := r2) (t := t2) (n := n2) (g := g2) (l := l2) (A := A1) (cap := cap1) hbxb1
    rw [hON]
    go_wp2_with fail
    refine hK.out _ _ ⟨hSa1, hSb1⟩ (fun hHeld2 => ?_)
    clear hK K hHeld
    have hHeld := hHeld2
    clear hHeld2
    try simp only [Act.put, List.setIfInBounds_toArray, List.set_cons_zero, List.set_cons_succ]
    refine wpAnyH_ready (rs := [3]) (by kernel_rfl) (by simp) ?_
    refine AllReadyH.cons (o := ?o3U13) ?hi3U13 (fun K hK => ?st3U13) AllReadyH.nil
    case hi3U13 => (simp only [List.getElem?_toArray, List.getElem?_cons_succ, List.getElem?_cons_zero]; rfl)
    go_simp
    refine (order_any ⟨c2, m2, k2, o2, r2, t2, n2, g2, l2⟩ A1 cap1 _ hilb1 hn2).mono ?_
    rintro e w2 ⟨rfl, hx2⟩
    have hx2 : Below (w1).heap.size (w1) w2 := hx2
    have hb2 := hb1.trans (hx2.mono hb1.size)
    have hbxa2 := (hbxa1).kept (Keep.of_below hx2) (fun h => absurd hbxa1.lt (Nat.not_lt.2 h))
    have hbxb2 := (hbxb1).kept (Keep.of_below hx2) (fun h => absurd hbxb1.lt (Nat.not_lt.2 h))
    have hila2 := (hila1).below hx2
    have hilb2 := (hilb1).below hx2
    have hSa2 := boxS (c := c) (m := m) (k := k) (o := o) (r := r) (t := t) (n := n) (g := g) (l := l) (A := A0) (cap := cap0) hbxa2
    have hSb2 := boxS (c := c2) (m := m2) (k := k2) (o := o2) (r := r2) (t := t2) (n := n2) (g := g2) (l := l2) (A := A1) (cap := cap1) hbxb2
    rw [hON2]
    go_wp2_with fail
    refine hK.out _ _ ⟨hSa2, hSb2⟩ (fun hHeld2 => ?_)
    clear hK K hHeld
    have hHeld := hHeld2
    clear hHeld2
    try simp only [Act.put, List.setIfInBounds_toArray, List.set_cons_zero, List.set_cons_succ]
    refine wpAnyH_take (i := 4) (oi := ?oi4U13) (v := ?v4U13) ?hi4U13 (by kernel_rfl) (by kernel_rfl) (by kernel_rfl) ?hq4U13 (Or.inl ⟨?hw4U13, ?hy4U13⟩) (by assumption) ?rest4U13
    case hi4U13 => (simp only [List.getElem?_toArray, List.getElem?_cons_succ, List.getElem?_cons_zero]; rfl)
    case hq4U13 => exact fun _ _ _ h => h
    case hw4U13 => rfl
    case hy4U13 => (intro w hSw; (try dsimp only at hSw); go_simp <;> with_reducible rfl)
    try simp only [Act.put, List.setIfInBounds_toArray, List.set_cons_zero, List.set_cons_succ]
    refine wpAnyH_take (i := 5) (oi := ?oi5U13) (v := ?v5U13) ?hi5U13 (by kernel_rfl) (by kernel_rfl) (by kernel_rfl) ?hq5U13 (Or.inl ⟨?hw5U13, ?hy5U13⟩) (by assumption) ?rest5U13
    case hi5U13 => (simp only [List.getElem?_toArray, List.getElem?_cons_succ, List.getElem?_cons_zero]; rfl)
    case hq5U13 => exact fun _ _ _ h => h
    case hw5U13 => rfl
    case hy5U13 => (intro w hSw; (try dsimp only at hSw); go_simp <;> with_reducible rfl)
    try simp only [Act.put, List.setIfInBounds_toArray, List.set_cons_zero, List.set_cons_succ]
    refine wpAnyH_done (by kernel_rfl) ?_ _
    have key := raskmay_any ⟨c, m, k, o, r, t, n, g, l⟩ A0 cap0 w2 hila2 hwl0 hn hg7
    rw [hm] at key
    unfold AV.v at key
    dsimp only at key
    go_wp2_with fail
    refine key.mono ?_
    rintro e w3 ⟨rfl, hx3⟩
    clear key
    have hb3 := hb2.trans (hx3.mono hb2.size)
    have hbxa3 := hbxa2.kept (Keep.of_below hx3) (fun h => absurd hbxa2.lt (Nat.not_lt.2 h))
    have hbxb3 := hbxb2.kept (Keep.of_below hx3) (fun h => absurd hbxb2.lt (Nat.not_lt.2 h))
    have hila3 := hila2.below hx3
    have hilb3 := hilb2.below hx3
    clear hbxa2 hbxb2 hila2 hilb2 hSa2 hSb2
    have hSa3 := boxS (c := c) (m := m) (k := k) (o := o) (r := r) (t := t) (n := n) (g := g) (l := l) (A := A0) (cap := cap0) hbxa3
    have hSb3 := boxS (c := c2) (m := m2) (k := k2) (o := o2) (r := r2) (t := t2) (n := n2) (g := g2) (l := l2) (A := A1) (cap := cap1) hbxb3
    go_wp2_with fail
    try rw [hrem]
    try rw [hrem2]
    refine wp_region_held_drew (S := (fun w' => (w'.cell? ⟨w.heap.size, 0, none⟩ = some (.int .i64 c) ∧ w'.cell? ⟨w.heap.size, 1, none⟩ = some (.int .i64 m) ∧ w'.cell? ⟨w.heap.size, 2, none⟩ = some (.int .i64 k) ∧ w'.cell? ⟨w.heap.size, 3, none⟩ = some (.int .i64 o) ∧ w'.cell? ⟨w.heap.size, 4, none⟩ = some (.int .i64 r) ∧ w'.cell? ⟨w.heap.size, 5, none⟩ = some (.int .i64 t) ∧ w'.cell? ⟨w.heap.size, 6, none⟩ = some (.int .i64 n) ∧ w'.cell? ⟨w.heap.size, 7, none⟩ = some (.string ⟨g.toArray⟩) ∧ w'.cell? ⟨w.heap.size, 8, none⟩ = some (.slice A0 l.length cap0)) ∧ (w'.cell? ⟨w.heap.size + 1, 0, none⟩ = some (.int .i64 c2) ∧ w'.cell? ⟨w.heap.size + 1, 1, none⟩ = some (.int .i64 m2) ∧ w'.cell? ⟨w.heap.size + 1, 2, none⟩ = some (.int .i64 k2) ∧ w'.cell? ⟨w.heap.size + 1, 3, none⟩ = some (.int .i64 o2) ∧ w'.cell? ⟨w.heap.size + 1, 4, none⟩ = some (.int .i64 r2) ∧ w'.cell? ⟨w.heap.size + 1, 5, none⟩ = some (.int .i64 t2) ∧ w'.cell? ⟨w.heap.size + 1, 6, none⟩ = some (.int .i64 n2) ∧ w'.cell? ⟨w.heap.size + 1, 7, none⟩ = some (.string ⟨g2.toArray⟩) ∧ w'.cell? ⟨w.heap.size + 1, 8, none⟩ = some (.slice A1 l2.length cap1)))) (by kernel_rfl) ⟨hSa3, hSb3⟩ (fun hHeld => ?_)
    refine wpAnyH_ready (rs := [0]) (by kernel_rfl) (by simp) ?_
    refine AllReadyH.cons (o := ?o0V13) ?hi0V13 (fun K hK => ?st0V13) AllReadyH.nil
    case hi0V13 => (simp only [List.getElem?_toArray, List.getElem?_cons_succ, List.getElem?_cons_zero]; rfl)
    go_simp
    refine (alives_any _).mono ?_
    rintro e w4 ⟨rfl, hx4⟩
    have hx4 : Below (w3.drew).heap.size (w3.drew) w4 := hx4
    have hb4 := (Below.drew hb3).trans (hx4.mono (Below.drew hb3).size)
    have hbxa4 := (hbxa3.drew).kept (Keep.of_below hx4) (fun h => absurd hbxa3.lt (Nat.not_lt.2 h))
    have hbxb4 := (hbxb3.drew).kept (Keep.of_below hx4) (fun h => absurd hbxb3.lt (Nat.not_lt.2 h))
    have hila4 := (hila3.drew).below hx4
    have hilb4 := (hilb3.drew).below hx4
    have hSa4 := boxS (c := c) (m := m) (k := k) (o := o) (r := r) (t := t) (n := n) (g := g) (l := l) (A := A0) (cap := cap0) hbxa4
    have hSb4 := boxS (c := c2) (m := m2) (k := k2) (o := o2) (r := r2) (t := t2) (n := n2) (g := g2) (l := l2) (A := A1) (cap := cap1) hbxb4
    go_wp2_with fail
    refine hK.out _ _ ⟨hSa4, hSb4⟩ (fun hHeld2 => ?_)
    clear hK K hHeld
    have hHeld := hHeld2
    clear hHeld2
    try simp only [Act.put, List.setIfInBounds_toArray, List.set_cons_zero, List.set_cons_succ]
    refine wpAnyH_take (i := 1) (oi := ?oi1V13) (v := ?v1V13) ?hi1V13 (by kernel_rfl) (by kernel_rfl) (by kernel_rfl) ?hq1V13 (Or.inl ⟨?hw1V13, ?hy1V13⟩) (by assumption) ?rest1V13
    case hi1V13 => (simp only [List.getElem?_toArray, List.getElem?_cons_succ, List.getElem?_cons_zero]; rfl)
    case hq1V13 => exact fun _ _ _ h => h
    case hw1V13 => rfl
    case hy1V13 => (intro w hSw; (try dsimp only at hSw); go_simp <;> with_reducible rfl)
    try simp only [Act.put, List.setIfInBounds_toArray, List.set_cons_zero, List.set_cons_succ]
    refine wpAnyH_take (i := 2) (oi := ?oi2V13) (v := ?v2V13) ?hi2V13 (by kernel_rfl) (by kernel_rfl) (by kernel_rfl) ?hq2V13 (Or.inl ⟨?hw2V13, ?hy2V13⟩) (by assumption) ?rest2V13
    case hi2V13 => (simp only [List.getElem?_toArray, List.getElem?_cons_succ, List.getElem?_cons_zero]; rfl)
    case hq2V13 => exact fun _ _ _ h => h
    case hw2V13 => rfl
    case hy2V13 => (intro w hSw; (try dsimp only at hSw); go_simp <;> with_reducible rfl)
    try simp only [Act.put, List.setIfInBounds_toArray, List.set_cons_zero, List.set_cons_succ]
    refine wpAnyH_take (i := 3) (oi := ?oi3V13) (v := ?v3V13) ?hi3V13 (by kernel_rfl) (by kernel_rfl) (by kernel_rfl) ?hq3V13 (Or.inl ⟨?hw3V13, ?hy3V13⟩) (by assumption) ?rest3V13
    case hi3V13 => (simp only [List.getElem?_toArray, List.getElem?_cons_succ, List.getElem?_cons_zero]; rfl)
    case hq3V13 => exact fun _ _ _ h => h
    case hw3V13 => rfl
    case hy3V13 => (intro w hSw; (try dsimp only at hSw); go_simp <;> with_reducible rfl)
    try simp only [Act.put, List.setIfInBounds_toArray, List.set_cons_zero, List.set_cons_succ]
    refine wpAnyH_take (i := 4) (oi := ?oi4V13) (v := ?v4V13) ?hi4V13 (by kernel_rfl) (by kernel_rfl) (by kernel_rfl) ?hq4V13 (Or.inl ⟨?hw4V13, ?hy4V13⟩) (by assumption) ?rest4V13
    case hi4V13 => (simp only [List.getElem?_toArray, List.getElem?_cons_succ, List.getElem?_cons_zero]; rfl)
    case hq4V13 => exact fun _ _ _ h => h
    case hw4V13 => rfl
    case hy4V13 => (intro w hSw; (try dsimp only at hSw); go_simp <;> with_reducible rfl)
    try simp only [Act.put, List.setIfInBounds_toArray, List.set_cons_zero, List.set_cons_succ]
    refine wpAnyH_take (i := 5) (oi := ?oi5V13) (v := ?v5V13) ?hi5V13 (by kernel_rfl) (by kernel_rfl) (by kernel_rfl) ?hq5V13 (Or.inl ⟨?hw5V13, ?hy5V13⟩) (by assumption) ?rest5V13
    case hi5V13 => (simp only [List.getElem?_toArray, List.getElem?_cons_succ, List.getElem?_cons_zero]; rfl)
    case hq5V13 => exact fun _ _ _ h => h
    case hw5V13 => rfl
    case hy5V13 => (intro w hSw; (try dsimp only at hSw); go_simp <;> with_reducible rfl)
    try simp only [Act.put, List.setIfInBounds_toArray, List.set_cons_zero, List.set_cons_succ]
    refine wpAnyH_take (i := 6) (oi := ?oi6V13) (v := ?v6V13) ?hi6V13 (by kernel_rfl) (by kernel_rfl) (by kernel_rfl) ?hq6V13 (Or.inl ⟨?hw6V13, ?hy6V13⟩) (by assumption) ?rest6V13
    case hi6V13 => (simp only [List.getElem?_toArray, List.getElem?_cons_succ, List.getElem?_cons_zero]; rfl)
    case hq6V13 => exact fun _ _ _ h => h
    case hw6V13 => rfl
    case hy6V13 => (intro w hSw; (try dsimp only at hSw); go_simp <;> with_reducible rfl)
    try simp only [Act.put, List.setIfInBounds_toArray, List.set_cons_zero, List.set_cons_succ]
    refine wpAnyH_take (i := 7) (oi := ?oi7V13) (v := ?v7V13) ?hi7V13 (by kernel_rfl) (by kernel_rfl) (by kernel_rfl) ?hq7V13 (Or.inl ⟨?hw7V13, ?hy7V13⟩) (by assumption) ?rest7V13
    case hi7V13 => (simp only [List.getElem?_toArray, List.getElem?_cons_succ, List.getElem?_cons_zero]; rfl)
    case hq7V13 => exact fun _ _ _ h => h
    case hw7V13 => rfl
    case hy7V13 => (intro w hSw; (try dsimp only at hSw); go_simp <;> with_reducible rfl)
    try simp only [Act.put, List.setIfInBounds_toArray, List.set_cons_zero, List.set_cons_succ]
    refine wpAnyH_take (i := 8) (oi := ?oi8V13) (v := ?v8V13) ?hi8V13 (by kernel_rfl) (by kernel_rfl) (by kernel_rfl) ?hq8V13 (Or.inl ⟨?hw8V13, ?hy8V13⟩) (by assumption) ?rest8V13
    case hi8V13 => (simp only [List.getElem?_toArray, List.getElem?_cons_succ, List.getElem?_cons_zero]; rfl)
    case hq8V13 => exact fun _ _ _ h => h
    case hw8V13 => rfl
    case hy8V13 => (intro w hSw; (try dsimp only at hSw); go_simp <;> with_reducible rfl)
    try simp only [Act.put, List.setIfInBounds_toArray, List.set_cons_zero, List.set_cons_succ]
    refine wpAnyH_take (i := 9) (oi := ?oi9V13) (v := ?v9V13) ?hi9V13 (by kernel_rfl) (by kernel_rfl) (by kernel_rfl) ?hq9V13 (Or.inl ⟨?hw9V13, ?hy9V13⟩) (by assumption) ?rest9V13
    case hi9V13 => (simp only [List.getElem?_toArray, List.getElem?_cons_succ, List.getElem?_cons_zero]; rfl)
    case hq9V13 => exact fun _ _ _ h => h
    case hw9V13 => rfl
    case hy9V13 => (intro w hSw; (try dsimp only at hSw); go_simp <;> with_reducible rfl)
    try simp only [Act.put, List.setIfInBounds_toArray, List.set_cons_zero, List.set_cons_succ]
    refine wpAnyH_take (i := 10) (oi := ?oi10V13) (v := ?v10V13) ?hi10V13 (by kernel_rfl) (by kernel_rfl) (by kernel_rfl) ?hq10V13 (Or.inl ⟨?hw10V13, ?hy10V13⟩) (by assumption) ?rest10V13
    case hi10V13 => (simp only [List.getElem?_toArray, List.getElem?_cons_succ, List.getElem?_cons_zero]; rfl)
    case hq10V13 => exact fun _ _ _ h => h
    case hw10V13 => rfl
    case hy10V13 => (intro w hSw; (try dsimp only at hSw); go_simp <;> with_reducible rfl)
    try simp only [Act.put, List.setIfInBounds_toArray, List.set_cons_zero, List.set_cons_succ]
    refine wpAnyH_take (i := 12) (oi := ?oi12V13) (v := ?v12V13) ?hi12V13 (by kernel_rfl) (by kernel_rfl) (by kernel_rfl) ?hq12V13 (Or.inl ⟨?hw12V13, ?hy12V13⟩) (by assumption) ?rest12V13
    case hi12V13 => (simp only [List.getElem?_toArray, List.getElem?_cons_succ, List.getElem?_cons_zero]; rfl)
    case hq12V13 => exact fun _ _ _ h => h
    case hw12V13 => rfl
    case hy12V13 => (intro w hSw; (try dsimp only at hSw); go_simp <;> with_reducible rfl)
    try simp only [Act.put, List.setIfInBounds_toArray, List.set_cons_zero, List.set_cons_succ]
    refine wpAnyH_ready (rs := [11]) (by kernel_rfl) (by simp) ?_
    refine AllReadyH.cons (o := ?o11V13) ?hi11V13 (fun K hK => ?st11V13) AllReadyH.nil
    case hi11V13 => (simp only [List.getElem?_toArray, List.getElem?_cons_succ, List.getElem?_cons_zero]; rfl)
    go_simp
    refine (home_any c a2 _ hr2).mono ?_
    rintro e w' ⟨rfl, hww⟩
    subst w'
    rw [hHO]
    go_wp2_with fail
    refine hK.out _ _ ⟨hSa4, hSb4⟩ (fun hHeld2 => ?_)
    clear hK K hHeld
    have hHeld := hHeld2
    clear hHeld2
    try simp only [Act.put, List.setIfInBounds_toArray, List.set_cons_zero, List.set_cons_succ]
    refine wpAnyH_take (i := 13) (oi := ?oi13V13) (v := ?v13V13) ?hi13V13 (by kernel_rfl) (by kernel_rfl) (by kernel_rfl) ?hq13V13 (Or.inl ⟨?hw13V13, ?hy13V13⟩) (by assumption) ?rest13V13
    case hi13V13 => (simp only [List.getElem?_toArray, List.getElem?_cons_succ, List.getElem?_cons_zero]; rfl)
    case hq13V13 => exact fun _ _ _ h => h
    case hw13V13 => rfl
    case hy13V13 => (intro w hSw; (try dsimp only at hSw); go_simp <;> with_reducible rfl)
    try simp only [Act.put, List.setIfInBounds_toArray, List.set_cons_zero, List.set_cons_succ]
    refine wpAnyH_take (i := 14) (oi := ?oi14V13) (v := ?v14V13) ?hi14V13 (by kernel_rfl) (by kernel_rfl) (by kernel_rfl) ?hq14V13 (Or.inl ⟨?hw14V13, ?hy14V13⟩) (by assumption) ?rest14V13
    case hi14V13 => (simp only [List.getElem?_toArray, List.getElem?_cons_succ, List.getElem?_cons_zero]; rfl)
    case hq14V13 => exact fun _ _ _ h => h
    case hw14V13 => rfl
    case hy14V13 => (intro w hSw; (try dsimp only at hSw); go_simp <;> with_reducible rfl)
    try simp only [Act.put, List.setIfInBounds_toArray, List.set_cons_zero, List.set_cons_succ]
    refine wpAnyH_take (i := 15) (oi := ?oi15V13) (v := ?v15V13) ?hi15V13 (by kernel_rfl) (by kernel_rfl) (by kernel_rfl) ?hq15V13 (Or.inl ⟨?hw15V13, ?hy15V13⟩) (by assumption) ?rest15V13
    case hi15V13 => (simp only [List.getElem?_toArray, List.getElem?_cons_succ, List.getElem?_cons_zero]; rfl)
    case hq15V13 => exact fun _ _ _ h => h
    case hw15V13 => rfl
    case hy15V13 => (intro w hSw; (try dsimp only at hSw); go_simp <;> with_reducible rfl)
    try simp only [Act.put, List.setIfInBounds_toArray, List.set_cons_zero, List.set_cons_succ]
    refine wpAnyH_take (i := 16) (oi := ?oi16V13) (v := ?v16V13) ?hi16V13 (by kernel_rfl) (by kernel_rfl) (by kernel_rfl) ?hq16V13 (Or.inl ⟨?hw16V13, ?hy16V13⟩) (by assumption) ?rest16V13
    case hi16V13 => (simp only [List.getElem?_toArray, List.getElem?_cons_succ, List.getElem?_cons_zero]; rfl)
    case hq16V13 => exact fun _ _ _ h => h
    case hw16V13 => rfl
    case hy16V13 => (intro w hSw; (try dsimp only at hSw); go_simp <;> with_reducible rfl)
    try simp only [Act.put, List.setIfInBounds_toArray, List.set_cons_zero, List.set_cons_succ]
    refine wpAnyH_take (i := 17) (oi := ?oi17V13) (v := ?v17V13) ?hi17V13 (by kernel_rfl) (by kernel_rfl) (by kernel_rfl) ?hq17V13 (Or.inl ⟨?hw17V13, ?hy17V13⟩) (by assumption) ?rest17V13
    case hi17V13 => (simp only [List.getElem?_toArray, List.getElem?_cons_succ, List.getElem?_cons_zero]; rfl)
    case hq17V13 => exact fun _ _ _ h => h
    case hw17V13 => rfl
    case hy17V13 => (intro w hSw; (try dsimp only at hSw); go_simp <;> with_reducible rfl)
    try simp only [Act.put, List.setIfInBounds_toArray, List.set_cons_zero, List.set_cons_succ]
    refine wpAnyH_take (i := 18) (oi := ?oi18V13) (v := ?v18V13) ?hi18V13 (by kernel_rfl) (by kernel_rfl) (by kernel_rfl) ?hq18V13 (Or.inl ⟨?hw18V13, ?hy18V13⟩) (by assumption) ?rest18V13
    case hi18V13 => (simp only [List.getElem?_toArray, List.getElem?_cons_succ, List.getElem?_cons_zero]; rfl)
    case hq18V13 => exact fun _ _ _ h => h
    case hw18V13 => rfl
    case hy18V13 => (intro w hSw; (try dsimp only at hSw); go_simp <;> with_reducible rfl)
    try simp only [Act.put, List.setIfInBounds_toArray, List.set_cons_zero, List.set_cons_succ]
    refine wpAnyH_take (i := 19) (oi := ?oi19V13) (v := undef) ?hi19V13 (by kernel_rfl) (by kernel_rfl) (by kernel_rfl) ?hq19V13 (Or.inr ⟨?hw19V13, rfl⟩) (by assumption) ?rest19V13
    case hi19V13 => (simp only [List.getElem?_toArray, List.getElem?_cons_succ, List.getElem?_cons_zero]; rfl)
    case hq19V13 => exact fun _ _ _ h => h
    case hw19V13 => rfl
    try simp only [Act.put, List.setIfInBounds_toArray, List.set_cons_zero, List.set_cons_succ]
    refine wpAnyH_take (i := 21) (oi := ?oi21V13) (v := undef) ?hi21V13 (by kernel_rfl) (by kernel_rfl) (by kernel_rfl) ?hq21V13 (Or.inr ⟨?hw21V13, rfl⟩) (by assumption) ?rest21V13
    case hi21V13 => (simp only [List.getElem?_toArray, List.getElem?_cons_succ, List.getElem?_cons_zero]; rfl)
    case hq21V13 => exact fun _ _ _ h => h
    case hw21V13 => rfl
    try simp only [Act.put, List.setIfInBounds_toArray, List.set_cons_zero, List.set_cons_succ]
    refine wpAnyH_take (i := 22) (oi := ?oi22V13) (v := undef) ?hi22V13 (by kernel_rfl) (by kernel_rfl) (by kernel_rfl) ?hq22V13 (Or.inr ⟨?hw22V13, rfl⟩) (by assumption) ?rest22V13
    case hi22V13 => (simp only [List.getElem?_toArray, List.getElem?_cons_succ, List.getElem?_cons_zero]; rfl)
    case hq22V13 => exact fun _ _ _ h => h
    case hw22V13 => rfl
    try simp only [Act.put, List.setIfInBounds_toArray, List.set_cons_zero, List.set_cons_succ]
    refine wpAnyH_take (i := 20) (oi := ?oi20V13) (v := undef) ?hi20V13 (by kernel_rfl) (by kernel_rfl) (by kernel_rfl) ?hq20V13 (Or.inr ⟨?hw20V13, rfl⟩) (by assumption) ?rest20V13
    case hi20V13 => (simp only [List.getElem?_toArray, List.getElem?_cons_succ, List.getElem?_cons_zero]; rfl)
    case hq20V13 => exact fun _ _ _ h => h
    case hw20V13 => rfl
    try simp only [Act.put, List.setIfInBounds_toArray, List.set_cons_zero, List.set_cons_succ]
    refine wpAnyH_take (i := 23) (oi := ?oi23V13) (v := undef) ?hi23V13 (by kernel_rfl) (by kernel_rfl) (by kernel_rfl) ?hq23V13 (Or.inr ⟨?hw23V13, rfl⟩) (by assumption) ?rest23V13
    case hi23V13 => (simp only [List.getElem?_toArray, List.getElem?_cons_succ, List.getElem?_cons_zero]; rfl)
    case hq23V13 => exact fun _ _ _ h => h
    case hw23V13 => rfl
    try simp only [Act.put, List.setIfInBounds_toArray, List.set_cons_zero, List.set_cons_succ]
    refine wpAnyH_take (i := 24) (oi := ?oi24V13) (v := undef) ?hi24V13 (by kernel_rfl) (by kernel_rfl) (by kernel_rfl) ?hq24V13 (Or.inr ⟨?hw24V13, rfl⟩) (by assumption) ?rest24V13
    case hi24V13 => (simp only [List.getElem?_toArray, List.getElem?_cons_succ, List.getElem?_cons_zero]; rfl)
    case hq24V13 => exact fun _ _ _ h => h
    case hw24V13 => rfl
    try simp only [Act.put, List.setIfInBounds_toArray, List.set_cons_zero, List.set_cons_succ]
    refine wpAnyH_take (i := 25) (oi := ?oi25V13) (v := undef) ?hi25V13 (by kernel_rfl) (by kernel_rfl) (by kernel_rfl) ?hq25V13 (Or.inr ⟨?hw25V13, rfl⟩) (by assumption) ?rest25V13
    case hi25V13 => (simp only [List.getElem?_toArray, List.getElem?_cons_succ, List.getElem?_cons_zero]; rfl)
    case hq25V13 => exact fun _ _ _ h => h
    case hw25V13 => rfl
    try simp only [Act.put, List.setIfInBounds_toArray, List.set_cons_zero, List.set_cons_succ]
    refine wpAnyH_take (i := 26) (oi := ?oi26V13) (v := undef) ?hi26V13 (by kernel_rfl) (by kernel_rfl) (by kernel_rfl) ?hq26V13 (Or.inr ⟨?hw26V13, rfl⟩) (by assumption) ?rest26V13
    case hi26V13 => (simp only [List.getElem?_toArray, List.getElem?_cons_succ, List.getElem?_cons_zero]; rfl)
    case hq26V13 => exact fun _ _ _ h => h
    case hw26V13 => rfl
    try simp only [Act.put, List.setIfInBounds_toArray, List.set_cons_zero, List.set_cons_succ]
    refine wpAnyH_take (i := 27) (oi := ?oi27V13) (v := undef) ?hi27V13 (by kernel_rfl) (by kernel_rfl) (by kernel_rfl) ?hq27V13 (Or.inr ⟨?hw27V13, rfl⟩) (by assumption) ?rest27V13
    case hi27V13 => (simp only [List.getElem?_toArray, List.getElem?_cons_succ, List.getElem?_cons_zero]; rfl)
    case hq27V13 => exact fun _ _ _ h => h
    case hw27V13 => rfl
    try simp only [Act.put, List.setIfInBounds_toArray, List.set_cons_zero, List.set_cons_succ]
    refine wpAnyH_take (i := 28) (oi := ?oi28V13) (v := ?v28V13) ?hi28V13 (by kernel_rfl) (by kernel_rfl) (by kernel_rfl) ?hq28V13 (Or.inl ⟨?hw28V13, ?hy28V13⟩) (by assumption) ?rest28V13
    case hi28V13 => (simp only [List.getElem?_toArray, List.getElem?_cons_succ, List.getElem?_cons_zero]; rfl)
    case hq28V13 => exact fun _ _ _ h => h
    case hw28V13 => rfl
    case hy28V13 => (intro w hSw; (try dsimp only at hSw); go_simp <;> with_reducible rfl)
    try simp only [Act.put, List.setIfInBounds_toArray, List.set_cons_zero, List.set_cons_succ]
    refine wpAnyH_take (i := 29) (oi := ?oi29V13) (v := ?v29V13) ?hi29V13 (by kernel_rfl) (by kernel_rfl) (by kernel_rfl) ?hq29V13 (Or.inl ⟨?hw29V13, ?hy29V13⟩) (by assumption) ?rest29V13
    case hi29V13 => (simp only [List.getElem?_toArray, List.getElem?_cons_succ, List.getElem?_cons_zero]; rfl)
    case hq29V13 => exact fun _ _ _ h => h
    case hw29V13 => rfl
    case hy29V13 => (intro w hSw; (try dsimp only at hSw); go_simp <;> with_reducible rfl)
    try simp only [Act.put, List.setIfInBounds_toArray, List.set_cons_zero, List.set_cons_succ]
    refine wpAnyH_done (by kernel_rfl) ?_ _
    go_wp2
    go_ret
    exact ⟨by simp, hb4⟩
  | true =>
    by_cases hk : k = 1
    case neg =>
      obtain rfl : ON = 0 := by
        rcases hf1 with ⟨h, _⟩ | ⟨_, h, _⟩
        · exact h
        · exact absurd h hk
      have hkb : (k == 1) = false := beq_eq_false_iff_ne.2 hk
      have hkd : decide (k = 1) = false := decide_eq_false hk
      clear hf1 hf2
      by_cases h0 : 0 ≤ c
      case neg =>
        have hq0 : ¬ 0 ≤ c := h0
        have hq0d : decide (0 ≤ c) = false := decide_eq_false h0
        obtain rfl : HO = 0 := by rw [← hHO]; unfold homeN; rw [if_neg (by omega)]
        go_enter Try.func9, Try.ntmps9
        have hSa0 := boxS (c := c) (m := m) (k := k) (o := o) (r := r) (t := t) (n := n) (g := g) (l := l) (A := A0) (cap := cap0) hbxa0
        have hSb0 := boxS (c := c2) (m := m2) (k := k2) (o := o2) (r := r2) (t := t2) (n := n2) (g := g2) (l := l2) (A := A1) (cap := cap1) hbxb0
        go_wp2_with fail
        refine wp_region_held_drew (S := (fun w' => (w'.cell? ⟨w.heap.size, 0, none⟩ = some (.int .i64 c) ∧ w'.cell? ⟨w.heap.size, 1, none⟩ = some (.int .i64 m) ∧ w'.cell? ⟨w.heap.size, 2, none⟩ = some (.int .i64 k) ∧ w'.cell? ⟨w.heap.size, 3, none⟩ = some (.int .i64 o) ∧ w'.cell? ⟨w.heap.size, 4, none⟩ = some (.int .i64 r) ∧ w'.cell? ⟨w.heap.size, 5, none⟩ = some (.int .i64 t) ∧ w'.cell? ⟨w.heap.size, 6, none⟩ = some (.int .i64 n) ∧ w'.cell? ⟨w.heap.size, 7, none⟩ = some (.string ⟨g.toArray⟩) ∧ w'.cell? ⟨w.heap.size, 8, none⟩ = some (.slice A0 l.length cap0)) ∧ (w'.cell? ⟨w.heap.size + 1, 0, none⟩ = some (.int .i64 c2) ∧ w'.cell? ⟨w.heap.size + 1, 1, none⟩ = some (.int .i64 m2) ∧ w'.cell? ⟨w.heap.size + 1, 2, none⟩ = some (.int .i64 k2) ∧ w'.cell? ⟨w.heap.size + 1, 3, none⟩ = some (.int .i64 o2) ∧ w'.cell? ⟨w.heap.size + 1, 4, none⟩ = some (.int .i64 r2) ∧ w'.cell? ⟨w.heap.size + 1, 5, none⟩ = some (.int .i64 t2) ∧ w'.cell? ⟨w.heap.size + 1, 6, none⟩ = some (.int .i64 n2) ∧ w'.cell? ⟨w.heap.size + 1, 7, none⟩ = some (.string ⟨g2.toArray⟩) ∧ w'.cell? ⟨w.heap.size + 1, 8, none⟩ = some (.slice A1 l2.length cap1)))) (by kernel_rfl) ⟨hSa0, hSb0⟩ (fun hHeld => ?_)
        refine wpAnyH_take (i := 0) (oi := ?oi0U21) (v := ?v0U21) ?hi0U21 (by kernel_rfl) (by kernel_rfl) (by kernel_rfl) ?hq0U21 (Or.inl ⟨?hw0U21, ?hy0U21⟩) (by assumption) ?rest0U21
        case hi0U21 => (simp only [List.getElem?_toArray, List.getElem?_cons_succ, List.getElem?_cons_zero]; rfl)
        case hq0U21 => exact fun _ _ _ h => h
        case hw0U21 => rfl
        case hy0U21 => (intro w hSw; (try dsimp only at hSw); go_simp <;> with_reducible rfl)
        try simp only [Act.put, List.setIfInBounds_toArray, List.set_cons_zero, List.set_cons_succ]
        refine wpAnyH_take (i := 2) (oi := ?oi2U21) (v := ?v2U21) ?hi2U21 (by kernel_rfl) (by kernel_rfl) (by kernel_rfl) ?hq2U21 (Or.inl ⟨?hw2U21, ?hy2U21⟩) (by assumption) ?rest2U21
        case hi2U21 => (simp only [List.getElem?_toArray, List.getElem?_cons_succ, List.getElem?_cons_zero]; rfl)
        case hq2U21 => exact fun _ _ _ h => h
        case hw2U21 => rfl
        case hy2U21 => (intro w hSw; (try dsimp only at hSw); go_simp <;> with_reducible rfl)
        try simp only [Act.put, List.setIfInBounds_toArray, List.set_cons_zero, List.set_cons_succ]
        refine wpAnyH_ready (rs := [1]) (by kernel_rfl) (by simp) ?_
        refine AllReadyH.cons (o := ?o1U21) ?hi1U21 (fun K hK => ?st1U21) AllReadyH.nil
        case hi1U21 => (simp only [List.getElem?_toArray, List.getElem?_cons_succ, List.getElem?_cons_zero]; rfl)
        go_simp
        refine (order_any ⟨c, m, k, o, r, t, n, g, l⟩ A0 cap0 _ hila0.drew hn).mono ?_
        rintro e w1 ⟨rfl, hx1⟩
        have hx1 : Below (((w.alloc (.cells (AV.cs ⟨c, m, k, o, r, t, n, g, l⟩ A0 cap0) 53)).alloc (.cells (AV.cs ⟨c2, m2, k2, o2, r2, t2, n2, g2, l2⟩ A1 cap1) 53)).drew).heap.size (((w.alloc (.cells (AV.cs ⟨c, m, k, o, r, t, n, g, l⟩ A0 cap0) 53)).alloc (.cells (AV.cs ⟨c2, m2, k2, o2, r2, t2, n2, g2, l2⟩ A1 cap1) 53)).drew) w1 := hx1
        have hb1 := (Below.drew hb0).trans (hx1.mono (Below.drew hb0).size)
        have hbxa1 := (hbxa0.drew).kept (Keep.of_below hx1) (fun h => absurd hbxa0.lt (Nat.not_lt.2 h))
        have hbxb1 := (hbxb0.drew).kept (Keep.of_below hx1) (fun h => absurd hbxb0.lt (Nat.not_lt.2 h))
        have hila1 := (hila0.drew).below hx1
        have hilb1 := (hilb0.drew).below hx1
        have hSa1 := boxS (c := c) (m := m) (k := k) (o := o) (r := r) (t := t) (n := n) (g := g) (l := l) (A := A0) (cap := cap0) hbxa1
        have hSb1 := boxS (c := c2) (m := m2) (k := k2) (o := o2) (r := r2) (t := t2) (n := n2) (g := g2) (l := l2) (A := A1) (cap := cap1) hbxb1
        rw [hON]
        go_wp2_with fail
        refine hK.out _ _ ⟨hSa1, hSb1⟩ (fun hHeld2 => ?_)
        clear hK K hHeld
        have hHeld := hHeld2
        clear hHeld2
        try simp only [Act.put, List.setIfInBounds_toArray, List.set_cons_zero, List.set_cons_succ]
        refine wpAnyH_ready (rs := [3]) (by kernel_rfl) (by simp) ?_
        refine AllReadyH.cons (o := ?o3U21) ?hi3U21 (fun K hK => ?st3U21) AllReadyH.nil
        case hi3U21 => (simp only [List.getElem?_toArray, List.getElem?_cons_succ, List.getElem?_cons_zero]; rfl)
        go_simp
        refine (order_any ⟨c2, m2, k2, o2, r2, t2, n2, g2, l2⟩ A1 cap1 _ hilb1 hn2).mono ?_
        rintro e w2 ⟨rfl, hx2⟩
        have hx2 : Below (w1).heap.size (w1) w2 := hx2
        have hb2 := hb1.trans (hx2.mono hb1.size)
        have hbxa2 := (hbxa1).kept (Keep.of_below hx2) (fun h => absurd hbxa1.lt (Nat.not_lt.2 h))
        have hbxb2 := (hbxb1).kept (Keep.of_below hx2) (fun h => absurd hbxb1.lt (Nat.not_lt.2 h))
        have hila2 := (hila1).below hx2
        have hilb2 := (hilb1).below hx2
        have hSa2 := boxS (c := c) (m := m) (k := k) (o := o) (r := r) (t := t) (n := n) (g := g) (l := l) (A := A0) (cap := cap0) hbxa2
        have hSb2 := boxS (c := c2) (m := m2) (k := k2) (o := o2) (r := r2) (t := t2) (n := n2) (g := g2) (l := l2) (A := A1) (cap := cap1) hbxb2
        rw [hON2]
        go_wp2_with fail
        refine hK.out _ _ ⟨hSa2, hSb2⟩ (fun hHeld2 => ?_)
        clear hK K hHeld
        have hHeld := hHeld2
        clear hHeld2
        try simp only [Act.put, List.setIfInBounds_toArray, List.set_cons_zero, List.set_cons_succ]
        refine wpAnyH_take (i := 4) (oi := ?oi4U21) (v := ?v4U21) ?hi4U21 (by kernel_rfl) (by kernel_rfl) (by kernel_rfl) ?hq4U21 (Or.inl ⟨?hw4U21, ?hy4U21⟩) (by assumption) ?rest4U21
        case hi4U21 => (simp only [List.getElem?_toArray, List.getElem?_cons_succ, List.getElem?_cons_zero]; rfl)
        case hq4U21 => exact fun _ _ _ h => h
        case hw4U21 => rfl
        case hy4U21 => (intro w hSw; (try dsimp only at hSw); go_simp <;> with_reducible rfl)
        try simp only [Act.put, List.setIfInBounds_toArray, List.set_cons_zero, List.set_cons_succ]
        refine wpAnyH_take (i := 5) (oi := ?oi5U21) (v := ?v5U21) ?hi5U21 (by kernel_rfl) (by kernel_rfl) (by kernel_rfl) ?hq5U21 (Or.inl ⟨?hw5U21, ?hy5U21⟩) (by assumption) ?rest5U21
        case hi5U21 => (simp only [List.getElem?_toArray, List.getElem?_cons_succ, List.getElem?_cons_zero]; rfl)
        case hq5U21 => exact fun _ _ _ h => h
        case hw5U21 => rfl
        case hy5U21 => (intro w hSw; (try dsimp only at hSw); go_simp <;> with_reducible rfl)
        try simp only [Act.put, List.setIfInBounds_toArray, List.set_cons_zero, List.set_cons_succ]
        refine wpAnyH_done (by kernel_rfl) ?_ _
        have key := raskmay_any ⟨c, m, k, o, r, t, n, g, l⟩ A0 cap0 w2 hila2 hwl0 hn hg7
        rw [hm] at key
        unfold AV.v at key
        dsimp only at key
        go_wp2_with fail
        refine key.mono ?_
        rintro e w3 ⟨rfl, hx3⟩
        clear key
        have hb3 := hb2.trans (hx3.mono hb2.size)
        have hbxa3 := hbxa2.kept (Keep.of_below hx3) (fun h => absurd hbxa2.lt (Nat.not_lt.2 h))
        have hbxb3 := hbxb2.kept (Keep.of_below hx3) (fun h => absurd hbxb2.lt (Nat.not_lt.2 h))
        have hila3 := hila2.below hx3
        have hilb3 := hilb2.below hx3
        clear hbxa2 hbxb2 hila2 hilb2 hSa2 hSb2
        have hSa3 := boxS (c := c) (m := m) (k := k) (o := o) (r := r) (t := t) (n := n) (g := g) (l := l) (A := A0) (cap := cap0) hbxa3
        have hSb3 := boxS (c := c2) (m := m2) (k := k2) (o := o2) (r := r2) (t := t2) (n := n2) (g := g2) (l := l2) (A := A1) (cap := cap1) hbxb3
        go_wp2_with fail
        refine wp_region_held_drew (S := (fun w' => (w'.cell? ⟨w.heap.size, 0, none⟩ = some (.int .i64 c) ∧ w'.cell? ⟨w.heap.size, 1, none⟩ = some (.int .i64 m) ∧ w'.cell? ⟨w.heap.size, 2, none⟩ = some (.int .i64 k) ∧ w'.cell? ⟨w.heap.size, 3, none⟩ = some (.int .i64 o) ∧ w'.cell? ⟨w.heap.size, 4, none⟩ = some (.int .i64 r) ∧ w'.cell? ⟨w.heap.size, 5, none⟩ = some (.int .i64 t) ∧ w'.cell? ⟨w.heap.size, 6, none⟩ = some (.int .i64 n) ∧ w'.cell? ⟨w.heap.size, 7, none⟩ = some (.string ⟨g.toArray⟩) ∧ w'.cell? ⟨w.heap.size, 8, none⟩ = some (.slice A0 l.length cap0)) ∧ (w'.cell? ⟨w.heap.size + 1, 0, none⟩ = some (.int .i64 c2) ∧ w'.cell? ⟨w.heap.size + 1, 1, none⟩ = some (.int .i64 m2) ∧ w'.cell? ⟨w.heap.size + 1, 2, none⟩ = some (.int .i64 k2) ∧ w'.cell? ⟨w.heap.size + 1, 3, none⟩ = some (.int .i64 o2) ∧ w'.cell? ⟨w.heap.size + 1, 4, none⟩ = some (.int .i64 r2) ∧ w'.cell? ⟨w.heap.size + 1, 5, none⟩ = some (.int .i64 t2) ∧ w'.cell? ⟨w.heap.size + 1, 6, none⟩ = some (.int .i64 n2) ∧ w'.cell? ⟨w.heap.size + 1, 7, none⟩ = some (.string ⟨g2.toArray⟩) ∧ w'.cell? ⟨w.heap.size + 1, 8, none⟩ = some (.slice A1 l2.length cap1)))) (by kernel_rfl) ⟨hSa3, hSb3⟩ (fun hHeld => ?_)
        refine wpAnyH_ready (rs := [0]) (by kernel_rfl) (by simp) ?_
        refine AllReadyH.cons (o := ?o0V21) ?hi0V21 (fun K hK => ?st0V21) AllReadyH.nil
        case hi0V21 => (simp only [List.getElem?_toArray, List.getElem?_cons_succ, List.getElem?_cons_zero]; rfl)
        go_simp
        refine (alives_any _).mono ?_
        rintro e w4 ⟨rfl, hx4⟩
        have hx4 : Below (w3.drew).heap.size (w3.drew) w4 := hx4
        have hb4 := (Below.drew hb3).trans (hx4.mono (Below.drew hb3).size)
        have hbxa4 := (hbxa3.drew).kept (Keep.of_below hx4) (fun h => absurd hbxa3.lt (Nat.not_lt.2 h))
        have hbxb4 := (hbxb3.drew).kept (Keep.of_below hx4) (fun h => absurd hbxb3.lt (Nat.not_lt.2 h))
        have hila4 := (hila3.drew).below hx4
        have hilb4 := (hilb3.drew).below hx4
        have hSa4 := boxS (c := c) (m := m) (k := k) (o := o) (r := r) (t := t) (n := n) (g := g) (l := l) (A := A0) (cap := cap0) hbxa4
        have hSb4 := boxS (c := c2) (m := m2) (k := k2) (o := o2) (r := r2) (t := t2) (n := n2) (g := g2) (l := l2) (A := A1) (cap := cap1) hbxb4
        go_wp2_with fail
        refine hK.out _ _ ⟨hSa4, hSb4⟩ (fun hHeld2 => ?_)
        clear hK K hHeld
        have hHeld := hHeld2
        clear hHeld2
        try simp only [Act.put, List.setIfInBounds_toArray, List.set_cons_zero, List.set_cons_succ]
        refine wpAnyH_take (i := 1) (oi := ?oi1V21) (v := ?v1V21) ?hi1V21 (by kernel_rfl) (by kernel_rfl) (by kernel_rfl) ?hq1V21 (Or.inl ⟨?hw1V21, ?hy1V21⟩) (by assumption) ?rest1V21
        case hi1V21 => (simp only [List.getElem?_toArray, List.getElem?_cons_succ, List.getElem?_cons_zero]; rfl)
        case hq1V21 => exact fun _ _ _ h => h
        case hw1V21 => rfl
        case hy1V21 => (intro w hSw; (try dsimp only at hSw); go_simp <;> with_reducible rfl)
        try simp only [Act.put, List.setIfInBounds_toArray, List.set_cons_zero, List.set_cons_succ]
        refine wpAnyH_take (i := 2) (oi := ?oi2V21) (v := ?v2V21) ?hi2V21 (by kernel_rfl) (by kernel_rfl) (by kernel_rfl) ?hq2V21 (Or.inl ⟨?hw2V21, ?hy2V21⟩) (by assumption) ?rest2V21
        case hi2V21 => (simp only [List.getElem?_toArray, List.getElem?_cons_succ, List.getElem?_cons_zero]; rfl)
        case hq2V21 => exact fun _ _ _ h => h
        case hw2V21 => rfl
        case hy2V21 => (intro w hSw; (try dsimp only at hSw); go_simp <;> with_reducible rfl)
        try simp only [Act.put, List.setIfInBounds_toArray, List.set_cons_zero, List.set_cons_succ]
        refine wpAnyH_take (i := 3) (oi := ?oi3V21) (v := ?v3V21) ?hi3V21 (by kernel_rfl) (by kernel_rfl) (by kernel_rfl) ?hq3V21 (Or.inl ⟨?hw3V21, ?hy3V21⟩) (by assumption) ?rest3V21
        case hi3V21 => (simp only [List.getElem?_toArray, List.getElem?_cons_succ, List.getElem?_cons_zero]; rfl)
        case hq3V21 => exact fun _ _ _ h => h
        case hw3V21 => rfl
        case hy3V21 => (intro w hSw; (try dsimp only at hSw); go_simp <;> with_reducible rfl)
        try simp only [Act.put, List.setIfInBounds_toArray, List.set_cons_zero, List.set_cons_succ]
        refine wpAnyH_take (i := 4) (oi := ?oi4V21) (v := ?v4V21) ?hi4V21 (by kernel_rfl) (by kernel_rfl) (by kernel_rfl) ?hq4V21 (Or.inl ⟨?hw4V21, ?hy4V21⟩) (by assumption) ?rest4V21
        case hi4V21 => (simp only [List.getElem?_toArray, List.getElem?_cons_succ, List.getElem?_cons_zero]; rfl)
        case hq4V21 => exact fun _ _ _ h => h
        case hw4V21 => rfl
        case hy4V21 => (intro w hSw; (try dsimp only at hSw); go_simp <;> with_reducible rfl)
        try simp only [Act.put, List.setIfInBounds_toArray, List.set_cons_zero, List.set_cons_succ]
        refine wpAnyH_take (i := 5) (oi := ?oi5V21) (v := ?v5V21) ?hi5V21 (by kernel_rfl) (by kernel_rfl) (by kernel_rfl) ?hq5V21 (Or.inl ⟨?hw5V21, ?hy5V21⟩) (by assumption) ?rest5V21
        case hi5V21 => (simp only [List.getElem?_toArray, List.getElem?_cons_succ, List.getElem?_cons_zero]; rfl)
        case hq5V21 => exact fun _ _ _ h => h
        case hw5V21 => rfl
        case hy5V21 => (intro w hSw; (try dsimp only at hSw); go_simp <;> with_reducible rfl)
        try simp only [Act.put, List.setIfInBounds_toArray, List.set_cons_zero, List.set_cons_succ]
        refine wpAnyH_take (i := 6) (oi := ?oi6V21) (v := ?v6V21) ?hi6V21 (by kernel_rfl) (by kernel_rfl) (by kernel_rfl) ?hq6V21 (Or.inl ⟨?hw6V21, ?hy6V21⟩) (by assumption) ?rest6V21
        case hi6V21 => (simp only [List.getElem?_toArray, List.getElem?_cons_succ, List.getElem?_cons_zero]; rfl)
        case hq6V21 => exact fun _ _ _ h => h
        case hw6V21 => rfl
        case hy6V21 => (intro w hSw; (try dsimp only at hSw); go_simp <;> with_reducible rfl)
        try simp only [Act.put, List.setIfInBounds_toArray, List.set_cons_zero, List.set_cons_succ]
        refine wpAnyH_take (i := 7) (oi := ?oi7V21) (v := ?v7V21) ?hi7V21 (by kernel_rfl) (by kernel_rfl) (by kernel_rfl) ?hq7V21 (Or.inl ⟨?hw7V21, ?hy7V21⟩) (by assumption) ?rest7V21
        case hi7V21 => (simp only [List.getElem?_toArray, List.getElem?_cons_succ, List.getElem?_cons_zero]; rfl)
        case hq7V21 => exact fun _ _ _ h => h
        case hw7V21 => rfl
        case hy7V21 => (intro w hSw; (try dsimp only at hSw); go_simp <;> with_reducible rfl)
        try simp only [Act.put, List.setIfInBounds_toArray, List.set_cons_zero, List.set_cons_succ]
        refine wpAnyH_take (i := 8) (oi := ?oi8V21) (v := ?v8V21) ?hi8V21 (by kernel_rfl) (by kernel_rfl) (by kernel_rfl) ?hq8V21 (Or.inl ⟨?hw8V21, ?hy8V21⟩) (by assumption) ?rest8V21
        case hi8V21 => (simp only [List.getElem?_toArray, List.getElem?_cons_succ, List.getElem?_cons_zero]; rfl)
        case hq8V21 => exact fun _ _ _ h => h
        case hw8V21 => rfl
        case hy8V21 => (intro w hSw; (try dsimp only at hSw); go_simp <;> with_reducible rfl)
        try simp only [Act.put, List.setIfInBounds_toArray, List.set_cons_zero, List.set_cons_succ]
        refine wpAnyH_take (i := 9) (oi := ?oi9V21) (v := ?v9V21) ?hi9V21 (by kernel_rfl) (by kernel_rfl) (by kernel_rfl) ?hq9V21 (Or.inl ⟨?hw9V21, ?hy9V21⟩) (by assumption) ?rest9V21
        case hi9V21 => (simp only [List.getElem?_toArray, List.getElem?_cons_succ, List.getElem?_cons_zero]; rfl)
        case hq9V21 => exact fun _ _ _ h => h
        case hw9V21 => rfl
        case hy9V21 => (intro w hSw; (try dsimp only at hSw); go_simp <;> with_reducible rfl)
        try simp only [Act.put, List.setIfInBounds_toArray, List.set_cons_zero, List.set_cons_succ]
        refine wpAnyH_take (i := 10) (oi := ?oi10V21) (v := ?v10V21) ?hi10V21 (by kernel_rfl) (by kernel_rfl) (by kernel_rfl) ?hq10V21 (Or.inl ⟨?hw10V21, ?hy10V21⟩) (by assumption) ?rest10V21
        case hi10V21 => (simp only [List.getElem?_toArray, List.getElem?_cons_succ, List.getElem?_cons_zero]; rfl)
        case hq10V21 => exact fun _ _ _ h => h
        case hw10V21 => rfl
        case hy10V21 => (intro w hSw; (try dsimp only at hSw); go_simp <;> with_reducible rfl)
        try simp only [Act.put, List.setIfInBounds_toArray, List.set_cons_zero, List.set_cons_succ]
        refine wpAnyH_take (i := 12) (oi := ?oi12V21) (v := ?v12V21) ?hi12V21 (by kernel_rfl) (by kernel_rfl) (by kernel_rfl) ?hq12V21 (Or.inl ⟨?hw12V21, ?hy12V21⟩) (by assumption) ?rest12V21
        case hi12V21 => (simp only [List.getElem?_toArray, List.getElem?_cons_succ, List.getElem?_cons_zero]; rfl)
        case hq12V21 => exact fun _ _ _ h => h
        case hw12V21 => rfl
        case hy12V21 => (intro w hSw; (try dsimp only at hSw); go_simp <;> with_reducible rfl)
        try simp only [Act.put, List.setIfInBounds_toArray, List.set_cons_zero, List.set_cons_succ]
        refine wpAnyH_ready (rs := [11]) (by kernel_rfl) (by simp) ?_
        refine AllReadyH.cons (o := ?o11V21) ?hi11V21 (fun K hK => ?st11V21) AllReadyH.nil
        case hi11V21 => (simp only [List.getElem?_toArray, List.getElem?_cons_succ, List.getElem?_cons_zero]; rfl)
        go_simp
        refine (home_any c a2 _ hr2).mono ?_
        rintro e w' ⟨rfl, hww⟩
        subst w'
        rw [hHO]
        go_wp2_with fail
        refine hK.out _ _ ⟨hSa4, hSb4⟩ (fun hHeld2 => ?_)
        clear hK K hHeld
        have hHeld := hHeld2
        clear hHeld2
        try simp only [Act.put, List.setIfInBounds_toArray, List.set_cons_zero, List.set_cons_succ]
        refine wpAnyH_take (i := 13) (oi := ?oi13V21) (v := ?v13V21) ?hi13V21 (by kernel_rfl) (by kernel_rfl) (by kernel_rfl) ?hq13V21 (Or.inl ⟨?hw13V21, ?hy13V21⟩) (by assumption) ?rest13V21
        case hi13V21 => (simp only [List.getElem?_toArray, List.getElem?_cons_succ, List.getElem?_cons_zero]; rfl)
        case hq13V21 => exact fun _ _ _ h => h
        case hw13V21 => rfl
        case hy13V21 => (intro w hSw; (try dsimp only at hSw); go_simp <;> with_reducible rfl)
        try simp only [Act.put, List.setIfInBounds_toArray, List.set_cons_zero, List.set_cons_succ]
        refine wpAnyH_take (i := 14) (oi := ?oi14V21) (v := ?v14V21) ?hi14V21 (by kernel_rfl) (by kernel_rfl) (by kernel_rfl) ?hq14V21 (Or.inl ⟨?hw14V21, ?hy14V21⟩) (by assumption) ?rest14V21
        case hi14V21 => (simp only [List.getElem?_toArray, List.getElem?_cons_succ, List.getElem?_cons_zero]; rfl)
        case hq14V21 => exact fun _ _ _ h => h
        case hw14V21 => rfl
        case hy14V21 => (intro w hSw; (try dsimp only at hSw); go_simp <;> with_reducible rfl)
        try simp only [Act.put, List.setIfInBounds_toArray, List.set_cons_zero, List.set_cons_succ]
        refine wpAnyH_take (i := 15) (oi := ?oi15V21) (v := ?v15V21) ?hi15V21 (by kernel_rfl) (by kernel_rfl) (by kernel_rfl) ?hq15V21 (Or.inl ⟨?hw15V21, ?hy15V21⟩) (by assumption) ?rest15V21
        case hi15V21 => (simp only [List.getElem?_toArray, List.getElem?_cons_succ, List.getElem?_cons_zero]; rfl)
        case hq15V21 => exact fun _ _ _ h => h
        case hw15V21 => rfl
        case hy15V21 => (intro w hSw; (try dsimp only at hSw); go_simp <;> with_reducible rfl)
        try simp only [Act.put, List.setIfInBounds_toArray, List.set_cons_zero, List.set_cons_succ]
        refine wpAnyH_take (i := 16) (oi := ?oi16V21) (v := ?v16V21) ?hi16V21 (by kernel_rfl) (by kernel_rfl) (by kernel_rfl) ?hq16V21 (Or.inl ⟨?hw16V21, ?hy16V21⟩) (by assumption) ?rest16V21
        case hi16V21 => (simp only [List.getElem?_toArray, List.getElem?_cons_succ, List.getElem?_cons_zero]; rfl)
        case hq16V21 => exact fun _ _ _ h => h
        case hw16V21 => rfl
        case hy16V21 => (intro w hSw; (try dsimp only at hSw); go_simp <;> with_reducible rfl)
        try simp only [Act.put, List.setIfInBounds_toArray, List.set_cons_zero, List.set_cons_succ]
        refine wpAnyH_take (i := 17) (oi := ?oi17V21) (v := ?v17V21) ?hi17V21 (by kernel_rfl) (by kernel_rfl) (by kernel_rfl) ?hq17V21 (Or.inl ⟨?hw17V21, ?hy17V21⟩) (by assumption) ?rest17V21
        case hi17V21 => (simp only [List.getElem?_toArray, List.getElem?_cons_succ, List.getElem?_cons_zero]; rfl)
        case hq17V21 => exact fun _ _ _ h => h
        case hw17V21 => rfl
        case hy17V21 => (intro w hSw; (try dsimp only at hSw); go_simp <;> with_reducible rfl)
        try simp only [Act.put, List.setIfInBounds_toArray, List.set_cons_zero, List.set_cons_succ]
        refine wpAnyH_take (i := 18) (oi := ?oi18V21) (v := ?v18V21) ?hi18V21 (by kernel_rfl) (by kernel_rfl) (by kernel_rfl) ?hq18V21 (Or.inl ⟨?hw18V21, ?hy18V21⟩) (by assumption) ?rest18V21
        case hi18V21 => (simp only [List.getElem?_toArray, List.getElem?_cons_succ, List.getElem?_cons_zero]; rfl)
        case hq18V21 => exact fun _ _ _ h => h
        case hw18V21 => rfl
        case hy18V21 => (intro w hSw; (try dsimp only at hSw); go_simp <;> with_reducible rfl)
        try simp only [Act.put, List.setIfInBounds_toArray, List.set_cons_zero, List.set_cons_succ]
        refine wpAnyH_take (i := 19) (oi := ?oi19V21) (v := undef) ?hi19V21 (by kernel_rfl) (by kernel_rfl) (by kernel_rfl) ?hq19V21 (Or.inr ⟨?hw19V21, rfl⟩) (by assumption) ?rest19V21
        case hi19V21 => (simp only [List.getElem?_toArray, List.getElem?_cons_succ, List.getElem?_cons_zero]; rfl)
        case hq19V21 => exact fun _ _ _ h => h
        case hw19V21 => rfl
        try simp only [Act.put, List.setIfInBounds_toArray, List.set_cons_zero, List.set_cons_succ]
        refine wpAnyH_take (i := 21) (oi := ?oi21V21) (v := undef) ?hi21V21 (by kernel_rfl) (by kernel_rfl) (by kernel_rfl) ?hq21V21 (Or.inr ⟨?hw21V21, rfl⟩) (by assumption) ?rest21V21
        case hi21V21 => (simp only [List.getElem?_toArray, List.getElem?_cons_succ, List.getElem?_cons_zero]; rfl)
        case hq21V21 => exact fun _ _ _ h => h
        case hw21V21 => rfl
        try simp only [Act.put, List.setIfInBounds_toArray, List.set_cons_zero, List.set_cons_succ]
        refine wpAnyH_take (i := 22) (oi := ?oi22V21) (v := undef) ?hi22V21 (by kernel_rfl) (by kernel_rfl) (by kernel_rfl) ?hq22V21 (Or.inr ⟨?hw22V21, rfl⟩) (by assumption) ?rest22V21
        case hi22V21 => (simp only [List.getElem?_toArray, List.getElem?_cons_succ, List.getElem?_cons_zero]; rfl)
        case hq22V21 => exact fun _ _ _ h => h
        case hw22V21 => rfl
        try simp only [Act.put, List.setIfInBounds_toArray, List.set_cons_zero, List.set_cons_succ]
        refine wpAnyH_take (i := 20) (oi := ?oi20V21) (v := undef) ?hi20V21 (by kernel_rfl) (by kernel_rfl) (by kernel_rfl) ?hq20V21 (Or.inr ⟨?hw20V21, rfl⟩) (by assumption) ?rest20V21
        case hi20V21 => (simp only [List.getElem?_toArray, List.getElem?_cons_succ, List.getElem?_cons_zero]; rfl)
        case hq20V21 => exact fun _ _ _ h => h
        case hw20V21 => rfl
        try simp only [Act.put, List.setIfInBounds_toArray, List.set_cons_zero, List.set_cons_succ]
        refine wpAnyH_take (i := 23) (oi := ?oi23V21) (v := undef) ?hi23V21 (by kernel_rfl) (by kernel_rfl) (by kernel_rfl) ?hq23V21 (Or.inr ⟨?hw23V21, rfl⟩) (by assumption) ?rest23V21
        case hi23V21 => (simp only [List.getElem?_toArray, List.getElem?_cons_succ, List.getElem?_cons_zero]; rfl)
        case hq23V21 => exact fun _ _ _ h => h
        case hw23V21 => rfl
        try simp only [Act.put, List.setIfInBounds_toArray, List.set_cons_zero, List.set_cons_succ]
        refine wpAnyH_take (i := 24) (oi := ?oi24V21) (v := undef) ?hi24V21 (by kernel_rfl) (by kernel_rfl) (by kernel_rfl) ?hq24V21 (Or.inr ⟨?hw24V21, rfl⟩) (by assumption) ?rest24V21
        case hi24V21 => (simp only [List.getElem?_toArray, List.getElem?_cons_succ, List.getElem?_cons_zero]; rfl)
        case hq24V21 => exact fun _ _ _ h => h
        case hw24V21 => rfl
        try simp only [Act.put, List.setIfInBounds_toArray, List.set_cons_zero, List.set_cons_succ]
        refine wpAnyH_take (i := 25) (oi := ?oi25V21) (v := undef) ?hi25V21 (by kernel_rfl) (by kernel_rfl) (by kernel_rfl) ?hq25V21 (Or.inr ⟨?hw25V21, rfl⟩) (by assumption) ?rest25V21
        case hi25V21 => (simp only [List.getElem?_toArray, List.getElem?_cons_succ, List.getElem?_cons_zero]; rfl)
        case hq25V21 => exact fun _ _ _ h => h
        case hw25V21 => rfl
        try simp only [Act.put, List.setIfInBounds_toArray, List.set_cons_zero, List.set_cons_succ]
        refine wpAnyH_take (i := 26) (oi := ?oi26V21) (v := undef) ?hi26V21 (by kernel_rfl) (by kernel_rfl) (by kernel_rfl) ?hq26V21 (Or.inr ⟨?hw26V21, rfl⟩) (by assumption) ?rest26V21
        case hi26V21 => (simp only [List.getElem?_toArray, List.getElem?_cons_succ, List.getElem?_cons_zero]; rfl)
        case hq26V21 => exact fun _ _ _ h => h
        case hw26V21 => rfl
        try simp only [Act.put, List.setIfInBounds_toArray, List.set_cons_zero, List.set_cons_succ]
        refine wpAnyH_take (i := 27) (oi := ?oi27V21) (v := undef) ?hi27V21 (by kernel_rfl) (by kernel_rfl) (by kernel_rfl) ?hq27V21 (Or.inr ⟨?hw27V21, rfl⟩) (by assumption) ?rest27V21
        case hi27V21 => (simp only [List.getElem?_toArray, List.getElem?_cons_succ, List.getElem?_cons_zero]; rfl)
        case hq27V21 => exact fun _ _ _ h => h
        case hw27V21 => rfl
        try simp only [Act.put, List.setIfInBounds_toArray, List.set_cons_zero, List.set_cons_succ]
        refine wpAnyH_take (i := 28) (oi := ?oi28V21) (v := ?v28V21) ?hi28V21 (by kernel_rfl) (by kernel_rfl) (by kernel_rfl) ?hq28V21 (Or.inl ⟨?hw28V21, ?hy28V21⟩) (by assumption) ?rest28V21
        case hi28V21 => (simp only [List.getElem?_toArray, List.getElem?_cons_succ, List.getElem?_cons_zero]; rfl)
        case hq28V21 => exact fun _ _ _ h => h
        case hw28V21 => rfl
        case hy28V21 => (intro w hSw; (try dsimp only at hSw); go_simp <;> with_reducible rfl)
        try simp only [Act.put, List.setIfInBounds_toArray, List.set_cons_zero, List.set_cons_succ]
        refine wpAnyH_take (i := 29) (oi := ?oi29V21) (v := ?v29V21) ?hi29V21 (by kernel_rfl) (by kernel_rfl) (by kernel_rfl) ?hq29V21 (Or.inl ⟨?hw29V21, ?hy29V21⟩) (by assumption) ?rest29V21
        case hi29V21 => (simp only [List.getElem?_toArray, List.getElem?_cons_succ, List.getElem?_cons_zero]; rfl)
        case hq29V21 => exact fun _ _ _ h => h
        case hw29V21 => rfl
        case hy29V21 => (intro w hSw; (try dsimp only at hSw); go_simp <;> with_reducible rfl)
        try simp only [Act.put, List.setIfInBounds_toArray, List.set_cons_zero, List.set_cons_succ]
        refine wpAnyH_done (by kernel_rfl) ?_ _
        go_wp2
        go_ret
        exact ⟨by simp, hb4⟩
      by_cases h1 : 1 ≤ a2
      case neg =>
        have hq1 : ¬ 1 ≤ a2 := h1
        have hq1d : decide (1 ≤ a2) = false := decide_eq_false h1
        obtain rfl : HO = 0 := by rw [← hHO]; unfold homeN; rw [if_neg (by omega)]
        go_enter Try.func9, Try.ntmps9
        have hSa0 := boxS (c := c) (m := m) (k := k) (o := o) (r := r) (t := t) (n := n) (g := g) (l := l) (A := A0) (cap := cap0) hbxa0
        have hSb0 := boxS (c := c2) (m := m2) (k := k2) (o := o2) (r := r2) (t := t2) (n := n2) (g := g2) (l := l2) (A := A1) (cap := cap1) hbxb0
        go_wp2_with fail
        refine wp_region_held_drew (S := (fun w' => (w'.cell? ⟨w.heap.size, 0, none⟩ = some (.int .i64 c) ∧ w'.cell? ⟨w.heap.size, 1, none⟩ = some (.int .i64 m) ∧ w'.cell? ⟨w.heap.size, 2, none⟩ = some (.int .i64 k) ∧ w'.cell? ⟨w.heap.size, 3, none⟩ = some (.int .i64 o) ∧ w'.cell? ⟨w.heap.size, 4, none⟩ = some (.int .i64 r) ∧ w'.cell? ⟨w.heap.size, 5, none⟩ = some (.int .i64 t) ∧ w'.cell? ⟨w.heap.size, 6, none⟩ = some (.int .i64 n) ∧ w'.cell? ⟨w.heap.size, 7, none⟩ = some (.string ⟨g.toArray⟩) ∧ w'.cell? ⟨w.heap.size, 8, none⟩ = some (.slice A0 l.length cap0)) ∧ (w'.cell? ⟨w.heap.size + 1, 0, none⟩ = some (.int .i64 c2) ∧ w'.cell? ⟨w.heap.size + 1, 1, none⟩ = some (.int .i64 m2) ∧ w'.cell? ⟨w.heap.size + 1, 2, none⟩ = some (.int .i64 k2) ∧ w'.cell? ⟨w.heap.size + 1, 3, none⟩ = some (.int .i64 o2) ∧ w'.cell? ⟨w.heap.size + 1, 4, none⟩ = some (.int .i64 r2) ∧ w'.cell? ⟨w.heap.size + 1, 5, none⟩ = some (.int .i64 t2) ∧ w'.cell? ⟨w.heap.size + 1, 6, none⟩ = some (.int .i64 n2) ∧ w'.cell? ⟨w.heap.size + 1, 7, none⟩ = some (.string ⟨g2.toArray⟩) ∧ w'.cell? ⟨w.heap.size + 1, 8, none⟩ = some (.slice A1 l2.length cap1)))) (by kernel_rfl) ⟨hSa0, hSb0⟩ (fun hHeld => ?_)
        refine wpAnyH_take (i := 0) (oi := ?oi0U22) (v := ?v0U22) ?hi0U22 (by kernel_rfl) (by kernel_rfl) (by kernel_rfl) ?hq0U22 (Or.inl ⟨?hw0U22, ?hy0U22⟩) (by assumption) ?rest0U22
        case hi0U22 => (simp only [List.getElem?_toArray, List.getElem?_cons_succ, List.getElem?_cons_zero]; rfl)
        case hq0U22 => exact fun _ _ _ h => h
        case hw0U22 => rfl
        case hy0U22 => (intro w hSw; (try dsimp only at hSw); go_simp <;> with_reducible rfl)
        try simp only [Act.put, List.setIfInBounds_toArray, List.set_cons_zero, List.set_cons_succ]
        refine wpAnyH_take (i := 2) (oi := ?oi2U22) (v := ?v2U22) ?hi2U22 (by kernel_rfl) (by kernel_rfl) (by kernel_rfl) ?hq2U22 (Or.inl ⟨?hw2U22, ?hy2U22⟩) (by assumption) ?rest2U22
        case hi2U22 => (simp only [List.getElem?_toArray, List.getElem?_cons_succ, List.getElem?_cons_zero]; rfl)
        case hq2U22 => exact fun _ _ _ h => h
        case hw2U22 => rfl
        case hy2U22 => (intro w hSw; (try dsimp only at hSw); go_simp <;> with_reducible rfl)
        try simp only [Act.put, List.setIfInBounds_toArray, List.set_cons_zero, List.set_cons_succ]
        refine wpAnyH_ready (rs := [1]) (by kernel_rfl) (by simp) ?_
        refine AllReadyH.cons (o := ?o1U22) ?hi1U22 (fun K hK => ?st1U22) AllReadyH.nil
        case hi1U22 => (simp only [List.getElem?_toArray, List.getElem?_cons_succ, List.getElem?_cons_zero]; rfl)
        go_simp
        refine (order_any ⟨c, m, k, o, r, t, n, g, l⟩ A0 cap0 _ hila0.drew hn).mono ?_
        rintro e w1 ⟨rfl, hx1⟩
        have hx1 : Below (((w.alloc (.cells (AV.cs ⟨c, m, k, o, r, t, n, g, l⟩ A0 cap0) 53)).alloc (.cells (AV.cs ⟨c2, m2, k2, o2, r2, t2, n2, g2, l2⟩ A1 cap1) 53)).drew).heap.size (((w.alloc (.cells (AV.cs ⟨c, m, k, o, r, t, n, g, l⟩ A0 cap0) 53)).alloc (.cells (AV.cs ⟨c2, m2, k2, o2, r2, t2, n2, g2, l2⟩ A1 cap1) 53)).drew) w1 := hx1
        have hb1 := (Below.drew hb0).trans (hx1.mono (Below.drew hb0).size)
        have hbxa1 := (hbxa0.drew).kept (Keep.of_below hx1) (fun h => absurd hbxa0.lt (Nat.not_lt.2 h))
        have hbxb1 := (hbxb0.drew).kept (Keep.of_below hx1) (fun h => absurd hbxb0.lt (Nat.not_lt.2 h))
        have hila1 := (hila0.drew).below hx1
        have hilb1 := (hilb0.drew).below hx1
        have hSa1 := boxS (c := c) (m := m) (k := k) (o := o) (r := r) (t := t) (n := n) (g := g) (l := l) (A := A0) (cap := cap0) hbxa1
        have hSb1 := boxS (c := c2) (m := m2) (k := k2) (o := o2) (r := r2) (t := t2) (n := n2) (g := g2) (l := l2) (A := A1) (cap := cap1) hbxb1
        rw [hON]
        go_wp2_with fail
        refine hK.out _ _ ⟨hSa1, hSb1⟩ (fun hHeld2 => ?_)
        clear hK K hHeld
        have hHeld := hHeld2
        clear hHeld2
        try simp only [Act.put, List.setIfInBounds_toArray, List.set_cons_zero, List.set_cons_succ]
        refine wpAnyH_ready (rs := [3]) (by kernel_rfl) (by simp) ?_
        refine AllReadyH.cons (o := ?o3U22) ?hi3U22 (fun K hK => ?st3U22) AllReadyH.nil
        case hi3U22 => (simp only [List.getElem?_toArray, List.getElem?_cons_succ, List.getElem?_cons_zero]; rfl)
        go_simp
        refine (order_any ⟨c2, m2, k2, o2, r2, t2, n2, g2, l2⟩ A1 cap1 _ hilb1 hn2).mono ?_
        rintro e w2 ⟨rfl, hx2⟩
        have hx2 : Below (w1).heap.size (w1) w2 := hx2
        have hb2 := hb1.trans (hx2.mono hb1.size)
        have hbxa2 := (hbxa1).kept (Keep.of_below hx2) (fun h => absurd hbxa1.lt (Nat.not_lt.2 h))
        have hbxb2 := (hbxb1).kept (Keep.of_below hx2) (fun h => absurd hbxb1.lt (Nat.not_lt.2 h))
        have hila2 := (hila1).below hx2
        have hilb2 := (hilb1).below hx2
        have hSa2 := boxS (c := c) (m := m) (k := k) (o := o) (r := r) (t := t) (n := n) (g := g) (l := l) (A := A0) (cap := cap0) hbxa2
        have hSb2 := boxS (c := c2) (m := m2) (k := k2) (o := o2) (r := r2) (t := t2) (n := n2) (g := g2) (l := l2) (A := A1) (cap := cap1) hbxb2
        rw [hON2]
        go_wp2_with fail
        refine hK.out _ _ ⟨hSa2, hSb2⟩ (fun hHeld2 => ?_)
        clear hK K hHeld
        have hHeld := hHeld2
        clear hHeld2
        try simp only [Act.put, List.setIfInBounds_toArray, List.set_cons_zero, List.set_cons_succ]
        refine wpAnyH_take (i := 4) (oi := ?oi4U22) (v := ?v4U22) ?hi4U22 (by kernel_rfl) (by kernel_rfl) (by kernel_rfl) ?hq4U22 (Or.inl ⟨?hw4U22, ?hy4U22⟩) (by assumption) ?rest4U22
        case hi4U22 => (simp only [List.getElem?_toArray, List.getElem?_cons_succ, List.getElem?_cons_zero]; rfl)
        case hq4U22 => exact fun _ _ _ h => h
        case hw4U22 => rfl
        case hy4U22 => (intro w hSw; (try dsimp only at hSw); go_simp <;> with_reducible rfl)
        try simp only [Act.put, List.setIfInBounds_toArray, List.set_cons_zero, List.set_cons_succ]
        refine wpAnyH_take (i := 5) (oi := ?oi5U22) (v := ?v5U22) ?hi5U22 (by kernel_rfl) (by kernel_rfl) (by kernel_rfl) ?hq5U22 (Or.inl ⟨?hw5U22, ?hy5U22⟩) (by assumption) ?rest5U22
        case hi5U22 => (simp only [List.getElem?_toArray, List.getElem?_cons_succ, List.getElem?_cons_zero]; rfl)
        case hq5U22 => exact fun _ _ _ h => h
        case hw5U22 => rfl
        case hy5U22 => (intro w hSw; (try dsimp only at hSw); go_simp <;> with_reducible rfl)
        try simp only [Act.put, List.setIfInBounds_toArray, List.set_cons_zero, List.set_cons_succ]
        refine wpAnyH_done (by kernel_rfl) ?_ _
        have key := raskmay_any ⟨c, m, k, o, r, t, n, g, l⟩ A0 cap0 w2 hila2 hwl0 hn hg7
        rw [hm] at key
        unfold AV.v at key
        dsimp only at key
        go_wp2_with fail
        refine key.mono ?_
        rintro e w3 ⟨rfl, hx3⟩
        clear key
        have hb3 := hb2.trans (hx3.mono hb2.size)
        have hbxa3 := hbxa2.kept (Keep.of_below hx3) (fun h => absurd hbxa2.lt (Nat.not_lt.2 h))
        have hbxb3 := hbxb2.kept (Keep.of_below hx3) (fun h => absurd hbxb2.lt (Nat.not_lt.2 h))
        have hila3 := hila2.below hx3
        have hilb3 := hilb2.below hx3
        clear hbxa2 hbxb2 hila2 hilb2 hSa2 hSb2
        have hSa3 := boxS (c := c) (m := m) (k := k) (o := o) (r := r) (t := t) (n := n) (g := g) (l := l) (A := A0) (cap := cap0) hbxa3
        have hSb3 := boxS (c := c2) (m := m2) (k := k2) (o := o2) (r := r2) (t := t2) (n := n2) (g := g2) (l := l2) (A := A1) (cap := cap1) hbxb3
        go_wp2_with fail
        refine wp_region_held_drew (S := (fun w' => (w'.cell? ⟨w.heap.size, 0, none⟩ = some (.int .i64 c) ∧ w'.cell? ⟨w.heap.size, 1, none⟩ = some (.int .i64 m) ∧ w'.cell? ⟨w.heap.size, 2, none⟩ = some (.int .i64 k) ∧ w'.cell? ⟨w.heap.size, 3, none⟩ = some (.int .i64 o) ∧ w'.cell? ⟨w.heap.size, 4, none⟩ = some (.int .i64 r) ∧ w'.cell? ⟨w.heap.size, 5, none⟩ = some (.int .i64 t) ∧ w'.cell? ⟨w.heap.size, 6, none⟩ = some (.int .i64 n) ∧ w'.cell? ⟨w.heap.size, 7, none⟩ = some (.string ⟨g.toArray⟩) ∧ w'.cell? ⟨w.heap.size, 8, none⟩ = some (.slice A0 l.length cap0)) ∧ (w'.cell? ⟨w.heap.size + 1, 0, none⟩ = some (.int .i64 c2) ∧ w'.cell? ⟨w.heap.size + 1, 1, none⟩ = some (.int .i64 m2) ∧ w'.cell? ⟨w.heap.size + 1, 2, none⟩ = some (.int .i64 k2) ∧ w'.cell? ⟨w.heap.size + 1, 3, none⟩ = some (.int .i64 o2) ∧ w'.cell? ⟨w.heap.size + 1, 4, none⟩ = some (.int .i64 r2) ∧ w'.cell? ⟨w.heap.size + 1, 5, none⟩ = some (.int .i64 t2) ∧ w'.cell? ⟨w.heap.size + 1, 6, none⟩ = some (.int .i64 n2) ∧ w'.cell? ⟨w.heap.size + 1, 7, none⟩ = some (.string ⟨g2.toArray⟩) ∧ w'.cell? ⟨w.heap.size + 1, 8, none⟩ = some (.slice A1 l2.length cap1)))) (by kernel_rfl) ⟨hSa3, hSb3⟩ (fun hHeld => ?_)
        refine wpAnyH_ready (rs := [0]) (by kernel_rfl) (by simp) ?_
        refine AllReadyH.cons (o := ?o0V22) ?hi0V22 (fun K hK => ?st0V22) AllReadyH.nil
        case hi0V22 => (simp only [List.getElem?_toArray, List.getElem?_cons_succ, List.getElem?_cons_zero]; rfl)
        go_simp
        refine (alives_any _).mono ?_
        rintro e w4 ⟨rfl, hx4⟩
        have hx4 : Below (w3.drew).heap.size (w3.drew) w4 := hx4
        have hb4 := (Below.drew hb3).trans (hx4.mono (Below.drew hb3).size)
        have hbxa4 := (hbxa3.drew).kept (Keep.of_below hx4) (fun h => absurd hbxa3.lt (Nat.not_lt.2 h))
        have hbxb4 := (hbxb3.drew).kept (Keep.of_below hx4) (fun h => absurd hbxb3.lt (Nat.not_lt.2 h))
        have hila4 := (hila3.drew).below hx4
        have hilb4 := (hilb3.drew).below hx4
        have hSa4 := boxS (c := c) (m := m) (k := k) (o := o) (r := r) (t := t) (n := n) (g := g) (l := l) (A := A0) (cap := cap0) hbxa4
        have hSb4 := boxS (c := c2) (m := m2) (k := k2) (o := o2) (r := r2) (t := t2) (n := n2) (g := g2) (l := l2) (A := A1) (cap := cap1) hbxb4
        go_wp2_with fail
        refine hK.out _ _ ⟨hSa4, hSb4⟩ (fun hHeld2 => ?_)
        clear hK K hHeld
        have hHeld := hHeld2
        clear hHeld2
        try simp only [Act.put, List.setIfInBounds_toArray, List.set_cons_zero, List.set_cons_succ]
        refine wpAnyH_take (i := 1) (oi := ?oi1V22) (v := ?v1V22) ?hi1V22 (by kernel_rfl) (by kernel_rfl) (by kernel_rfl) ?hq1V22 (Or.inl ⟨?hw1V22, ?hy1V22⟩) (by assumption) ?rest1V22
        case hi1V22 => (simp only [List.getElem?_toArray, List.getElem?_cons_succ, List.getElem?_cons_zero]; rfl)
        case hq1V22 => exact fun _ _ _ h => h
        case hw1V22 => rfl
        case hy1V22 => (intro w hSw; (try dsimp only at hSw); go_simp <;> with_reducible rfl)
        try simp only [Act.put, List.setIfInBounds_toArray, List.set_cons_zero, List.set_cons_succ]
        refine wpAnyH_take (i := 2) (oi := ?oi2V22) (v := ?v2V22) ?hi2V22 (by kernel_rfl) (by kernel_rfl) (by kernel_rfl) ?hq2V22 (Or.inl ⟨?hw2V22, ?hy2V22⟩) (by assumption) ?rest2V22
        case hi2V22 => (simp only [List.getElem?_toArray, List.getElem?_cons_succ, List.getElem?_cons_zero]; rfl)
        case hq2V22 => exact fun _ _ _ h => h
        case hw2V22 => rfl
        case hy2V22 => (intro w hSw; (try dsimp only at hSw); go_simp <;> with_reducible rfl)
        try simp only [Act.put, List.setIfInBounds_toArray, List.set_cons_zero, List.set_cons_succ]
        refine wpAnyH_take (i := 3) (oi := ?oi3V22) (v := ?v3V22) ?hi3V22 (by kernel_rfl) (by kernel_rfl) (by kernel_rfl) ?hq3V22 (Or.inl ⟨?hw3V22, ?hy3V22⟩) (by assumption) ?rest3V22
        case hi3V22 => (simp only [List.getElem?_toArray, List.getElem?_cons_succ, List.getElem?_cons_zero]; rfl)
        case hq3V22 => exact fun _ _ _ h => h
        case hw3V22 => rfl
        case hy3V22 => (intro w hSw; (try dsimp only at hSw); go_simp <;> with_reducible rfl)
        try simp only [Act.put, List.setIfInBounds_toArray, List.set_cons_zero, List.set_cons_succ]
        refine wpAnyH_take (i := 4) (oi := ?oi4V22) (v := ?v4V22) ?hi4V22 (by kernel_rfl) (by kernel_rfl) (by kernel_rfl) ?hq4V22 (Or.inl ⟨?hw4V22, ?hy4V22⟩) (by assumption) ?rest4V22
        case hi4V22 => (simp only [List.getElem?_toArray, List.getElem?_cons_succ, List.getElem?_cons_zero]; rfl)
        case hq4V22 => exact fun _ _ _ h => h
        case hw4V22 => rfl
        case hy4V22 => (intro w hSw; (try dsimp only at hSw); go_simp <;> with_reducible rfl)
        try simp only [Act.put, List.setIfInBounds_toArray, List.set_cons_zero, List.set_cons_succ]
        refine wpAnyH_take (i := 5) (oi := ?oi5V22) (v := ?v5V22) ?hi5V22 (by kernel_rfl) (by kernel_rfl) (by kernel_rfl) ?hq5V22 (Or.inl ⟨?hw5V22, ?hy5V22⟩) (by assumption) ?rest5V22
        case hi5V22 => (simp only [List.getElem?_toArray, List.getElem?_cons_succ, List.getElem?_cons_zero]; rfl)
        case hq5V22 => exact fun _ _ _ h => h
        case hw5V22 => rfl
        case hy5V22 => (intro w hSw; (try dsimp only at hSw); go_simp <;> with_reducible rfl)
        try simp only [Act.put, List.setIfInBounds_toArray, List.set_cons_zero, List.set_cons_succ]
        refine wpAnyH_take (i := 6) (oi := ?oi6V22) (v := ?v6V22) ?hi6V22 (by kernel_rfl) (by kernel_rfl) (by kernel_rfl) ?hq6V22 (Or.inl ⟨?hw6V22, ?hy6V22⟩) (by assumption) ?rest6V22
        case hi6V22 => (simp only [List.getElem?_toArray, List.getElem?_cons_succ, List.getElem?_cons_zero]; rfl)
        case hq6V22 => exact fun _ _ _ h => h
        case hw6V22 => rfl
        case hy6V22 => (intro w hSw; (try dsimp only at hSw); go_simp <;> with_reducible rfl)
        try simp only [Act.put, List.setIfInBounds_toArray, List.set_cons_zero, List.set_cons_succ]
        refine wpAnyH_take (i := 7) (oi := ?oi7V22) (v := ?v7V22) ?hi7V22 (by kernel_rfl) (by kernel_rfl) (by kernel_rfl) ?hq7V22 (Or.inl ⟨?hw7V22, ?hy7V22⟩) (by assumption) ?rest7V22
        case hi7V22 => (simp only [List.getElem?_toArray, List.getElem?_cons_succ, List.getElem?_cons_zero]; rfl)
        case hq7V22 => exact fun _ _ _ h => h
        case hw7V22 => rfl
        case hy7V22 => (intro w hSw; (try dsimp only at hSw); go_simp <;> with_reducible rfl)
        try simp only [Act.put, List.setIfInBounds_toArray, List.set_cons_zero, List.set_cons_succ]
        refine wpAnyH_take (i := 8) (oi := ?oi8V22) (v := ?v8V22) ?hi8V22 (by kernel_rfl) (by kernel_rfl) (by kernel_rfl) ?hq8V22 (Or.inl ⟨?hw8V22, ?hy8V22⟩) (by assumption) ?rest8V22
        case hi8V22 => (simp only [List.getElem?_toArray, List.getElem?_cons_succ, List.getElem?_cons_zero]; rfl)
        case hq8V22 => exact fun _ _ _ h => h
        case hw8V22 => rfl
        case hy8V22 => (intro w hSw; (try dsimp only at hSw); go_simp <;> with_reducible rfl)
        try simp only [Act.put, List.setIfInBounds_toArray, List.set_cons_zero, List.set_cons_succ]
        refine wpAnyH_take (i := 9) (oi := ?oi9V22) (v := ?v9V22) ?hi9V22 (by kernel_rfl) (by kernel_rfl) (by kernel_rfl) ?hq9V22 (Or.inl ⟨?hw9V22, ?hy9V22⟩) (by assumption) ?rest9V22
        case hi9V22 => (simp only [List.getElem?_toArray, List.getElem?_cons_succ, List.getElem?_cons_zero]; rfl)
        case hq9V22 => exact fun _ _ _ h => h
        case hw9V22 => rfl
        case hy9V22 => (intro w hSw; (try dsimp only at hSw); go_simp <;> with_reducible rfl)
        try simp only [Act.put, List.setIfInBounds_toArray, List.set_cons_zero, List.set_cons_succ]
        refine wpAnyH_take (i := 10) (oi := ?oi10V22) (v := ?v10V22) ?hi10V22 (by kernel_rfl) (by kernel_rfl) (by kernel_rfl) ?hq10V22 (Or.inl ⟨?hw10V22, ?hy10V22⟩) (by assumption) ?rest10V22
        case hi10V22 => (simp only [List.getElem?_toArray, List.getElem?_cons_succ, List.getElem?_cons_zero]; rfl)
        case hq10V22 => exact fun _ _ _ h => h
        case hw10V22 => rfl
        case hy10V22 => (intro w hSw; (try dsimp only at hSw); go_simp <;> with_reducible rfl)
        try simp only [Act.put, List.setIfInBounds_toArray, List.set_cons_zero, List.set_cons_succ]
        refine wpAnyH_take (i := 12) (oi := ?oi12V22) (v := ?v12V22) ?hi12V22 (by kernel_rfl) (by kernel_rfl) (by kernel_rfl) ?hq12V22 (Or.inl ⟨?hw12V22, ?hy12V22⟩) (by assumption) ?rest12V22
        case hi12V22 => (simp only [List.getElem?_toArray, List.getElem?_cons_succ, List.getElem?_cons_zero]; rfl)
        case hq12V22 => exact fun _ _ _ h => h
        case hw12V22 => rfl
        case hy12V22 => (intro w hSw; (try dsimp only at hSw); go_simp <;> with_reducible rfl)
        try simp only [Act.put, List.setIfInBounds_toArray, List.set_cons_zero, List.set_cons_succ]
        refine wpAnyH_ready (rs := [11]) (by kernel_rfl) (by simp) ?_
        refine AllReadyH.cons (o := ?o11V22) ?hi11V22 (fun K hK => ?st11V22) AllReadyH.nil
        case hi11V22 => (simp only [List.getElem?_toArray, List.getElem?_cons_succ, List.getElem?_cons_zero]; rfl)
        go_simp
        refine (home_any c a2 _ hr2).mono ?_
        rintro e w' ⟨rfl, hww⟩
        subst w'
        rw [hHO]
        go_wp2_with fail
        refine hK.out _ _ ⟨hSa4, hSb4⟩ (fun hHeld2 => ?_)
        clear hK K hHeld
        have hHeld := hHeld2
        clear hHeld2
        try simp only [Act.put, List.setIfInBounds_toArray, List.set_cons_zero, List.set_cons_succ]
        refine wpAnyH_take (i := 13) (oi := ?oi13V22) (v := ?v13V22) ?hi13V22 (by kernel_rfl) (by kernel_rfl) (by kernel_rfl) ?hq13V22 (Or.inl ⟨?hw13V22, ?hy13V22⟩) (by assumption) ?rest13V22
        case hi13V22 => (simp only [List.getElem?_toArray, List.getElem?_cons_succ, List.getElem?_cons_zero]; rfl)
        case hq13V22 => exact fun _ _ _ h => h
        case hw13V22 => rfl
        case hy13V22 => (intro w hSw; (try dsimp only at hSw); go_simp <;> with_reducible rfl)
        try simp only [Act.put, List.setIfInBounds_toArray, List.set_cons_zero, List.set_cons_succ]
        refine wpAnyH_take (i := 14) (oi := ?oi14V22) (v := ?v14V22) ?hi14V22 (by kernel_rfl) (by kernel_rfl) (by kernel_rfl) ?hq14V22 (Or.inl ⟨?hw14V22, ?hy14V22⟩) (by assumption) ?rest14V22
        case hi14V22 => (simp only [List.getElem?_toArray, List.getElem?_cons_succ, List.getElem?_cons_zero]; rfl)
        case hq14V22 => exact fun _ _ _ h => h
        case hw14V22 => rfl
        case hy14V22 => (intro w hSw; (try dsimp only at hSw); go_simp <;> with_reducible rfl)
        try simp only [Act.put, List.setIfInBounds_toArray, List.set_cons_zero, List.set_cons_succ]
        refine wpAnyH_take (i := 15) (oi := ?oi15V22) (v := ?v15V22) ?hi15V22 (by kernel_rfl) (by kernel_rfl) (by kernel_rfl) ?hq15V22 (Or.inl ⟨?hw15V22, ?hy15V22⟩) (by assumption) ?rest15V22
        case hi15V22 => (simp only [List.getElem?_toArray, List.getElem?_cons_succ, List.getElem?_cons_zero]; rfl)
        case hq15V22 => exact fun _ _ _ h => h
        case hw15V22 => rfl
        case hy15V22 => (intro w hSw; (try dsimp only at hSw); go_simp <;> with_reducible rfl)
        try simp only [Act.put, List.setIfInBounds_toArray, List.set_cons_zero, List.set_cons_succ]
        refine wpAnyH_take (i := 16) (oi := ?oi16V22) (v := ?v16V22) ?hi16V22 (by kernel_rfl) (by kernel_rfl) (by kernel_rfl) ?hq16V22 (Or.inl ⟨?hw16V22, ?hy16V22⟩) (by assumption) ?rest16V22
        case hi16V22 => (simp only [List.getElem?_toArray, List.getElem?_cons_succ, List.getElem?_cons_zero]; rfl)
        case hq16V22 => exact fun _ _ _ h => h
        case hw16V22 => rfl
        case hy16V22 => (intro w hSw; (try dsimp only at hSw); go_simp <;> with_reducible rfl)
        try simp only [Act.put, List.setIfInBounds_toArray, List.set_cons_zero, List.set_cons_succ]
        refine wpAnyH_take (i := 17) (oi := ?oi17V22) (v := ?v17V22) ?hi17V22 (by kernel_rfl) (by kernel_rfl) (by kernel_rfl) ?hq17V22 (Or.inl ⟨?hw17V22, ?hy17V22⟩) (by assumption) ?rest17V22
        case hi17V22 => (simp only [List.getElem?_toArray, List.getElem?_cons_succ, List.getElem?_cons_zero]; rfl)
        case hq17V22 => exact fun _ _ _ h => h
        case hw17V22 => rfl
        case hy17V22 => (intro w hSw; (try dsimp only at hSw); go_simp <;> with_reducible rfl)
        try simp only [Act.put, List.setIfInBounds_toArray, List.set_cons_zero, List.set_cons_succ]
        refine wpAnyH_take (i := 18) (oi := ?oi18V22) (v := ?v18V22) ?hi18V22 (by kernel_rfl) (by kernel_rfl) (by kernel_rfl) ?hq18V22 (Or.inl ⟨?hw18V22, ?hy18V22⟩) (by assumption) ?rest18V22
        case hi18V22 => (simp only [List.getElem?_toArray, List.getElem?_cons_succ, List.getElem?_cons_zero]; rfl)
        case hq18V22 => exact fun _ _ _ h => h
        case hw18V22 => rfl
        case hy18V22 => (intro w hSw; (try dsimp only at hSw); go_simp <;> with_reducible rfl)
        try simp only [Act.put, List.setIfInBounds_toArray, List.set_cons_zero, List.set_cons_succ]
        refine wpAnyH_take (i := 19) (oi := ?oi19V22) (v := undef) ?hi19V22 (by kernel_rfl) (by kernel_rfl) (by kernel_rfl) ?hq19V22 (Or.inr ⟨?hw19V22, rfl⟩) (by assumption) ?rest19V22
        case hi19V22 => (simp only [List.getElem?_toArray, List.getElem?_cons_succ, List.getElem?_cons_zero]; rfl)
        case hq19V22 => exact fun _ _ _ h => h
        case hw19V22 => rfl
        try simp only [Act.put, List.setIfInBounds_toArray, List.set_cons_zero, List.set_cons_succ]
        refine wpAnyH_take (i := 21) (oi := ?oi21V22) (v := undef) ?hi21V22 (by kernel_rfl) (by kernel_rfl) (by kernel_rfl) ?hq21V22 (Or.inr ⟨?hw21V22, rfl⟩) (by assumption) ?rest21V22
        case hi21V22 => (simp only [List.getElem?_toArray, List.getElem?_cons_succ, List.getElem?_cons_zero]; rfl)
        case hq21V22 => exact fun _ _ _ h => h
        case hw21V22 => rfl
        try simp only [Act.put, List.setIfInBounds_toArray, List.set_cons_zero, List.set_cons_succ]
        refine wpAnyH_take (i := 22) (oi := ?oi22V22) (v := undef) ?hi22V22 (by kernel_rfl) (by kernel_rfl) (by kernel_rfl) ?hq22V22 (Or.inr ⟨?hw22V22, rfl⟩) (by assumption) ?rest22V22
        case hi22V22 => (simp only [List.getElem?_toArray, List.getElem?_cons_succ, List.getElem?_cons_zero]; rfl)
        case hq22V22 => exact fun _ _ _ h => h
        case hw22V22 => rfl
        try simp only [Act.put, List.setIfInBounds_toArray, List.set_cons_zero, List.set_cons_succ]
        refine wpAnyH_take (i := 20) (oi := ?oi20V22) (v := undef) ?hi20V22 (by kernel_rfl) (by kernel_rfl) (by kernel_rfl) ?hq20V22 (Or.inr ⟨?hw20V22, rfl⟩) (by assumption) ?rest20V22
        case hi20V22 => (simp only [List.getElem?_toArray, List.getElem?_cons_succ, List.getElem?_cons_zero]; rfl)
        case hq20V22 => exact fun _ _ _ h => h
        case hw20V22 => rfl
        try simp only [Act.put, List.setIfInBounds_toArray, List.set_cons_zero, List.set_cons_succ]
        refine wpAnyH_take (i := 23) (oi := ?oi23V22) (v := undef) ?hi23V22 (by kernel_rfl) (by kernel_rfl) (by kernel_rfl) ?hq23V22 (Or.inr ⟨?hw23V22, rfl⟩) (by assumption) ?rest23V22
        case hi23V22 => (simp only [List.getElem?_toArray, List.getElem?_cons_succ, List.getElem?_cons_zero]; rfl)
        case hq23V22 => exact fun _ _ _ h => h
        case hw23V22 => rfl
        try simp only [Act.put, List.setIfInBounds_toArray, List.set_cons_zero, List.set_cons_succ]
        refine wpAnyH_take (i := 24) (oi := ?oi24V22) (v := undef) ?hi24V22 (by kernel_rfl) (by kernel_rfl) (by kernel_rfl) ?hq24V22 (Or.inr ⟨?hw24V22, rfl⟩) (by assumption) ?rest24V22
        case hi24V22 => (simp only [List.getElem?_toArray, List.getElem?_cons_succ, List.getElem?_cons_zero]; rfl)
        case hq24V22 => exact fun _ _ _ h => h
        case hw24V22 => rfl
        try simp only [Act.put, List.setIfInBounds_toArray, List.set_cons_zero, List.set_cons_succ]
        refine wpAnyH_take (i := 25) (oi := ?oi25V22) (v := undef) ?hi25V22 (by kernel_rfl) (by kernel_rfl) (by kernel_rfl) ?hq25V22 (Or.inr ⟨?hw25V22, rfl⟩) (by assumption) ?rest25V22
        case hi25V22 => (simp only [List.getElem?_toArray, List.getElem?_cons_succ, List.getElem?_cons_zero]; rfl)
        case hq25V22 => exact fun _ _ _ h => h
        case hw25V22 => rfl
        try simp only [Act.put, List.setIfInBounds_toArray, List.set_cons_zero, List.set_cons_succ]
        refine wpAnyH_take (i := 26) (oi := ?oi26V22) (v := undef) ?hi26V22 (by kernel_rfl) (by kernel_rfl) (by kernel_rfl) ?hq26V22 (Or.inr ⟨?hw26V22, rfl⟩) (by assumption) ?rest26V22
        case hi26V22 => (simp only [List.getElem?_toArray, List.getElem?_cons_succ, List.getElem?_cons_zero]; rfl)
        case hq26V22 => exact fun _ _ _ h => h
        case hw26V22 => rfl
        try simp only [Act.put, List.setIfInBounds_toArray, List.set_cons_zero, List.set_cons_succ]
        refine wpAnyH_take (i := 27) (oi := ?oi27V22) (v := undef) ?hi27V22 (by kernel_rfl) (by kernel_rfl) (by kernel_rfl) ?hq27V22 (Or.inr ⟨?hw27V22, rfl⟩) (by assumption) ?rest27V22
        case hi27V22 => (simp only [List.getElem?_toArray, List.getElem?_cons_succ, List.getElem?_cons_zero]; rfl)
        case hq27V22 => exact fun _ _ _ h => h
        case hw27V22 => rfl
        try simp only [Act.put, List.setIfInBounds_toArray, List.set_cons_zero, List.set_cons_succ]
        refine wpAnyH_take (i := 28) (oi := ?oi28V22) (v := ?v28V22) ?hi28V22 (by kernel_rfl) (by kernel_rfl) (by kernel_rfl) ?hq28V22 (Or.inl ⟨?hw28V22, ?hy28V22⟩) (by assumption) ?rest28V22
        case hi28V22 => (simp only [List.getElem?_toArray, List.getElem?_cons_succ, List.getElem?_cons_zero]; rfl)
        case hq28V22 => exact fun _ _ _ h => h
        case hw28V22 => rfl
        case hy28V22 => (intro w hSw; (try dsimp only at hSw); go_simp <;> with_reducible rfl)
        try simp only [Act.put, List.setIfInBounds_toArray, List.set_cons_zero, List.set_cons_succ]
        refine wpAnyH_take (i := 29) (oi := ?oi29V22) (v := ?v29V22) ?hi29V22 (by kernel_rfl) (by kernel_rfl) (by kernel_rfl) ?hq29V22 (Or.inl ⟨?hw29V22, ?hy29V22⟩) (by assumption) ?rest29V22
        case hi29V22 => (simp only [List.getElem?_toArray, List.getElem?_cons_succ, List.getElem?_cons_zero]; rfl)
        case hq29V22 => exact fun _ _ _ h => h
        case hw29V22 => rfl
        case hy29V22 => (intro w hSw; (try dsimp only at hSw); go_simp <;> with_reducible rfl)
        try simp only [Act.put, List.setIfInBounds_toArray, List.set_cons_zero, List.set_cons_succ]
        refine wpAnyH_done (by kernel_rfl) ?_ _
        go_wp2
        go_ret
        exact ⟨by simp, hb4⟩
      have hr0 : (a2 == 0) = false := beq_eq_false_iff_ne.2 (by omega)
      have hr1 : ¬ a2 = 0 := by omega
      have hrem : wrap64 (Int.tmod c a2) = HO := by
        rw [← hHO]
        unfold homeN
        rw [if_pos (by omega), Int.tmod_eq_emod_of_nonneg h0]
        have hb1 := Int.emod_nonneg c (show a2 ≠ 0 by omega)
        have hb2 := Int.emod_lt_of_pos c (show 0 < a2 by omega)
        unfold wrap64
        omega
      have hrem2 : c % a2 = HO := by rw [← hHO]; unfold homeN; rw [if_pos (by omega)]
      go_enter Try.func9, Try.ntmps9
      have hSa0 := boxS (c := c) (m := m) (k := k) (o := o) (r := r) (t := t) (n := n) (g := g) (l := l) (A := A0) (cap := cap0) hbxa0
      have hSb0 := boxS (c := c2) (m := m2) (k := k2) (o := o2) (r := r2) (t := t2) (n := n2) (g := g2) (l := l2) (A := A1) (cap := cap1) hbxb0
      go_wp2_with fail
      refine wp_region_held_drew (S := (fun w' => (w'.cell? ⟨w.heap.size, 0, none⟩ = some (.int .i64 c) ∧ w'.cell? ⟨w.heap.size, 1, none⟩ = some (.int .i64 m) ∧ w'.cell? ⟨w.heap.size, 2, none⟩ = some (.int .i64 k) ∧ w'.cell? ⟨w.heap.size, 3, none⟩ = some (.int .i64 o) ∧ w'.cell? ⟨w.heap.size, 4, none⟩ = some (.int .i64 r) ∧ w'.cell? ⟨w.heap.size, 5, none⟩ = some (.int .i64 t) ∧ w'.cell? ⟨w.heap.size, 6, none⟩ = some (.int .i64 n) ∧ w'.cell? ⟨w.heap.size, 7, none⟩ = some (.string ⟨g.toArray⟩) ∧ w'.cell? ⟨w.heap.size, 8, none⟩ = some (.slice A0 l.length cap0)) ∧ (w'.cell? ⟨w.heap.size + 1, 0, none⟩ = some (.int .i64 c2) ∧ w'.cell? ⟨w.heap.size + 1, 1, none⟩ = some (.int .i64 m2) ∧ w'.cell? ⟨w.heap.size + 1, 2, none⟩ = some (.int .i64 k2) ∧ w'.cell? ⟨w.heap.size + 1, 3, none⟩ = some (.int .i64 o2) ∧ w'.cell? ⟨w.heap.size + 1, 4, none⟩ = some (.int .i64 r2) ∧ w'.cell? ⟨w.heap.size + 1, 5, none⟩ = some (.int .i64 t2) ∧ w'.cell? ⟨w.heap.size + 1, 6, none⟩ = some (.int .i64 n2) ∧ w'.cell? ⟨w.heap.size + 1, 7, none⟩ = some (.string ⟨g2.toArray⟩) ∧ w'.cell? ⟨w.heap.size + 1, 8, none⟩ = some (.slice A1 l2.length cap1)))) (by kernel_rfl) ⟨hSa0, hSb0⟩ (fun hHeld => ?_)
      refine wpAnyH_take (i := 0) (oi := ?oi0U23) (v := ?v0U23) ?hi0U23 (by kernel_rfl) (by kernel_rfl) (by kernel_rfl) ?hq0U23 (Or.inl ⟨?hw0U23, ?hy0U23⟩) (by assumption) ?rest0U23
      case hi0U23 => (simp only [List.getElem?_toArray, List.getElem?_cons_succ, List.getElem?_cons_zero]; rfl)
      case hq0U23 => exact fun _ _ _ h => h
      case hw0U23 => rfl
      case hy0U23 => (intro w hSw; (try dsimp only at hSw); go_simp <;> with_reducible rfl)
      try simp only [Act.put, List.setIfInBounds_toArray, List.set_cons_zero, List.set_cons_succ]
      refine wpAnyH_take (i := 2) (oi := ?oi2U23) (v := ?v2U23) ?hi2U23 (by kernel_rfl) (by kernel_rfl) (by kernel_rfl) ?hq2U23 (Or.inl ⟨?hw2U23, ?hy2U23⟩) (by assumption) ?rest2U23
      case hi2U23 => (simp only [List.getElem?_toArray, List.getElem?_cons_succ, List.getElem?_cons_zero]; rfl)
      case hq2U23 => exact fun _ _ _ h => h
      case hw2U23 => rfl
      case hy2U23 => (intro w hSw; (try dsimp only at hSw); go_simp <;> with_reducible rfl)
      try simp only [Act.put, List.setIfInBounds_toArray, List.set_cons_zero, List.set_cons_succ]
      refine wpAnyH_ready (rs := [1]) (by kernel_rfl) (by simp) ?_
      refine AllReadyH.cons (o := ?o1U23) ?hi1U23 (fun K hK => ?st1U23) AllReadyH.nil
      case hi1U23 => (simp only [List.getElem?_toArray, List.getElem?_cons_succ, List.getElem?_cons_zero]; rfl)
      go_simp
      refine (order_any ⟨c, m, k, o, r, t, n, g, l⟩ A0 cap0 _ hila0.drew hn).mono ?_
      rintro e w1 ⟨rfl, hx1⟩
      have hx1 : Below (((w.alloc (.cells (AV.cs ⟨c, m, k, o, r, t, n, g, l⟩ A0 cap0) 53)).alloc (.cells (AV.cs ⟨c2, m2, k2, o2, r2, t2, n2, g2, l2⟩ A1 cap1) 53)).drew).heap.size (((w.alloc (.cells (AV.cs ⟨c, m, k, o, r, t, n, g, l⟩ A0 cap0) 53)).alloc (.cells (AV.cs ⟨c2, m2, k2, o2, r2, t2, n2, g2, l2⟩ A1 cap1) 53)).drew) w1 := hx1
      have hb1 := (Below.drew hb0).trans (hx1.mono (Below.drew hb0).size)
      have hbxa1 := (hbxa0.drew).kept (Keep.of_below hx1) (fun h => absurd hbxa0.lt (Nat.not_lt.2 h))
      have hbxb1 := (hbxb0.drew).kept (Keep.of_below hx1) (fun h => absurd hbxb0.lt (Nat.not_lt.2 h))
      have hila1 := (hila0.drew).below hx1
      have hilb1 := (hilb0.drew).below hx1
      have hSa1 := boxS (c := c) (m := m) (k := k) (o := o) (r := r) (t := t) (n := n) (g := g) (l := l) (A := A0) (cap := cap0) hbxa1
      have hSb1 := boxS (c := c2) (m := m2) (k := k2) (o := o2) (r := r2) (t := t2) (n := n2) (g := g2) (l := l2) (A := A1) (cap := cap1) hbxb1
      rw [hON]
      go_wp2_with fail
      refine hK.out _ _ ⟨hSa1, hSb1⟩ (fun hHeld2 => ?_)
      clear hK K hHeld
      have hHeld := hHeld2
      clear hHeld2
      try simp only [Act.put, List.setIfInBounds_toArray, List.set_cons_zero, List.set_cons_succ]
      refine wpAnyH_ready (rs := [3]) (by kernel_rfl) (by simp) ?_
      refine AllReadyH.cons (o := ?o3U23) ?hi3U23 (fun K hK => ?st3U23) AllReadyH.nil
      case hi3U23 => (simp only [List.getElem?_toArray, List.getElem?_cons_succ, List.getElem?_cons_zero]; rfl)
      go_simp
      refine (order_any ⟨c2, m2, k2, o2, r2, t2, n2, g2, l2⟩ A1 cap1 _ hilb1 hn2).mono ?_
      rintro e w2 ⟨rfl, hx2⟩
      have hx2 : Below (w1).heap.size (w1) w2 := hx2
      have hb2 := hb1.trans (hx2.mono hb1.size)
      have hbxa2 := (hbxa1).kept (Keep.of_below hx2) (fun h => absurd hbxa1.lt (Nat.not_lt.2 h))
      have hbxb2 := (hbxb1).kept (Keep.of_below hx2) (fun h => absurd hbxb1.lt (Nat.not_lt.2 h))
      have hila2 := (hila1).below hx2
      have hilb2 := (hilb1).below hx2
      have hSa2 := boxS (c := c) (m := m) (k := k) (o := o) (r := r) (t := t) (n := n) (g := g) (l := l) (A := A0) (cap := cap0) hbxa2
      have hSb2 := boxS (c := c2) (m := m2) (k := k2) (o := o2) (r := r2) (t := t2) (n := n2) (g := g2) (l := l2) (A := A1) (cap := cap1) hbxb2
      rw [hON2]
      go_wp2_with fail
      refine hK.out _ _ ⟨hSa2, hSb2⟩ (fun hHeld2 => ?_)
      clear hK K hHeld
      have hHeld := hHeld2
      clear hHeld2
      try simp only [Act.put, List.setIfInBounds_toArray, List.set_cons_zero, List.set_cons_succ]
      refine wpAnyH_take (i := 4) (oi := ?oi4U23) (v := ?v4U23) ?hi4U23 (by kernel_rfl) (by kernel_rfl) (by kernel_rfl) ?hq4U23 (Or.inl ⟨?hw4U23, ?hy4U23⟩) (by assumption) ?rest4U23
      case hi4U23 => (simp only [List.getElem?_toArray, List.getElem?_cons_succ, List.getElem?_cons_zero]; rfl)
      case hq4U23 => exact fun _ _ _ h => h
      case hw4U23 => rfl
      case hy4U23 => (intro w hSw; (try dsimp only at hSw); go_simp <;> with_reducible rfl)
      try simp only [Act.put, List.setIfInBounds_toArray, List.set_cons_zero, List.set_cons_succ]
      refine wpAnyH_take (i := 5) (oi := ?oi5U23) (v := ?v5U23) ?hi5U23 (by kernel_rfl) (by kernel_rfl) (by kernel_rfl) ?hq5U23 (Or.inl ⟨?hw5U23, ?hy5U23⟩) (by assumption) ?rest5U23
      case hi5U23 => (simp only [List.getElem?_toArray, List.getElem?_cons_succ, List.getElem?_cons_zero]; rfl)
      case hq5U23 => exact fun _ _ _ h => h
      case hw5U23 => rfl
      case hy5U23 => (intro w hSw; (try dsimp only at hSw); go_simp <;> with_reducible rfl)
      try simp only [Act.put, List.setIfInBounds_toArray, List.set_cons_zero, List.set_cons_succ]
      refine wpAnyH_done (by kernel_rfl) ?_ _
      have key := raskmay_any ⟨c, m, k, o, r, t, n, g, l⟩ A0 cap0 w2 hila2 hwl0 hn hg7
      rw [hm] at key
      unfold AV.v at key
      dsimp only at key
      go_wp2_with fail
      refine key.mono ?_
      rintro e w3 ⟨rfl, hx3⟩
      clear key
      have hb3 := hb2.trans (hx3.mono hb2.size)
      have hbxa3 := hbxa2.kept (Keep.of_below hx3) (fun h => absurd hbxa2.lt (Nat.not_lt.2 h))
      have hbxb3 := hbxb2.kept (Keep.of_below hx3) (fun h => absurd hbxb2.lt (Nat.not_lt.2 h))
      have hila3 := hila2.below hx3
      have hilb3 := hilb2.below hx3
      clear hbxa2 hbxb2 hila2 hilb2 hSa2 hSb2
      have hSa3 := boxS (c := c) (m := m) (k := k) (o := o) (r := r) (t := t) (n := n) (g := g) (l := l) (A := A0) (cap := cap0) hbxa3
      have hSb3 := boxS (c := c2) (m := m2) (k := k2) (o := o2) (r := r2) (t := t2) (n := n2) (g := g2) (l := l2) (A := A1) (cap := cap1) hbxb3
      go_wp2_with fail
      try rw [hrem]
      try rw [hrem2]
      refine wp_region_held_drew (S := (fun w' => (w'.cell? ⟨w.heap.size, 0, none⟩ = some (.int .i64 c) ∧ w'.cell? ⟨w.heap.size, 1, none⟩ = some (.int .i64 m) ∧ w'.cell? ⟨w.heap.size, 2, none⟩ = some (.int .i64 k) ∧ w'.cell? ⟨w.heap.size, 3, none⟩ = some (.int .i64 o) ∧ w'.cell? ⟨w.heap.size, 4, none⟩ = some (.int .i64 r) ∧ w'.cell? ⟨w.heap.size, 5, none⟩ = some (.int .i64 t) ∧ w'.cell? ⟨w.heap.size, 6, none⟩ = some (.int .i64 n) ∧ w'.cell? ⟨w.heap.size, 7, none⟩ = some (.string ⟨g.toArray⟩) ∧ w'.cell? ⟨w.heap.size, 8, none⟩ = some (.slice A0 l.length cap0)) ∧ (w'.cell? ⟨w.heap.size + 1, 0, none⟩ = some (.int .i64 c2) ∧ w'.cell? ⟨w.heap.size + 1, 1, none⟩ = some (.int .i64 m2) ∧ w'.cell? ⟨w.heap.size + 1, 2, none⟩ = some (.int .i64 k2) ∧ w'.cell? ⟨w.heap.size + 1, 3, none⟩ = some (.int .i64 o2) ∧ w'.cell? ⟨w.heap.size + 1, 4, none⟩ = some (.int .i64 r2) ∧ w'.cell? ⟨w.heap.size + 1, 5, none⟩ = some (.int .i64 t2) ∧ w'.cell? ⟨w.heap.size + 1, 6, none⟩ = some (.int .i64 n2) ∧ w'.cell? ⟨w.heap.size + 1, 7, none⟩ = some (.string ⟨g2.toArray⟩) ∧ w'.cell? ⟨w.heap.size + 1, 8, none⟩ = some (.slice A1 l2.length cap1)))) (by kernel_rfl) ⟨hSa3, hSb3⟩ (fun hHeld => ?_)
      refine wpAnyH_ready (rs := [0]) (by kernel_rfl) (by simp) ?_
      refine AllReadyH.cons (o := ?o0V23) ?hi0V23 (fun K hK => ?st0V23) AllReadyH.nil
      case hi0V23 => (simp only [List.getElem?_toArray, List.getElem?_cons_succ, List.getElem?_cons_zero]; rfl)
      go_simp
      refine (alives_any _).mono ?_
      rintro e w4 ⟨rfl, hx4⟩
      have hx4 : Below (w3.drew).heap.size (w3.drew) w4 := hx4
      have hb4 := (Below.drew hb3).trans (hx4.mono (Below.drew hb3).size)
      have hbxa4 := (hbxa3.drew).kept (Keep.of_below hx4) (fun h => absurd hbxa3.lt (Nat.not_lt.2 h))
      have hbxb4 := (hbxb3.drew).kept (Keep.of_below hx4) (fun h => absurd hbxb3.lt (Nat.not_lt.2 h))
      have hila4 := (hila3.drew).below hx4
      have hilb4 := (hilb3.drew).below hx4
      have hSa4 := boxS (c := c) (m := m) (k := k) (o := o) (r := r) (t := t) (n := n) (g := g) (l := l) (A := A0) (cap := cap0) hbxa4
      have hSb4 := boxS (c := c2) (m := m2) (k := k2) (o := o2) (r := r2) (t := t2) (n := n2) (g := g2) (l := l2) (A := A1) (cap := cap1) hbxb4
      go_wp2_with fail
      refine hK.out _ _ ⟨hSa4, hSb4⟩ (fun hHeld2 => ?_)
      clear hK K hHeld
      have hHeld := hHeld2
      clear hHeld2
      try simp only [Act.put, List.setIfInBounds_toArray, List.set_cons_zero, List.set_cons_succ]
      refine wpAnyH_take (i := 1) (oi := ?oi1V23) (v := ?v1V23) ?hi1V23 (by kernel_rfl) (by kernel_rfl) (by kernel_rfl) ?hq1V23 (Or.inl ⟨?hw1V23, ?hy1V23⟩) (by assumption) ?rest1V23
      case hi1V23 => (simp only [List.getElem?_toArray, List.getElem?_cons_succ, List.getElem?_cons_zero]; rfl)
      case hq1V23 => exact fun _ _ _ h => h
      case hw1V23 => rfl
      case hy1V23 => (intro w hSw; (try dsimp only at hSw); go_simp <;> with_reducible rfl)
      try simp only [Act.put, List.setIfInBounds_toArray, List.set_cons_zero, List.set_cons_succ]
      refine wpAnyH_take (i := 2) (oi := ?oi2V23) (v := ?v2V23) ?hi2V23 (by kernel_rfl) (by kernel_rfl) (by kernel_rfl) ?hq2V23 (Or.inl ⟨?hw2V23, ?hy2V23⟩) (by assumption) ?rest2V23
      case hi2V23 => (simp only [List.getElem?_toArray, List.getElem?_cons_succ, List.getElem?_cons_zero]; rfl)
      case hq2V23 => exact fun _ _ _ h => h
      case hw2V23 => rfl
      case hy2V23 => (intro w hSw; (try dsimp only at hSw); go_simp <;> with_reducible rfl)
      try simp only [Act.put, List.setIfInBounds_toArray, List.set_cons_zero, List.set_cons_succ]
      refine wpAnyH_take (i := 3) (oi := ?oi3V23) (v := ?v3V23) ?hi3V23 (by kernel_rfl) (by kernel_rfl) (by kernel_rfl) ?hq3V23 (Or.inl ⟨?hw3V23, ?hy3V23⟩) (by assumption) ?rest3V23
      case hi3V23 => (simp only [List.getElem?_toArray, List.getElem?_cons_succ, List.getElem?_cons_zero]; rfl)
      case hq3V23 => exact fun _ _ _ h => h
      case hw3V23 => rfl
      case hy3V23 => (intro w hSw; (try dsimp only at hSw); go_simp <;> with_reducible rfl)
      try simp only [Act.put, List.setIfInBounds_toArray, List.set_cons_zero, List.set_cons_succ]
      refine wpAnyH_take (i := 4) (oi := ?oi4V23) (v := ?v4V23) ?hi4V23 (by kernel_rfl) (by kernel_rfl) (by kernel_rfl) ?hq4V23 (Or.inl ⟨?hw4V23, ?hy4V23⟩) (by assumption) ?rest4V23
      case hi4V23 => (simp only [List.getElem?_toArray, List.getElem?_cons_succ, List.getElem?_cons_zero]; rfl)
      case hq4V23 => exact fun _ _ _ h => h
      case hw4V23 => rfl
      case hy4V23 => (intro w hSw; (try dsimp only at hSw); go_simp <;> with_reducible rfl)
      try simp only [Act.put, List.setIfInBounds_toArray, List.set_cons_zero, List.set_cons_succ]
      refine wpAnyH_take (i := 5) (oi := ?oi5V23) (v := ?v5V23) ?hi5V23 (by kernel_rfl) (by kernel_rfl) (by kernel_rfl) ?hq5V23 (Or.inl ⟨?hw5V23, ?hy5V23⟩) (by assumption) ?rest5V23
      case hi5V23 => (simp only [List.getElem?_toArray, List.getElem?_cons_succ, List.getElem?_cons_zero]; rfl)
      case hq5V23 => exact fun _ _ _ h => h
      case hw5V23 => rfl
      case hy5V23 => (intro w hSw; (try dsimp only at hSw); go_simp <;> with_reducible rfl)
      try simp only [Act.put, List.setIfInBounds_toArray, List.set_cons_zero, List.set_cons_succ]
      refine wpAnyH_take (i := 6) (oi := ?oi6V23) (v := ?v6V23) ?hi6V23 (by kernel_rfl) (by kernel_rfl) (by kernel_rfl) ?hq6V23 (Or.inl ⟨?hw6V23, ?hy6V23⟩) (by assumption) ?rest6V23
      case hi6V23 => (simp only [List.getElem?_toArray, List.getElem?_cons_succ, List.getElem?_cons_zero]; rfl)
      case hq6V23 => exact fun _ _ _ h => h
      case hw6V23 => rfl
      case hy6V23 => (intro w hSw; (try dsimp only at hSw); go_simp <;> with_reducible rfl)
      try simp only [Act.put, List.setIfInBounds_toArray, List.set_cons_zero, List.set_cons_succ]
      refine wpAnyH_take (i := 7) (oi := ?oi7V23) (v := ?v7V23) ?hi7V23 (by kernel_rfl) (by kernel_rfl) (by kernel_rfl) ?hq7V23 (Or.inl ⟨?hw7V23, ?hy7V23⟩) (by assumption) ?rest7V23
      case hi7V23 => (simp only [List.getElem?_toArray, List.getElem?_cons_succ, List.getElem?_cons_zero]; rfl)
      case hq7V23 => exact fun _ _ _ h => h
      case hw7V23 => rfl
      case hy7V23 => (intro w hSw; (try dsimp only at hSw); go_simp <;> with_reducible rfl)
      try simp only [Act.put, List.setIfInBounds_toArray, List.set_cons_zero, List.set_cons_succ]
      refine wpAnyH_take (i := 8) (oi := ?oi8V23) (v := ?v8V23) ?hi8V23 (by kernel_rfl) (by kernel_rfl) (by kernel_rfl) ?hq8V23 (Or.inl ⟨?hw8V23, ?hy8V23⟩) (by assumption) ?rest8V23
      case hi8V23 => (simp only [List.getElem?_toArray, List.getElem?_cons_succ, List.getElem?_cons_zero]; rfl)
      case hq8V23 => exact fun _ _ _ h => h
      case hw8V23 => rfl
      case hy8V23 => (intro w hSw; (try dsimp only at hSw); go_simp <;> with_reducible rfl)
      try simp only [Act.put, List.setIfInBounds_toArray, List.set_cons_zero, List.set_cons_succ]
      refine wpAnyH_take (i := 9) (oi := ?oi9V23) (v := ?v9V23) ?hi9V23 (by kernel_rfl) (by kernel_rfl) (by kernel_rfl) ?hq9V23 (Or.inl ⟨?hw9V23, ?hy9V23⟩) (by assumption) ?rest9V23
      case hi9V23 => (simp only [List.getElem?_toArray, List.getElem?_cons_succ, List.getElem?_cons_zero]; rfl)
      case hq9V23 => exact fun _ _ _ h => h
      case hw9V23 => rfl
      case hy9V23 => (intro w hSw; (try dsimp only at hSw); go_simp <;> with_reducible rfl)
      try simp only [Act.put, List.setIfInBounds_toArray, List.set_cons_zero, List.set_cons_succ]
      refine wpAnyH_take (i := 10) (oi := ?oi10V23) (v := ?v10V23) ?hi10V23 (by kernel_rfl) (by kernel_rfl) (by kernel_rfl) ?hq10V23 (Or.inl ⟨?hw10V23, ?hy10V23⟩) (by assumption) ?rest10V23
      case hi10V23 => (simp only [List.getElem?_toArray, List.getElem?_cons_succ, List.getElem?_cons_zero]; rfl)
      case hq10V23 => exact fun _ _ _ h => h
      case hw10V23 => rfl
      case hy10V23 => (intro w hSw; (try dsimp only at hSw); go_simp <;> with_reducible rfl)
      try simp only [Act.put, List.setIfInBounds_toArray, List.set_cons_zero, List.set_cons_succ]
      refine wpAnyH_take (i := 12) (oi := ?oi12V23) (v := ?v12V23) ?hi12V23 (by kernel_rfl) (by kernel_rfl) (by kernel_rfl) ?hq12V23 (Or.inl ⟨?hw12V23, ?hy12V23⟩) (by assumption) ?rest12V23
      case hi12V23 => (simp only [List.getElem?_toArray, List.getElem?_cons_succ, List.getElem?_cons_zero]; rfl)
      case hq12V23 => exact fun _ _ _ h => h
      case hw12V23 => rfl
      case hy12V23 => (intro w hSw; (try dsimp only at hSw); go_simp <;> with_reducible rfl)
      try simp only [Act.put, List.setIfInBounds_toArray, List.set_cons_zero, List.set_cons_succ]
      refine wpAnyH_ready (rs := [11]) (by kernel_rfl) (by simp) ?_
      refine AllReadyH.cons (o := ?o11V23) ?hi11V23 (fun K hK => ?st11V23) AllReadyH.nil
      case hi11V23 => (simp only [List.getElem?_toArray, List.getElem?_cons_succ, List.getElem?_cons_zero]; rfl)
      go_simp
      refine (home_any c a2 _ hr2).mono ?_
      rintro e w' ⟨rfl, hww⟩
      subst w'
      rw [hHO]
      go_wp2_with fail
      refine hK.out _ _ ⟨hSa4, hSb4⟩ (fun hHeld2 => ?_)
      clear hK K hHeld
      have hHeld := hHeld2
      clear hHeld2
      try simp only [Act.put, List.setIfInBounds_toArray, List.set_cons_zero, List.set_cons_succ]
      refine wpAnyH_take (i := 13) (oi := ?oi13V23) (v := ?v13V23) ?hi13V23 (by kernel_rfl) (by kernel_rfl) (by kernel_rfl) ?hq13V23 (Or.inl ⟨?hw13V23, ?hy13V23⟩) (by assumption) ?rest13V23
      case hi13V23 => (simp only [List.getElem?_toArray, List.getElem?_cons_succ, List.getElem?_cons_zero]; rfl)
      case hq13V23 => exact fun _ _ _ h => h
      case hw13V23 => rfl
      case hy13V23 => (intro w hSw; (try dsimp only at hSw); go_simp <;> with_reducible rfl)
      try simp only [Act.put, List.setIfInBounds_toArray, List.set_cons_zero, List.set_cons_succ]
      refine wpAnyH_take (i := 14) (oi := ?oi14V23) (v := ?v14V23) ?hi14V23 (by kernel_rfl) (by kernel_rfl) (by kernel_rfl) ?hq14V23 (Or.inl ⟨?hw14V23, ?hy14V23⟩) (by assumption) ?rest14V23
      case hi14V23 => (simp only [List.getElem?_toArray, List.getElem?_cons_succ, List.getElem?_cons_zero]; rfl)
      case hq14V23 => exact fun _ _ _ h => h
      case hw14V23 => rfl
      case hy14V23 => (intro w hSw; (try dsimp only at hSw); go_simp <;> with_reducible rfl)
      try simp only [Act.put, List.setIfInBounds_toArray, List.set_cons_zero, List.set_cons_succ]
      refine wpAnyH_take (i := 15) (oi := ?oi15V23) (v := ?v15V23) ?hi15V23 (by kernel_rfl) (by kernel_rfl) (by kernel_rfl) ?hq15V23 (Or.inl ⟨?hw15V23, ?hy15V23⟩) (by assumption) ?rest15V23
      case hi15V23 => (simp only [List.getElem?_toArray, List.getElem?_cons_succ, List.getElem?_cons_zero]; rfl)
      case hq15V23 => exact fun _ _ _ h => h
      case hw15V23 => rfl
      case hy15V23 => (intro w hSw; (try dsimp only at hSw); go_simp <;> with_reducible rfl)
      try simp only [Act.put, List.setIfInBounds_toArray, List.set_cons_zero, List.set_cons_succ]
      refine wpAnyH_take (i := 16) (oi := ?oi16V23) (v := ?v16V23) ?hi16V23 (by kernel_rfl) (by kernel_rfl) (by kernel_rfl) ?hq16V23 (Or.inl ⟨?hw16V23, ?hy16V23⟩) (by assumption) ?rest16V23
      case hi16V23 => (simp only [List.getElem?_toArray, List.getElem?_cons_succ, List.getElem?_cons_zero]; rfl)
      case hq16V23 => exact fun _ _ _ h => h
      case hw16V23 => rfl
      case hy16V23 => (intro w hSw; (try dsimp only at hSw); go_simp <;> with_reducible rfl)
      try simp only [Act.put, List.setIfInBounds_toArray, List.set_cons_zero, List.set_cons_succ]
      refine wpAnyH_take (i := 17) (oi := ?oi17V23) (v := ?v17V23) ?hi17V23 (by kernel_rfl) (by kernel_rfl) (by kernel_rfl) ?hq17V23 (Or.inl ⟨?hw17V23, ?hy17V23⟩) (by assumption) ?rest17V23
      case hi17V23 => (simp only [List.getElem?_toArray, List.getElem?_cons_succ, List.getElem?_cons_zero]; rfl)
      case hq17V23 => exact fun _ _ _ h => h
      case hw17V23 => rfl
      case hy17V23 => (intro w hSw; (try dsimp only at hSw); go_simp <;> with_reducible rfl)
      try simp only [Act.put, List.setIfInBounds_toArray, List.set_cons_zero, List.set_cons_succ]
      refine wpAnyH_take (i := 18) (oi := ?oi18V23) (v := ?v18V23) ?hi18V23 (by kernel_rfl) (by kernel_rfl) (by kernel_rfl) ?hq18V23 (Or.inl ⟨?hw18V23, ?hy18V23⟩) (by assumption) ?rest18V23
      case hi18V23 => (simp only [List.getElem?_toArray, List.getElem?_cons_succ, List.getElem?_cons_zero]; rfl)
      case hq18V23 => exact fun _ _ _ h => h
      case hw18V23 => rfl
      case hy18V23 => (intro w hSw; (try dsimp only at hSw); go_simp <;> with_reducible rfl)
      try simp only [Act.put, List.setIfInBounds_toArray, List.set_cons_zero, List.set_cons_succ]
      refine wpAnyH_take (i := 19) (oi := ?oi19V23) (v := undef) ?hi19V23 (by kernel_rfl) (by kernel_rfl) (by kernel_rfl) ?hq19V23 (Or.inr ⟨?hw19V23, rfl⟩) (by assumption) ?rest19V23
      case hi19V23 => (simp only [List.getElem?_toArray, List.getElem?_cons_succ, List.getElem?_cons_zero]; rfl)
      case hq19V23 => exact fun _ _ _ h => h
      case hw19V23 => rfl
      try simp only [Act.put, List.setIfInBounds_toArray, List.set_cons_zero, List.set_cons_succ]
      refine wpAnyH_take (i := 21) (oi := ?oi21V23) (v := undef) ?hi21V23 (by kernel_rfl) (by kernel_rfl) (by kernel_rfl) ?hq21V23 (Or.inr ⟨?hw21V23, rfl⟩) (by assumption) ?rest21V23
      case hi21V23 => (simp only [List.getElem?_toArray, List.getElem?_cons_succ, List.getElem?_cons_zero]; rfl)
      case hq21V23 => exact fun _ _ _ h => h
      case hw21V23 => rfl
      try simp only [Act.put, List.setIfInBounds_toArray, List.set_cons_zero, List.set_cons_succ]
      refine wpAnyH_take (i := 22) (oi := ?oi22V23) (v := undef) ?hi22V23 (by kernel_rfl) (by kernel_rfl) (by kernel_rfl) ?hq22V23 (Or.inr ⟨?hw22V23, rfl⟩) (by assumption) ?rest22V23
      case hi22V23 => (simp only [List.getElem?_toArray, List.getElem?_cons_succ, List.getElem?_cons_zero]; rfl)
      case hq22V23 => exact fun _ _ _ h => h
      case hw22V23 => rfl
      try simp only [Act.put, List.setIfInBounds_toArray, List.set_cons_zero, List.set_cons_succ]
      refine wpAnyH_take (i := 20) (oi := ?oi20V23) (v := undef) ?hi20V23 (by kernel_rfl) (by kernel_rfl) (by kernel_rfl) ?hq20V23 (Or.inr ⟨?hw20V23, rfl⟩) (by assumption) ?rest20V23
      case hi20V23 => (simp only [List.getElem?_toArray, List.getElem?_cons_succ, List.getElem?_cons_zero]; rfl)
      case hq20V23 => exact fun _ _ _ h => h
      case hw20V23 => rfl
      try simp only [Act.put, List.setIfInBounds_toArray, List.set_cons_zero, List.set_cons_succ]
      refine wpAnyH_take (i := 23) (oi := ?oi23V23) (v := undef) ?hi23V23 (by kernel_rfl) (by kernel_rfl) (by kernel_rfl) ?hq23V23 (Or.inr ⟨?hw23V23, rfl⟩) (by assumption) ?rest23V23
      case hi23V23 => (simp only [List.getElem?_toArray, List.getElem?_cons_succ, List.getElem?_cons_zero]; rfl)
      case hq23V23 => exact fun _ _ _ h => h
      case hw23V23 => rfl
      try simp only [Act.put, List.setIfInBounds_toArray, List.set_cons_zero, List.set_cons_succ]
      refine wpAnyH_take (i := 24) (oi := ?oi24V23) (v := undef) ?hi24V23 (by kernel_rfl) (by kernel_rfl) (by kernel_rfl) ?hq24V23 (Or.inr ⟨?hw24V23, rfl⟩) (by assumption) ?rest24V23
      case hi24V23 => (simp only [List.getElem?_toArray, List.getElem?_cons_succ, List.getElem?_cons_zero]; rfl)
      case hq24V23 => exact fun _ _ _ h => h
      case hw24V23 => rfl
      try simp only [Act.put, List.setIfInBounds_toArray, List.set_cons_zero, List.set_cons_succ]
      refine wpAnyH_take (i := 25) (oi := ?oi25V23) (v := undef) ?hi25V23 (by kernel_rfl) (by kernel_rfl) (by kernel_rfl) ?hq25V23 (Or.inr ⟨?hw25V23, rfl⟩) (by assumption) ?rest25V23
      case hi25V23 => (simp only [List.getElem?_toArray, List.getElem?_cons_succ, List.getElem?_cons_zero]; rfl)
      case hq25V23 => exact fun _ _ _ h => h
      case hw25V23 => rfl
      try simp only [Act.put, List.setIfInBounds_toArray, List.set_cons_zero, List.set_cons_succ]
      refine wpAnyH_take (i := 26) (oi := ?oi26V23) (v := undef) ?hi26V23 (by kernel_rfl) (by kernel_rfl) (by kernel_rfl) ?hq26V23 (Or.inr ⟨?hw26V23, rfl⟩) (by assumption) ?rest26V23
      case hi26V23 => (simp only [List.getElem?_toArray, List.getElem?_cons_succ, List.getElem?_cons_zero]; rfl)
      case hq26V23 => exact fun _ _ _ h => h
      case hw26V23 => rfl
      try simp only [Act.put, List.setIfInBounds_toArray, List.set_cons_zero, List.set_cons_succ]
      refine wpAnyH_take (i := 27) (oi := ?oi27V23) (v := undef) ?hi27V23 (by kernel_rfl) (by kernel_rfl) (by kernel_rfl) ?hq27V23 (Or.inr ⟨?hw27V23, rfl⟩) (by assumption) ?rest27V23
      case hi27V23 => (simp only [List.getElem?_toArray, List.getElem?_cons_succ, List.getElem?_cons_zero]; rfl)
      case hq27V23 => exact fun _ _ _ h => h
      case hw27V23 => rfl
      try simp only [Act.put, List.setIfInBounds_toArray, List.set_cons_zero, List.set_cons_succ]
      refine wpAnyH_take (i := 28) (oi := ?oi28V23) (v := ?v28V23) ?hi28V23 (by kernel_rfl) (by kernel_rfl) (by kernel_rfl) ?hq28V23 (Or.inl ⟨?hw28V23, ?hy28V23⟩) (by assumption) ?rest28V23
      case hi28V23 => (simp only [List.getElem?_toArray, List.getElem?_cons_succ, List.getElem?_cons_zero]; rfl)
      case hq28V23 => exact fun _ _ _ h => h
      case hw28V23 => rfl
      case hy28V23 => (intro w hSw; (try dsimp only at hSw); go_simp <;> with_reducible rfl)
      try simp only [Act.put, List.setIfInBounds_toArray, List.set_cons_zero, List.set_cons_succ]
      refine wpAnyH_take (i := 29) (oi := ?oi29V23) (v := ?v29V23) ?hi29V23 (by kernel_rfl) (by kernel_rfl) (by kernel_rfl) ?hq29V23 (Or.inl ⟨?hw29V23, ?hy29V23⟩) (by assumption) ?rest29V23
      case hi29V23 => (simp only [List.getElem?_toArray, List.getElem?_cons_succ, List.getElem?_cons_zero]; rfl)
      case hq29V23 => exact fun _ _ _ h => h
      case hw29V23 => rfl
      case hy29V23 => (intro w hSw; (try dsimp only at hSw); go_simp <;> with_reducible rfl)
      try simp only [Act.put, List.setIfInBounds_toArray, List.set_cons_zero, List.set_cons_succ]
      refine wpAnyH_done (by kernel_rfl) ?_ _
      go_wp2
      go_ret
      exact ⟨by simp, hb4⟩
    have hkb : (k == 1) = true := beq_iff_eq.2 hk
    have hkd : decide (k = 1) = true := decide_eq_true hk
    obtain ⟨hON', hcl, hch, hml, hmh⟩ : ON = 64 * m + c ∧ 0 ≤ c ∧ c ≤ 63 ∧ 1 ≤ m ∧ m ≤ 4294967296 := by
      rcases hf1 with ⟨_, h | h⟩ | ⟨_, _, h⟩
      · rw [hm] at h
        cases h
      · exact absurd hk h
      · exact h
    clear hf1 hk
    have hw1 : wrap64 (64 * m) = 64 * m := by unfold wrap64; omega
    have hw2 : wrap64 (64 * m + c) = ON := by rw [hON']; unfold wrap64; omega
    have hOW : ownerN ON = c := by unfold ownerN; rw [if_pos (by omega)]; omega
    have hz : (ON == 0) = false := beq_eq_false_iff_ne.2 (by omega)
    have hzd : decide (ON = 0) = false := decide_eq_false (by omega)
    have hposd : decide (0 < ON) = true := decide_eq_true (by omega)
    have hbigd : decide (1099511627776 < ON) = false := decide_eq_false (by omega)
    replace hON' := Lib.hid hON'
    have h0 := hcl
    by_cases h1 : 1 ≤ a2
    case neg =>
      have hq1 : ¬ 1 ≤ a2 := h1
      have hq1d : decide (1 ≤ a2) = false := decide_eq_false h1
      obtain rfl : HO = 0 := by rw [← hHO]; unfold homeN; rw [if_neg (by omega)]
      go_enter Try.func9, Try.ntmps9
      have hSa0 := boxS (c := c) (m := m) (k := k) (o := o) (r := r) (t := t) (n := n) (g := g) (l := l) (A := A0) (cap := cap0) hbxa0
      have hSb0 := boxS (c := c2) (m := m2) (k := k2) (o := o2) (r := r2) (t := t2) (n := n2) (g := g2) (l := l2) (A := A1) (cap := cap1) hbxb0
      go_wp2_with fail
      refine wp_region_held_drew (S := (fun w' => (w'.cell? ⟨w.heap.size, 0, none⟩ = some (.int .i64 c) ∧ w'.cell? ⟨w.heap.size, 1, none⟩ = some (.int .i64 m) ∧ w'.cell? ⟨w.heap.size, 2, none⟩ = some (.int .i64 k) ∧ w'.cell? ⟨w.heap.size, 3, none⟩ = some (.int .i64 o) ∧ w'.cell? ⟨w.heap.size, 4, none⟩ = some (.int .i64 r) ∧ w'.cell? ⟨w.heap.size, 5, none⟩ = some (.int .i64 t) ∧ w'.cell? ⟨w.heap.size, 6, none⟩ = some (.int .i64 n) ∧ w'.cell? ⟨w.heap.size, 7, none⟩ = some (.string ⟨g.toArray⟩) ∧ w'.cell? ⟨w.heap.size, 8, none⟩ = some (.slice A0 l.length cap0)) ∧ (w'.cell? ⟨w.heap.size + 1, 0, none⟩ = some (.int .i64 c2) ∧ w'.cell? ⟨w.heap.size + 1, 1, none⟩ = some (.int .i64 m2) ∧ w'.cell? ⟨w.heap.size + 1, 2, none⟩ = some (.int .i64 k2) ∧ w'.cell? ⟨w.heap.size + 1, 3, none⟩ = some (.int .i64 o2) ∧ w'.cell? ⟨w.heap.size + 1, 4, none⟩ = some (.int .i64 r2) ∧ w'.cell? ⟨w.heap.size + 1, 5, none⟩ = some (.int .i64 t2) ∧ w'.cell? ⟨w.heap.size + 1, 6, none⟩ = some (.int .i64 n2) ∧ w'.cell? ⟨w.heap.size + 1, 7, none⟩ = some (.string ⟨g2.toArray⟩) ∧ w'.cell? ⟨w.heap.size + 1, 8, none⟩ = some (.slice A1 l2.length cap1)))) (by kernel_rfl) ⟨hSa0, hSb0⟩ (fun hHeld => ?_)
      refine wpAnyH_take (i := 0) (oi := ?oi0U32) (v := ?v0U32) ?hi0U32 (by kernel_rfl) (by kernel_rfl) (by kernel_rfl) ?hq0U32 (Or.inl ⟨?hw0U32, ?hy0U32⟩) (by assumption) ?rest0U32
      case hi0U32 => (simp only [List.getElem?_toArray, List.getElem?_cons_succ, List.getElem?_cons_zero]; rfl)
      case hq0U32 => exact fun _ _ _ h => h
      case hw0U32 => rfl
      case hy0U32 => (intro w hSw; (try dsimp only at hSw); go_simp <;> with_reducible rfl)
      try simp only [Act.put, List.setIfInBounds_toArray, List.set_cons_zero, List.set_cons_succ]
      refine wpAnyH_take (i := 2) (oi := ?oi2U32) (v := ?v2U32) ?hi2U32 (by kernel_rfl) (by kernel_rfl) (by kernel_rfl) ?hq2U32 (Or.inl ⟨?hw2U32, ?hy2U32⟩) (by assumption) ?rest2U32
      case hi2U32 => (simp only [List.getElem?_toArray, List.getElem?_cons_succ, List.getElem?_cons_zero]; rfl)
      case hq2U32 => exact fun _ _ _ h => h
      case hw2U32 => rfl
      case hy2U32 => (intro w hSw; (try dsimp only at hSw); go_simp <;> with_reducible rfl)
      try simp only [Act.put, List.setIfInBounds_toArray, List.set_cons_zero, List.set_cons_succ]
      refine wpAnyH_ready (rs := [1]) (by kernel_rfl) (by simp) ?_
      refine AllReadyH.cons (o := ?o1U32) ?hi1U32 (fun K hK => ?st1U32) AllReadyH.nil
      case hi1U32 => (simp only [List.getElem?_toArray, List.getElem?_cons_succ, List.getElem?_cons_zero]; rfl)
      go_simp
      refine (order_any ⟨c, m, k, o, r, t, n, g, l⟩ A0 cap0 _ hila0.drew hn).mono ?_
      rintro e w1 ⟨rfl, hx1⟩
      have hx1 : Below (((w.alloc (.cells (AV.cs ⟨c, m, k, o, r, t, n, g, l⟩ A0 cap0) 53)).alloc (.cells (AV.cs ⟨c2, m2, k2, o2, r2, t2, n2, g2, l2⟩ A1 cap1) 53)).drew).heap.size (((w.alloc (.cells (AV.cs ⟨c, m, k, o, r, t, n, g, l⟩ A0 cap0) 53)).alloc (.cells (AV.cs ⟨c2, m2, k2, o2, r2, t2, n2, g2, l2⟩ A1 cap1) 53)).drew) w1 := hx1
      have hb1 := (Below.drew hb0).trans (hx1.mono (Below.drew hb0).size)
      have hbxa1 := (hbxa0.drew).kept (Keep.of_below hx1) (fun h => absurd hbxa0.lt (Nat.not_lt.2 h))
      have hbxb1 := (hbxb0.drew).kept (Keep.of_below hx1) (fun h => absurd hbxb0.lt (Nat.not_lt.2 h))
      have hila1 := (hila0.drew).below hx1
      have hilb1 := (hilb0.drew).below hx1
      have hSa1 := boxS (c := c) (m := m) (k := k) (o := o) (r := r) (t := t) (n := n) (g := g) (l := l) (A := A0) (cap := cap0) hbxa1
      have hSb1 := boxS (c := c2) (m := m2) (k := k2) (o := o2) (r := r2) (t := t2) (n := n2) (g := g2) (l := l2) (A := A1) (cap := cap1) hbxb1
      rw [hON]
      go_wp2_with fail
      refine hK.out _ _ ⟨hSa1, hSb1⟩ (fun hHeld2 => ?_)
      clear hK K hHeld
      have hHeld := hHeld2
      clear hHeld2
      try simp only [Act.put, List.setIfInBounds_toArray, List.set_cons_zero, List.set_cons_succ]
      refine wpAnyH_ready (rs := [3]) (by kernel_rfl) (by simp) ?_
      refine AllReadyH.cons (o := ?o3U32) ?hi3U32 (fun K hK => ?st3U32) AllReadyH.nil
      case hi3U32 => (simp only [List.getElem?_toArray, List.getElem?_cons_succ, List.getElem?_cons_zero]; rfl)
      go_simp
      refine (order_any ⟨c2, m2, k2, o2, r2, t2, n2, g2, l2⟩ A1 cap1 _ hilb1 hn2).mono ?_
      rintro e w2 ⟨rfl, hx2⟩
      have hx2 : Below (w1).heap.size (w1) w2 := hx2
      have hb2 := hb1.trans (hx2.mono hb1.size)
      have hbxa2 := (hbxa1).kept (Keep.of_below hx2) (fun h => absurd hbxa1.lt (Nat.not_lt.2 h))
      have hbxb2 := (hbxb1).kept (Keep.of_below hx2) (fun h => absurd hbxb1.lt (Nat.not_lt.2 h))
      have hila2 := (hila1).below hx2
      have hilb2 := (hilb1).below hx2
      have hSa2 := boxS (c := c) (m := m) (k := k) (o := o) (r := r) (t := t) (n := n) (g := g) (l := l) (A := A0) (cap := cap0) hbxa2
      have hSb2 := boxS (c := c2) (m := m2) (k := k2) (o := o2) (r := r2) (t := t2) (n := n2) (g := g2) (l := l2) (A := A1) (cap := cap1) hbxb2
      rw [hON2]
      go_wp2_with fail
      refine hK.out _ _ ⟨hSa2, hSb2⟩ (fun hHeld2 => ?_)
      clear hK K hHeld
      have hHeld := hHeld2
      clear hHeld2
      try simp only [Act.put, List.setIfInBounds_toArray, List.set_cons_zero, List.set_cons_succ]
      refine wpAnyH_take (i := 4) (oi := ?oi4U32) (v := ?v4U32) ?hi4U32 (by kernel_rfl) (by kernel_rfl) (by kernel_rfl) ?hq4U32 (Or.inl ⟨?hw4U32, ?hy4U32⟩) (by assumption) ?rest4U32
      case hi4U32 => (simp only [List.getElem?_toArray, List.getElem?_cons_succ, List.getElem?_cons_zero]; rfl)
      case hq4U32 => exact fun _ _ _ h => h
      case hw4U32 => rfl
      case hy4U32 => (intro w hSw; (try dsimp only at hSw); go_simp <;> with_reducible rfl)
      try simp only [Act.put, List.setIfInBounds_toArray, List.set_cons_zero, List.set_cons_succ]
      refine wpAnyH_take (i := 5) (oi := ?oi5U32) (v := ?v5U32) ?hi5U32 (by kernel_rfl) (by kernel_rfl) (by kernel_rfl) ?hq5U32 (Or.inl ⟨?hw5U32, ?hy5U32⟩) (by assumption) ?rest5U32
      case hi5U32 => (simp only [List.getElem?_toArray, List.getElem?_cons_succ, List.getElem?_cons_zero]; rfl)
      case hq5U32 => exact fun _ _ _ h => h
      case hw5U32 => rfl
      case hy5U32 => (intro w hSw; (try dsimp only at hSw); go_simp <;> with_reducible rfl)
      try simp only [Act.put, List.setIfInBounds_toArray, List.set_cons_zero, List.set_cons_succ]
      refine wpAnyH_done (by kernel_rfl) ?_ _
      have key := raskmay_any ⟨c, m, k, o, r, t, n, g, l⟩ A0 cap0 w2 hila2 hwl0 hn hg7
      rw [hm] at key
      unfold AV.v at key
      dsimp only at key
      go_wp2_with fail
      refine key.mono ?_
      rintro e w3 ⟨rfl, hx3⟩
      clear key
      have hb3 := hb2.trans (hx3.mono hb2.size)
      have hbxa3 := hbxa2.kept (Keep.of_below hx3) (fun h => absurd hbxa2.lt (Nat.not_lt.2 h))
      have hbxb3 := hbxb2.kept (Keep.of_below hx3) (fun h => absurd hbxb2.lt (Nat.not_lt.2 h))
      have hila3 := hila2.below hx3
      have hilb3 := hilb2.below hx3
      clear hbxa2 hbxb2 hila2 hilb2 hSa2 hSb2
      have hSa3 := boxS (c := c) (m := m) (k := k) (o := o) (r := r) (t := t) (n := n) (g := g) (l := l) (A := A0) (cap := cap0) hbxa3
      have hSb3 := boxS (c := c2) (m := m2) (k := k2) (o := o2) (r := r2) (t := t2) (n := n2) (g := g2) (l := l2) (A := A1) (cap := cap1) hbxb3
      go_wp2_with fail
      try rw [hw1]
      try rw [hw2]
      try rw [← hON'.out]
      refine wp_region_held_drew (S := (fun w' => (w'.cell? ⟨w.heap.size, 0, none⟩ = some (.int .i64 c) ∧ w'.cell? ⟨w.heap.size, 1, none⟩ = some (.int .i64 m) ∧ w'.cell? ⟨w.heap.size, 2, none⟩ = some (.int .i64 k) ∧ w'.cell? ⟨w.heap.size, 3, none⟩ = some (.int .i64 o) ∧ w'.cell? ⟨w.heap.size, 4, none⟩ = some (.int .i64 r) ∧ w'.cell? ⟨w.heap.size, 5, none⟩ = some (.int .i64 t) ∧ w'.cell? ⟨w.heap.size, 6, none⟩ = some (.int .i64 n) ∧ w'.cell? ⟨w.heap.size, 7, none⟩ = some (.string ⟨g.toArray⟩) ∧ w'.cell? ⟨w.heap.size, 8, none⟩ = some (.slice A0 l.length cap0)) ∧ (w'.cell? ⟨w.heap.size + 1, 0, none⟩ = some (.int .i64 c2) ∧ w'.cell? ⟨w.heap.size + 1, 1, none⟩ = some (.int .i64 m2) ∧ w'.cell? ⟨w.heap.size + 1, 2, none⟩ = some (.int .i64 k2) ∧ w'.cell? ⟨w.heap.size + 1, 3, none⟩ = some (.int .i64 o2) ∧ w'.cell? ⟨w.heap.size + 1, 4, none⟩ = some (.int .i64 r2) ∧ w'.cell? ⟨w.heap.size + 1, 5, none⟩ = some (.int .i64 t2) ∧ w'.cell? ⟨w.heap.size + 1, 6, none⟩ = some (.int .i64 n2) ∧ w'.cell? ⟨w.heap.size + 1, 7, none⟩ = some (.string ⟨g2.toArray⟩) ∧ w'.cell? ⟨w.heap.size + 1, 8, none⟩ = some (.slice A1 l2.length cap1)))) (by kernel_rfl) ⟨hSa3, hSb3⟩ (fun hHeld => ?_)
      refine wpAnyH_ready (rs := [0]) (by kernel_rfl) (by simp) ?_
      refine AllReadyH.cons (o := ?o0V32) ?hi0V32 (fun K hK => ?st0V32) AllReadyH.nil
      case hi0V32 => (simp only [List.getElem?_toArray, List.getElem?_cons_succ, List.getElem?_cons_zero]; rfl)
      go_simp
      refine (alives_any _).mono ?_
      rintro e w4 ⟨rfl, hx4⟩
      have hx4 : Below (w3.drew).heap.size (w3.drew) w4 := hx4
      have hb4 := (Below.drew hb3).trans (hx4.mono (Below.drew hb3).size)
      have hbxa4 := (hbxa3.drew).kept (Keep.of_below hx4) (fun h => absurd hbxa3.lt (Nat.not_lt.2 h))
      have hbxb4 := (hbxb3.drew).kept (Keep.of_below hx4) (fun h => absurd hbxb3.lt (Nat.not_lt.2 h))
      have hila4 := (hila3.drew).below hx4
      have hilb4 := (hilb3.drew).below hx4
      have hSa4 := boxS (c := c) (m := m) (k := k) (o := o) (r := r) (t := t) (n := n) (g := g) (l := l) (A := A0) (cap := cap0) hbxa4
      have hSb4 := boxS (c := c2) (m := m2) (k := k2) (o := o2) (r := r2) (t := t2) (n := n2) (g := g2) (l := l2) (A := A1) (cap := cap1) hbxb4
      go_wp2_with fail
      refine hK.out _ _ ⟨hSa4, hSb4⟩ (fun hHeld2 => ?_)
      clear hK K hHeld
      have hHeld := hHeld2
      clear hHeld2
      try simp only [Act.put, List.setIfInBounds_toArray, List.set_cons_zero, List.set_cons_succ]
      refine wpAnyH_take (i := 1) (oi := ?oi1V32) (v := ?v1V32) ?hi1V32 (by kernel_rfl) (by kernel_rfl) (by kernel_rfl) ?hq1V32 (Or.inl ⟨?hw1V32, ?hy1V32⟩) (by assumption) ?rest1V32
      case hi1V32 => (simp only [List.getElem?_toArray, List.getElem?_cons_succ, List.getElem?_cons_zero]; rfl)
      case hq1V32 => exact fun _ _ _ h => h
      case hw1V32 => rfl
      case hy1V32 => (intro w hSw; (try dsimp only at hSw); go_simp <;> with_reducible rfl)
      try simp only [Act.put, List.setIfInBounds_toArray, List.set_cons_zero, List.set_cons_succ]
      refine wpAnyH_take (i := 2) (oi := ?oi2V32) (v := ?v2V32) ?hi2V32 (by kernel_rfl) (by kernel_rfl) (by kernel_rfl) ?hq2V32 (Or.inl ⟨?hw2V32, ?hy2V32⟩) (by assumption) ?rest2V32
      case hi2V32 => (simp only [List.getElem?_toArray, List.getElem?_cons_succ, List.getElem?_cons_zero]; rfl)
      case hq2V32 => exact fun _ _ _ h => h
      case hw2V32 => rfl
      case hy2V32 => (intro w hSw; (try dsimp only at hSw); go_simp <;> with_reducible rfl)
      try simp only [Act.put, List.setIfInBounds_toArray, List.set_cons_zero, List.set_cons_succ]
      refine wpAnyH_take (i := 3) (oi := ?oi3V32) (v := ?v3V32) ?hi3V32 (by kernel_rfl) (by kernel_rfl) (by kernel_rfl) ?hq3V32 (Or.inl ⟨?hw3V32, ?hy3V32⟩) (by assumption) ?rest3V32
      case hi3V32 => (simp only [List.getElem?_toArray, List.getElem?_cons_succ, List.getElem?_cons_zero]; rfl)
      case hq3V32 => exact fun _ _ _ h => h
      case hw3V32 => rfl
      case hy3V32 => (intro w hSw; (try dsimp only at hSw); go_simp <;> with_reducible rfl)
      try simp only [Act.put, List.setIfInBounds_toArray, List.set_cons_zero, List.set_cons_succ]
      refine wpAnyH_take (i := 4) (oi := ?oi4V32) (v := ?v4V32) ?hi4V32 (by kernel_rfl) (by kernel_rfl) (by kernel_rfl) ?hq4V32 (Or.inl ⟨?hw4V32, ?hy4V32⟩) (by assumption) ?rest4V32
      case hi4V32 => (simp only [List.getElem?_toArray, List.getElem?_cons_succ, List.getElem?_cons_zero]; rfl)
      case hq4V32 => exact fun _ _ _ h => h
      case hw4V32 => rfl
      case hy4V32 => (intro w hSw; (try dsimp only at hSw); go_simp <;> with_reducible rfl)
      try simp only [Act.put, List.setIfInBounds_toArray, List.set_cons_zero, List.set_cons_succ]
      refine wpAnyH_take (i := 5) (oi := ?oi5V32) (v := ?v5V32) ?hi5V32 (by kernel_rfl) (by kernel_rfl) (by kernel_rfl) ?hq5V32 (Or.inl ⟨?hw5V32, ?hy5V32⟩) (by assumption) ?rest5V32
      case hi5V32 => (simp only [List.getElem?_toArray, List.getElem?_cons_succ, List.getElem?_cons_zero]; rfl)
      case hq5V32 => exact fun _ _ _ h => h
      case hw5V32 => rfl
      case hy5V32 => (intro w hSw; (try dsimp only at hSw); go_simp <;> with_reducible rfl)
      try simp only [Act.put, List.setIfInBounds_toArray, List.set_cons_zero, List.set_cons_succ]
      refine wpAnyH_take (i := 6) (oi := ?oi6V32) (v := ?v6V32) ?hi6V32 (by kernel_rfl) (by kernel_rfl) (by kernel_rfl) ?hq6V32 (Or.inl ⟨?hw6V32, ?hy6V32⟩) (by assumption) ?rest6V32
      case hi6V32 => (simp only [List.getElem?_toArray, List.getElem?_cons_succ, List.getElem?_cons_zero]; rfl)
      case hq6V32 => exact fun _ _ _ h => h
      case hw6V32 => rfl
      case hy6V32 => (intro w hSw; (try dsimp only at hSw); go_simp <;> with_reducible rfl)
      try simp only [Act.put, List.setIfInBounds_toArray, List.set_cons_zero, List.set_cons_succ]
      refine wpAnyH_take (i := 7) (oi := ?oi7V32) (v := ?v7V32) ?hi7V32 (by kernel_rfl) (by kernel_rfl) (by kernel_rfl) ?hq7V32 (Or.inl ⟨?hw7V32, ?hy7V32⟩) (by assumption) ?rest7V32
      case hi7V32 => (simp only [List.getElem?_toArray, List.getElem?_cons_succ, List.getElem?_cons_zero]; rfl)
      case hq7V32 => exact fun _ _ _ h => h
      case hw7V32 => rfl
      case hy7V32 => (intro w hSw; (try dsimp only at hSw); go_simp <;> with_reducible rfl)
      try simp only [Act.put, List.setIfInBounds_toArray, List.set_cons_zero, List.set_cons_succ]
      refine wpAnyH_take (i := 8) (oi := ?oi8V32) (v := ?v8V32) ?hi8V32 (by kernel_rfl) (by kernel_rfl) (by kernel_rfl) ?hq8V32 (Or.inl ⟨?hw8V32, ?hy8V32⟩) (by assumption) ?rest8V32
      case hi8V32 => (simp only [List.getElem?_toArray, List.getElem?_cons_succ, List.getElem?_cons_zero]; rfl)
      case hq8V32 => exact fun _ _ _ h => h
      case hw8V32 => rfl
      case hy8V32 => (intro w hSw; (try dsimp only at hSw); go_simp <;> with_reducible rfl)
      try simp only [Act.put, List.setIfInBounds_toArray, List.set_cons_zero, List.set_cons_succ]
      refine wpAnyH_take (i := 9) (oi := ?oi9V32) (v := ?v9V32) ?hi9V32 (by kernel_rfl) (by kernel_rfl) (by kernel_rfl) ?hq9V32 (Or.inl ⟨?hw9V32, ?hy9V32⟩) (by assumption) ?rest9V32
      case hi9V32 => (simp only [List.getElem?_toArray, List.getElem?_cons_succ, List.getElem?_cons_zero]; rfl)
      case hq9V32 => exact fun _ _ _ h => h
      case hw9V32 => rfl
      case hy9V32 => (intro w hSw; (try dsimp only at hSw); go_simp <;> with_reducible rfl)
      try simp only [Act.put, List.setIfInBounds_toArray, List.set_cons_zero, List.set_cons_succ]
      refine wpAnyH_take (i := 10) (oi := ?oi10V32) (v := ?v10V32) ?hi10V32 (by kernel_rfl) (by kernel_rfl) (by kernel_rfl) ?hq10V32 (Or.inl ⟨?hw10V32, ?hy10V32⟩) (by assumption) ?rest10V32
      case hi10V32 => (simp only [List.getElem?_toArray, List.getElem?_cons_succ, List.getElem?_cons_zero]; rfl)
      case hq10V32 => exact fun _ _ _ h => h
      case hw10V32 => rfl
      case hy10V32 => (intro w hSw; (try dsimp only at hSw); go_simp <;> with_reducible rfl)
      try simp only [Act.put, List.setIfInBounds_toArray, List.set_cons_zero, List.set_cons_succ]
      refine wpAnyH_take (i := 12) (oi := ?oi12V32) (v := ?v12V32) ?hi12V32 (by kernel_rfl) (by kernel_rfl) (by kernel_rfl) ?hq12V32 (Or.inl ⟨?hw12V32, ?hy12V32⟩) (by assumption) ?rest12V32
      case hi12V32 => (simp only [List.getElem?_toArray, List.getElem?_cons_succ, List.getElem?_cons_zero]; rfl)
      case hq12V32 => exact fun _ _ _ h => h
      case hw12V32 => rfl
      case hy12V32 => (intro w hSw; (try dsimp only at hSw); go_simp <;> with_reducible rfl)
      try simp only [Act.put, List.setIfInBounds_toArray, List.set_cons_zero, List.set_cons_succ]
      refine wpAnyH_ready (rs := [11]) (by kernel_rfl) (by simp) ?_
      refine AllReadyH.cons (o := ?o11V32) ?hi11V32 (fun K hK => ?st11V32) AllReadyH.nil
      case hi11V32 => (simp only [List.getElem?_toArray, List.getElem?_cons_succ, List.getElem?_cons_zero]; rfl)
      go_simp
      refine (home_any c a2 _ hr2).mono ?_
      rintro e w' ⟨rfl, hww⟩
      subst w'
      rw [hHO]
      go_wp2_with fail
      refine hK.out _ _ ⟨hSa4, hSb4⟩ (fun hHeld2 => ?_)
      clear hK K hHeld
      have hHeld := hHeld2
      clear hHeld2
      try simp only [Act.put, List.setIfInBounds_toArray, List.set_cons_zero, List.set_cons_succ]
      refine wpAnyH_take (i := 13) (oi := ?oi13V32) (v := ?v13V32) ?hi13V32 (by kernel_rfl) (by kernel_rfl) (by kernel_rfl) ?hq13V32 (Or.inl ⟨?hw13V32, ?hy13V32⟩) (by assumption) ?rest13V32
      case hi13V32 => (simp only [List.getElem?_toArray, List.getElem?_cons_succ, List.getElem?_cons_zero]; rfl)
      case hq13V32 => exact fun _ _ _ h => h
      case hw13V32 => rfl
      case hy13V32 => (intro w hSw; (try dsimp only at hSw); go_simp <;> with_reducible rfl)
      try simp only [Act.put, List.setIfInBounds_toArray, List.set_cons_zero, List.set_cons_succ]
      refine wpAnyH_take (i := 14) (oi := ?oi14V32) (v := ?v14V32) ?hi14V32 (by kernel_rfl) (by kernel_rfl) (by kernel_rfl) ?hq14V32 (Or.inl ⟨?hw14V32, ?hy14V32⟩) (by assumption) ?rest14V32
      case hi14V32 => (simp only [List.getElem?_toArray, List.getElem?_cons_succ, List.getElem?_cons_zero]; rfl)
      case hq14V32 => exact fun _ _ _ h => h
      case hw14V32 => rfl
      case hy14V32 => (intro w hSw; (try dsimp only at hSw); go_simp <;> with_reducible rfl)
      try simp only [Act.put, List.setIfInBounds_toArray, List.set_cons_zero, List.set_cons_succ]
      refine wpAnyH_take (i := 15) (oi := ?oi15V32) (v := ?v15V32) ?hi15V32 (by kernel_rfl) (by kernel_rfl) (by kernel_rfl) ?hq15V32 (Or.inl ⟨?hw15V32, ?hy15V32⟩) (by assumption) ?rest15V32
      case hi15V32 => (simp only [List.getElem?_toArray, List.getElem?_cons_succ, List.getElem?_cons_zero]; rfl)
      case hq15V32 => exact fun _ _ _ h => h
      case hw15V32 => rfl
      case hy15V32 => (intro w hSw; (try dsimp only at hSw); go_simp <;> with_reducible rfl)
      try simp only [Act.put, List.setIfInBounds_toArray, List.set_cons_zero, List.set_cons_succ]
      refine wpAnyH_take (i := 16) (oi := ?oi16V32) (v := ?v16V32) ?hi16V32 (by kernel_rfl) (by kernel_rfl) (by kernel_rfl) ?hq16V32 (Or.inl ⟨?hw16V32, ?hy16V32⟩) (by assumption) ?rest16V32
      case hi16V32 => (simp only [List.getElem?_toArray, List.getElem?_cons_succ, List.getElem?_cons_zero]; rfl)
      case hq16V32 => exact fun _ _ _ h => h
      case hw16V32 => rfl
      case hy16V32 => (intro w hSw; (try dsimp only at hSw); go_simp <;> with_reducible rfl)
      try simp only [Act.put, List.setIfInBounds_toArray, List.set_cons_zero, List.set_cons_succ]
      refine wpAnyH_take (i := 17) (oi := ?oi17V32) (v := ?v17V32) ?hi17V32 (by kernel_rfl) (by kernel_rfl) (by kernel_rfl) ?hq17V32 (Or.inl ⟨?hw17V32, ?hy17V32⟩) (by assumption) ?rest17V32
      case hi17V32 => (simp only [List.getElem?_toArray, List.getElem?_cons_succ, List.getElem?_cons_zero]; rfl)
      case hq17V32 => exact fun _ _ _ h => h
      case hw17V32 => rfl
      case hy17V32 => (intro w hSw; (try dsimp only at hSw); go_simp <;> with_reducible rfl)
      try simp only [Act.put, List.setIfInBounds_toArray, List.set_cons_zero, List.set_cons_succ]
      refine wpAnyH_take (i := 18) (oi := ?oi18V32) (v := ?v18V32) ?hi18V32 (by kernel_rfl) (by kernel_rfl) (by kernel_rfl) ?hq18V32 (Or.inl ⟨?hw18V32, ?hy18V32⟩) (by assumption) ?rest18V32
      case hi18V32 => (simp only [List.getElem?_toArray, List.getElem?_cons_succ, List.getElem?_cons_zero]; rfl)
      case hq18V32 => exact fun _ _ _ h => h
      case hw18V32 => rfl
      case hy18V32 => (intro w hSw; (try dsimp only at hSw); go_simp <;> with_reducible rfl)
      try simp only [Act.put, List.setIfInBounds_toArray, List.set_cons_zero, List.set_cons_succ]
      refine wpAnyH_take (i := 19) (oi := ?oi19V32) (v := ?v19V32) ?hi19V32 (by kernel_rfl) (by kernel_rfl) (by kernel_rfl) ?hq19V32 (Or.inl ⟨?hw19V32, ?hy19V32⟩) (by assumption) ?rest19V32
      case hi19V32 => (simp only [List.getElem?_toArray, List.getElem?_cons_succ, List.getElem?_cons_zero]; rfl)
      case hq19V32 => exact fun _ _ _ h => h
      case hw19V32 => rfl
      case hy19V32 => (intro w hSw; (try dsimp only at hSw); go_simp <;> with_reducible rfl)
      try simp only [Act.put, List.setIfInBounds_toArray, List.set_cons_zero, List.set_cons_succ]
      refine wpAnyH_take (i := 21) (oi := ?oi21V32) (v := ?v21V32) ?hi21V32 (by kernel_rfl) (by kernel_rfl) (by kernel_rfl) ?hq21V32 (Or.inl ⟨?hw21V32, ?hy21V32⟩) (by assumption) ?rest21V32
      case hi21V32 => (simp only [List.getElem?_toArray, List.getElem?_cons_succ, List.getElem?_cons_zero]; rfl)
      case hq21V32 => exact fun _ _ _ h => h
      case hw21V32 => rfl
      case hy21V32 => (intro w hSw; (try dsimp only at hSw); go_simp <;> with_reducible rfl)
      try simp only [Act.put, List.setIfInBounds_toArray, List.set_cons_zero, List.set_cons_succ]
      refine wpAnyH_take (i := 22) (oi := ?oi22V32) (v := ?v22V32) ?hi22V32 (by kernel_rfl) (by kernel_rfl) (by kernel_rfl) ?hq22V32 (Or.inl ⟨?hw22V32, ?hy22V32⟩) (by assumption) ?rest22V32
      case hi22V32 => (simp only [List.getElem?_toArray, List.getElem?_cons_succ, List.getElem?_cons_zero]; rfl)
      case hq22V32 => exact fun _ _ _ h => h
      case hw22V32 => rfl
      case hy22V32 => (intro w hSw; (try dsimp only at hSw); go_simp <;> with_reducible rfl)
      try simp only [Act.put, List.setIfInBounds_toArray, List.set_cons_zero, List.set_cons_succ]
      refine wpAnyH_ready (rs := [20]) (by kernel_rfl) (by simp) ?_
      refine AllReadyH.cons (o := ?o20V32) ?hi20V32 (fun K hK => ?st20V32) AllReadyH.nil
      case hi20V32 => (simp only [List.getElem?_toArray, List.getElem?_cons_succ, List.getElem?_cons_zero]; rfl)
      go_simp
      refine (owner_any ON _).mono ?_
      rintro e w' ⟨rfl, hww⟩
      subst w'
      rw [hOW]
      go_wp2_with fail
      refine hK.out _ _ ⟨hSa4, hSb4⟩ (fun hHeld2 => ?_)
      clear hK K hHeld
      have hHeld := hHeld2
      clear hHeld2
      try simp only [Act.put, List.setIfInBounds_toArray, List.set_cons_zero, List.set_cons_succ]
      refine wpAnyH_take (i := 23) (oi := ?oi23V32) (v := ?v23V32) ?hi23V32 (by kernel_rfl) (by kernel_rfl) (by kernel_rfl) ?hq23V32 (Or.inl ⟨?hw23V32, ?hy23V32⟩) (by assumption) ?rest23V32
      case hi23V32 => (simp only [List.getElem?_toArray, List.getElem?_cons_succ, List.getElem?_cons_zero]; rfl)
      case hq23V32 => exact fun _ _ _ h => h
      case hw23V32 => rfl
      case hy23V32 => (intro w hSw; (try dsimp only at hSw); go_simp <;> with_reducible rfl)
      try simp only [Act.put, List.setIfInBounds_toArray, List.set_cons_zero, List.set_cons_succ]
      refine wpAnyH_take (i := 24) (oi := ?oi24V32) (v := ?v24V32) ?hi24V32 (by kernel_rfl) (by kernel_rfl) (by kernel_rfl) ?hq24V32 (Or.inl ⟨?hw24V32, ?hy24V32⟩) (by assumption) ?rest24V32
      case hi24V32 => (simp only [List.getElem?_toArray, List.getElem?_cons_succ, List.getElem?_cons_zero]; rfl)
      case hq24V32 => exact fun _ _ _ h => h
      case hw24V32 => rfl
      case hy24V32 => (intro w hSw; (try dsimp only at hSw); go_simp <;> with_reducible rfl)
      try simp only [Act.put, List.setIfInBounds_toArray, List.set_cons_zero, List.set_cons_succ]
      refine wpAnyH_take (i := 25) (oi := ?oi25V32) (v := ?v25V32) ?hi25V32 (by kernel_rfl) (by kernel_rfl) (by kernel_rfl) ?hq25V32 (Or.inl ⟨?hw25V32, ?hy25V32⟩) (by assumption) ?rest25V32
      case hi25V32 => (simp only [List.getElem?_toArray, List.getElem?_cons_succ, List.getElem?_cons_zero]; rfl)
      case hq25V32 => exact fun _ _ _ h => h
      case hw25V32 => rfl
      case hy25V32 => (intro w hSw; (try dsimp only at hSw); go_simp <;> with_reducible rfl)
      try simp only [Act.put, List.setIfInBounds_toArray, List.set_cons_zero, List.set_cons_succ]
      refine wpAnyH_take (i := 26) (oi := ?oi26V32) (v := ?v26V32) ?hi26V32 (by kernel_rfl) (by kernel_rfl) (by kernel_rfl) ?hq26V32 (Or.inl ⟨?hw26V32, ?hy26V32⟩) (by assumption) ?rest26V32
      case hi26V32 => (simp only [List.getElem?_toArray, List.getElem?_cons_succ, List.getElem?_cons_zero]; rfl)
      case hq26V32 => exact fun _ _ _ h => h
      case hw26V32 => rfl
      case hy26V32 => (intro w hSw; (try dsimp only at hSw); go_simp <;> with_reducible rfl)
      try simp only [Act.put, List.setIfInBounds_toArray, List.set_cons_zero, List.set_cons_succ]
      refine wpAnyH_take (i := 27) (oi := ?oi27V32) (v := ?v27V32) ?hi27V32 (by kernel_rfl) (by kernel_rfl) (by kernel_rfl) ?hq27V32 (Or.inl ⟨?hw27V32, ?hy27V32⟩) (by assumption) ?rest27V32
      case hi27V32 => (simp only [List.getElem?_toArray, List.getElem?_cons_succ, List.getElem?_cons_zero]; rfl)
      case hq27V32 => exact fun _ _ _ h => h
      case hw27V32 => rfl
      case hy27V32 => (intro w hSw; (try dsimp only at hSw); go_simp <;> with_reducible rfl)
      try simp only [Act.put, List.setIfInBounds_toArray, List.set_cons_zero, List.set_cons_succ]
      refine wpAnyH_take (i := 28) (oi := ?oi28V32) (v := ?v28V32) ?hi28V32 (by kernel_rfl) (by kernel_rfl) (by kernel_rfl) ?hq28V32 (Or.inl ⟨?hw28V32, ?hy28V32⟩) (by assumption) ?rest28V32
      case hi28V32 => (simp only [List.getElem?_toArray, List.getElem?_cons_succ, List.getElem?_cons_zero]; rfl)
      case hq28V32 => exact fun _ _ _ h => h
      case hw28V32 => rfl
      case hy28V32 => (intro w hSw; (try dsimp only at hSw); go_simp <;> with_reducible rfl)
      try simp only [Act.put, List.setIfInBounds_toArray, List.set_cons_zero, List.set_cons_succ]
      refine wpAnyH_take (i := 29) (oi := ?oi29V32) (v := ?v29V32) ?hi29V32 (by kernel_rfl) (by kernel_rfl) (by kernel_rfl) ?hq29V32 (Or.inl ⟨?hw29V32, ?hy29V32⟩) (by assumption) ?rest29V32
      case hi29V32 => (simp only [List.getElem?_toArray, List.getElem?_cons_succ, List.getElem?_cons_zero]; rfl)
      case hq29V32 => exact fun _ _ _ h => h
      case hw29V32 => rfl
      case hy29V32 => (intro w hSw; (try dsimp only at hSw); go_simp <;> with_reducible rfl)
      try simp only [Act.put, List.setIfInBounds_toArray, List.set_cons_zero, List.set_cons_succ]
      refine wpAnyH_done (by kernel_rfl) ?_ _
      rcases hf2 with ⟨h20, _⟩ | ⟨_, _, h2o, h2c, h2c', h2m, h2m'⟩
      · subst h20
        go_wp2
        go_ret
        exact ⟨by simp, hb4⟩
      have hz2 : (ON2 == 0) = false := beq_eq_false_iff_ne.2 (by omega)
      have hz2d : decide (ON2 = 0) = false := decide_eq_false (by omega)
      have hsm := order_same (a := c) (b := m) (c := c2) (d := m2) ⟨hcl, hch⟩ ⟨h2c, h2c'⟩
      rw [← hON'.out, ← h2o] at hsm
      clear h2o hON'
      by_cases q1 : c = c2
      case neg =>
        have hne : ¬ ON = ON2 := fun h => q1 (hsm.1 h).1
        have hd1 : decide (c = c2) = false := decide_eq_false q1
        have hd2 : decide (ON = ON2) = false := decide_eq_false hne
        have hd3 : (c == c2) = false := beq_eq_false_iff_ne.2 q1
        have hd4 : (ON == ON2) = false := beq_eq_false_iff_ne.2 hne
        clear hsm
        go_wp2
        go_ret
        exact ⟨by simp, hb4⟩
      by_cases q2 : m = m2
      case neg =>
        have hne : ¬ ON = ON2 := fun h => q2 (hsm.1 h).2
        have hd1 : decide (c = c2) = true := decide_eq_true q1
        have hd2 : decide (ON = ON2) = false := decide_eq_false hne
        have hd3 : (c == c2) = true := beq_iff_eq.2 q1
        have hd4 : (ON == ON2) = false := beq_eq_false_iff_ne.2 hne
        have hd5 : decide (m = m2) = false := decide_eq_false q2
        have hd6 : (m == m2) = false := beq_eq_false_iff_ne.2 q2
        clear hsm q1
        go_wp2
        go_ret
        exact ⟨by simp, hb4⟩
      have heq : ON = ON2 := hsm.2 ⟨q1, q2⟩
      have hd1 : decide (c = c2) = true := decide_eq_true q1
      have hd2 : decide (ON = ON2) = true := decide_eq_true heq
      have hd3 : (c == c2) = true := beq_iff_eq.2 q1
      have hd4 : (ON == ON2) = true := beq_iff_eq.2 heq
      have hd5 : decide (m = m2) = true := decide_eq_true q2
      have hd6 : (m == m2) = true := beq_iff_eq.2 q2
      clear hsm q1 q2 heq
      go_wp2
      go_ret
      exact ⟨by simp, hb4⟩
    have hr0 : (a2 == 0) = false := beq_eq_false_iff_ne.2 (by omega)
    have hr1 : ¬ a2 = 0 := by omega
    have hrem : wrap64 (Int.tmod c a2) = HO := by
      rw [← hHO]
      unfold homeN
      rw [if_pos (by omega), Int.tmod_eq_emod_of_nonneg h0]
      have hb1 := Int.emod_nonneg c (show a2 ≠ 0 by omega)
      have hb2 := Int.emod_lt_of_pos c (show 0 < a2 by omega)
      unfold wrap64
      omega
    have hrem2 : c % a2 = HO := by rw [← hHO]; unfold homeN; rw [if_pos (by omega)]
    go_enter Try.func9, Try.ntmps9
    have hSa0 := boxS (c := c) (m := m) (k := k) (o := o) (r := r) (t := t) (n := n) (g := g) (l := l) (A := A0) (cap := cap0) hbxa0
    have hSb0 := boxS (c := c2) (m := m2) (k := k2) (o := o2) (r := r2) (t := t2) (n := n2) (g := g2) (l := l2) (A := A1) (cap := cap1) hbxb0
    go_wp2_with fail
    refine wp_region_held_drew (S := (fun w' => (w'.cell? ⟨w.heap.size, 0, none⟩ = some (.int .i64 c) ∧ w'.cell? ⟨w.heap.size, 1, none⟩ = some (.int .i64 m) ∧ w'.cell? ⟨w.heap.size, 2, none⟩ = some (.int .i64 k) ∧ w'.cell? ⟨w.heap.size, 3, none⟩ = some (.int .i64 o) ∧ w'.cell? ⟨w.heap.size, 4, none⟩ = some (.int .i64 r) ∧ w'.cell? ⟨w.heap.size, 5, none⟩ = some (.int .i64 t) ∧ w'.cell? ⟨w.heap.size, 6, none⟩ = some (.int .i64 n) ∧ w'.cell? ⟨w.heap.size, 7, none⟩ = some (.string ⟨g.toArray⟩) ∧ w'.cell? ⟨w.heap.size, 8, none⟩ = some (.slice A0 l.length cap0)) ∧ (w'.cell? ⟨w.heap.size + 1, 0, none⟩ = some (.int .i64 c2) ∧ w'.cell? ⟨w.heap.size + 1, 1, none⟩ = some (.int .i64 m2) ∧ w'.cell? ⟨w.heap.size + 1, 2, none⟩ = some (.int .i64 k2) ∧ w'.cell? ⟨w.heap.size + 1, 3, none⟩ = some (.int .i64 o2) ∧ w'.cell? ⟨w.heap.size + 1, 4, none⟩ = some (.int .i64 r2) ∧ w'.cell? ⟨w.heap.size + 1, 5, none⟩ = some (.int .i64 t2) ∧ w'.cell? ⟨w.heap.size + 1, 6, none⟩ = some (.int .i64 n2) ∧ w'.cell? ⟨w.heap.size + 1, 7, none⟩ = some (.string ⟨g2.toArray⟩) ∧ w'.cell? ⟨w.heap.size + 1, 8, none⟩ = some (.slice A1 l2.length cap1)))) (by kernel_rfl) ⟨hSa0, hSb0⟩ (fun hHeld => ?_)
    refine wpAnyH_take (i := 0) (oi := ?oi0U33) (v := ?v0U33) ?hi0U33 (by kernel_rfl) (by kernel_rfl) (by kernel_rfl) ?hq0U33 (Or.inl ⟨?hw0U33, ?hy0U33⟩) (by assumption) ?rest0U33
    case hi0U33 => (simp only [List.getElem?_toArray, List.getElem?_cons_succ, List.getElem?_cons_zero]; rfl)
    case hq0U33 => exact fun _ _ _ h => h
    case hw0U33 => rfl
    case hy0U33 => (intro w hSw; (try dsimp only at hSw); go_simp <;> with_reducible rfl)
    try simp only [Act.put, List.setIfInBounds_toArray, List.set_cons_zero, List.set_cons_succ]
    refine wpAnyH_take (i := 2) (oi := ?oi2U33) (v := ?v2U33) ?hi2U33 (by kernel_rfl) (by kernel_rfl) (by kernel_rfl) ?hq2U33 (Or.inl ⟨?hw2U33, ?hy2U33⟩) (by assumption) ?rest2U33
    case hi2U33 => (simp only [List.getElem?_toArray, List.getElem?_cons_succ, List.getElem?_cons_zero]; rfl)
    case hq2U33 => exact fun _ _ _ h => h
    case hw2U33 => rfl
    case hy2U33 => (intro w hSw; (try dsimp only at hSw); go_simp <;> with_reducible rfl)
    try simp only [Act.put, List.setIfInBounds_toArray, List.set_cons_zero, List.set_cons_succ]
    refine wpAnyH_ready (rs := [1]) (by kernel_rfl) (by simp) ?_
    refine AllReadyH.cons (o := ?o1U33) ?hi1U33 (fun K hK => ?st1U33) AllReadyH.nil
    case hi1U33 => (simp only [List.getElem?_toArray, List.getElem?_cons_succ, List.getElem?_cons_zero]; rfl)
    go_simp
    refine (order_any ⟨c, m, k, o, r, t, n, g, l⟩ A0 cap0 _ hila0.drew hn).mono ?_
    rintro e w1 ⟨rfl, hx1⟩
    have hx1 : Below (((w.alloc (.cells (AV.cs ⟨c, m, k, o, r, t, n, g, l⟩ A0 cap0) 53)).alloc (.cells (AV.cs ⟨c2, m2, k2, o2, r2, t2, n2, g2, l2⟩ A1 cap1) 53)).drew).heap.size (((w.alloc (.cells (AV.cs ⟨c, m, k, o, r, t, n, g, l⟩ A0 cap0) 53)).alloc (.cells (AV.cs ⟨c2, m2, k2, o2, r2, t2, n2, g2, l2⟩ A1 cap1) 53)).drew) w1 := hx1
    have hb1 := (Below.drew hb0).trans (hx1.mono (Below.drew hb0).size)
    have hbxa1 := (hbxa0.drew).kept (Keep.of_below hx1) (fun h => absurd hbxa0.lt (Nat.not_lt.2 h))
    have hbxb1 := (hbxb0.drew).kept (Keep.of_below hx1) (fun h => absurd hbxb0.lt (Nat.not_lt.2 h))
    have hila1 := (hila0.drew).below hx1
    have hilb1 := (hilb0.drew).below hx1
    have hSa1 := boxS (c := c) (m := m) (k := k) (o := o) (r := r) (t := t) (n := n) (g := g) (l := l) (A := A0) (cap := cap0) hbxa1
    have hSb1 := boxS (c := c2) (m := m2) (k := k2) (o := o2) (r := r2) (t := t2) (n := n2) (g := g2) (l := l2) (A := A1) (cap := cap1) hbxb1
    rw [hON]
    go_wp2_with fail
    refine hK.out _ _ ⟨hSa1, hSb1⟩ (fun hHeld2 => ?_)
    clear hK K hHeld
    have hHeld := hHeld2
    clear hHeld2
    try simp only [Act.put, List.setIfInBounds_toArray, List.set_cons_zero, List.set_cons_succ]
    refine wpAnyH_ready (rs := [3]) (by kernel_rfl) (by simp) ?_
    refine AllReadyH.cons (o := ?o3U33) ?hi3U33 (fun K hK => ?st3U33) AllReadyH.nil
    case hi3U33 => (simp only [List.getElem?_toArray, List.getElem?_cons_succ, List.getElem?_cons_zero]; rfl)
    go_simp
    refine (order_any ⟨c2, m2, k2, o2, r2, t2, n2, g2, l2⟩ A1 cap1 _ hilb1 hn2).mono ?_
    rintro e w2 ⟨rfl, hx2⟩
    have hx2 : Below (w1).heap.size (w1) w2 := hx2
    have hb2 := hb1.trans (hx2.mono hb1.size)
    have hbxa2 := (hbxa1).kept (Keep.of_below hx2) (fun h => absurd hbxa1.lt (Nat.not_lt.2 h))
    have hbxb2 := (hbxb1).kept (Keep.of_below hx2) (fun h => absurd hbxb1.lt (Nat.not_lt.2 h))
    have hila2 := (hila1).below hx2
    have hilb2 := (hilb1).below hx2
    have hSa2 := boxS (c := c) (m := m) (k := k) (o := o) (r := r) (t := t) (n := n) (g := g) (l := l) (A := A0) (cap := cap0) hbxa2
    have hSb2 := boxS (c := c2) (m := m2) (k := k2) (o := o2) (r := r2) (t := t2) (n := n2) (g := g2) (l := l2) (A := A1) (cap := cap1) hbxb2
    rw [hON2]
    go_wp2_with fail
    refine hK.out _ _ ⟨hSa2, hSb2⟩ (fun hHeld2 => ?_)
    clear hK K hHeld
    have hHeld := hHeld2
    clear hHeld2
    try simp only [Act.put, List.setIfInBounds_toArray, List.set_cons_zero, List.set_cons_succ]
    refine wpAnyH_take (i := 4) (oi := ?oi4U33) (v := ?v4U33) ?hi4U33 (by kernel_rfl) (by kernel_rfl) (by kernel_rfl) ?hq4U33 (Or.inl ⟨?hw4U33, ?hy4U33⟩) (by assumption) ?rest4U33
    case hi4U33 => (simp only [List.getElem?_toArray, List.getElem?_cons_succ, List.getElem?_cons_zero]; rfl)
    case hq4U33 => exact fun _ _ _ h => h
    case hw4U33 => rfl
    case hy4U33 => (intro w hSw; (try dsimp only at hSw); go_simp <;> with_reducible rfl)
    try simp only [Act.put, List.setIfInBounds_toArray, List.set_cons_zero, List.set_cons_succ]
    refine wpAnyH_take (i := 5) (oi := ?oi5U33) (v := ?v5U33) ?hi5U33 (by kernel_rfl) (by kernel_rfl) (by kernel_rfl) ?hq5U33 (Or.inl ⟨?hw5U33, ?hy5U33⟩) (by assumption) ?rest5U33
    case hi5U33 => (simp only [List.getElem?_toArray, List.getElem?_cons_succ, List.getElem?_cons_zero]; rfl)
    case hq5U33 => exact fun _ _ _ h => h
    case hw5U33 => rfl
    case hy5U33 => (intro w hSw; (try dsimp only at hSw); go_simp <;> with_reducible rfl)
    try simp only [Act.put, List.setIfInBounds_toArray, List.set_cons_zero, List.set_cons_succ]
    refine wpAnyH_done (by kernel_rfl) ?_ _
    have key := raskmay_any ⟨c, m, k, o, r, t, n, g, l⟩ A0 cap0 w2 hila2 hwl0 hn hg7
    rw [hm] at key
    unfold AV.v at key
    dsimp only at key
    go_wp2_with fail
    refine key.mono ?_
    rintro e w3 ⟨rfl, hx3⟩
    clear key
    have hb3 := hb2.trans (hx3.mono hb2.size)
    have hbxa3 := hbxa2.kept (Keep.of_below hx3) (fun h => absurd hbxa2.lt (Nat.not_lt.2 h))
    have hbxb3 := hbxb2.kept (Keep.of_below hx3) (fun h => absurd hbxb2.lt (Nat.not_lt.2 h))
    have hila3 := hila2.below hx3
    have hilb3 := hilb2.below hx3
    clear hbxa2 hbxb2 hila2 hilb2 hSa2 hSb2
    have hSa3 := boxS (c := c) (m := m) (k := k) (o := o) (r := r) (t := t) (n := n) (g := g) (l := l) (A := A0) (cap := cap0) hbxa3
    have hSb3 := boxS (c := c2) (m := m2) (k := k2) (o := o2) (r := r2) (t := t2) (n := n2) (g := g2) (l := l2) (A := A1) (cap := cap1) hbxb3
    go_wp2_with fail
    try rw [hw1]
    try rw [hw2]
    try rw [← hON'.out]
    try rw [hrem]
    try rw [hrem2]
    refine wp_region_held_drew (S := (fun w' => (w'.cell? ⟨w.heap.size, 0, none⟩ = some (.int .i64 c) ∧ w'.cell? ⟨w.heap.size, 1, none⟩ = some (.int .i64 m) ∧ w'.cell? ⟨w.heap.size, 2, none⟩ = some (.int .i64 k) ∧ w'.cell? ⟨w.heap.size, 3, none⟩ = some (.int .i64 o) ∧ w'.cell? ⟨w.heap.size, 4, none⟩ = some (.int .i64 r) ∧ w'.cell? ⟨w.heap.size, 5, none⟩ = some (.int .i64 t) ∧ w'.cell? ⟨w.heap.size, 6, none⟩ = some (.int .i64 n) ∧ w'.cell? ⟨w.heap.size, 7, none⟩ = some (.string ⟨g.toArray⟩) ∧ w'.cell? ⟨w.heap.size, 8, none⟩ = some (.slice A0 l.length cap0)) ∧ (w'.cell? ⟨w.heap.size + 1, 0, none⟩ = some (.int .i64 c2) ∧ w'.cell? ⟨w.heap.size + 1, 1, none⟩ = some (.int .i64 m2) ∧ w'.cell? ⟨w.heap.size + 1, 2, none⟩ = some (.int .i64 k2) ∧ w'.cell? ⟨w.heap.size + 1, 3, none⟩ = some (.int .i64 o2) ∧ w'.cell? ⟨w.heap.size + 1, 4, none⟩ = some (.int .i64 r2) ∧ w'.cell? ⟨w.heap.size + 1, 5, none⟩ = some (.int .i64 t2) ∧ w'.cell? ⟨w.heap.size + 1, 6, none⟩ = some (.int .i64 n2) ∧ w'.cell? ⟨w.heap.size + 1, 7, none⟩ = some (.string ⟨g2.toArray⟩) ∧ w'.cell? ⟨w.heap.size + 1, 8, none⟩ = some (.slice A1 l2.length cap1)))) (by kernel_rfl) ⟨hSa3, hSb3⟩ (fun hHeld => ?_)
    refine wpAnyH_ready (rs := [0]) (by kernel_rfl) (by simp) ?_
    refine AllReadyH.cons (o := ?o0V33) ?hi0V33 (fun K hK => ?st0V33) AllReadyH.nil
    case hi0V33 => (simp only [List.getElem?_toArray, List.getElem?_cons_succ, List.getElem?_cons_zero]; rfl)
    go_simp
    refine (alives_any _).mono ?_
    rintro e w4 ⟨rfl, hx4⟩
    have hx4 : Below (w3.drew).heap.size (w3.drew) w4 := hx4
    have hb4 := (Below.drew hb3).trans (hx4.mono (Below.drew hb3).size)
    have hbxa4 := (hbxa3.drew).kept (Keep.of_below hx4) (fun h => absurd hbxa3.lt (Nat.not_lt.2 h))
    have hbxb4 := (hbxb3.drew).kept (Keep.of_below hx4) (fun h => absurd hbxb3.lt (Nat.not_lt.2 h))
    have hila4 := (hila3.drew).below hx4
    have hilb4 := (hilb3.drew).below hx4
    have hSa4 := boxS (c := c) (m := m) (k := k) (o := o) (r := r) (t := t) (n := n) (g := g) (l := l) (A := A0) (cap := cap0) hbxa4
    have hSb4 := boxS (c := c2) (m := m2) (k := k2) (o := o2) (r := r2) (t := t2) (n := n2) (g := g2) (l := l2) (A := A1) (cap := cap1) hbxb4
    go_wp2_with fail
    refine hK.out _ _ ⟨hSa4, hSb4⟩ (fun hHeld2 => ?_)
    clear hK K hHeld
    have hHeld := hHeld2
    clear hHeld2
    try simp only [Act.put, List.setIfInBounds_toArray, List.set_cons_zero, List.set_cons_succ]
    refine wpAnyH_take (i := 1) (oi := ?oi1V33) (v := ?v1V33) ?hi1V33 (by kernel_rfl) (by kernel_rfl) (by kernel_rfl) ?hq1V33 (Or.inl ⟨?hw1V33, ?hy1V33⟩) (by assumption) ?rest1V33
    case hi1V33 => (simp only [List.getElem?_toArray, List.getElem?_cons_succ, List.getElem?_cons_zero]; rfl)
    case hq1V33 => exact fun _ _ _ h => h
    case hw1V33 => rfl
    case hy1V33 => (intro w hSw; (try dsimp only at hSw); go_simp <;> with_reducible rfl)
    try simp only [Act.put, List.setIfInBounds_toArray, List.set_cons_zero, List.set_cons_succ]
    refine wpAnyH_take (i := 2) (oi := ?oi2V33) (v := ?v2V33) ?hi2V33 (by kernel_rfl) (by kernel_rfl) (by kernel_rfl) ?hq2V33 (Or.inl ⟨?hw2V33, ?hy2V33⟩) (by assumption) ?rest2V33
    case hi2V33 => (simp only [List.getElem?_toArray, List.getElem?_cons_succ, List.getElem?_cons_zero]; rfl)
    case hq2V33 => exact fun _ _ _ h => h
    case hw2V33 => rfl
    case hy2V33 => (intro w hSw; (try dsimp only at hSw); go_simp <;> with_reducible rfl)
    try simp only [Act.put, List.setIfInBounds_toArray, List.set_cons_zero, List.set_cons_succ]
    refine wpAnyH_take (i := 3) (oi := ?oi3V33) (v := ?v3V33) ?hi3V33 (by kernel_rfl) (by kernel_rfl) (by kernel_rfl) ?hq3V33 (Or.inl ⟨?hw3V33, ?hy3V33⟩) (by assumption) ?rest3V33
    case hi3V33 => (simp only [List.getElem?_toArray, List.getElem?_cons_succ, List.getElem?_cons_zero]; rfl)
    case hq3V33 => exact fun _ _ _ h => h
    case hw3V33 => rfl
    case hy3V33 => (intro w hSw; (try dsimp only at hSw); go_simp <;> with_reducible rfl)
    try simp only [Act.put, List.setIfInBounds_toArray, List.set_cons_zero, List.set_cons_succ]
    refine wpAnyH_take (i := 4) (oi := ?oi4V33) (v := ?v4V33) ?hi4V33 (by kernel_rfl) (by kernel_rfl) (by kernel_rfl) ?hq4V33 (Or.inl ⟨?hw4V33, ?hy4V33⟩) (by assumption) ?rest4V33
    case hi4V33 => (simp only [List.getElem?_toArray, List.getElem?_cons_succ, List.getElem?_cons_zero]; rfl)
    case hq4V33 => exact fun _ _ _ h => h
    case hw4V33 => rfl
    case hy4V33 => (intro w hSw; (try dsimp only at hSw); go_simp <;> with_reducible rfl)
    try simp only [Act.put, List.setIfInBounds_toArray, List.set_cons_zero, List.set_cons_succ]
    refine wpAnyH_take (i := 5) (oi := ?oi5V33) (v := ?v5V33) ?hi5V33 (by kernel_rfl) (by kernel_rfl) (by kernel_rfl) ?hq5V33 (Or.inl ⟨?hw5V33, ?hy5V33⟩) (by assumption) ?rest5V33
    case hi5V33 => (simp only [List.getElem?_toArray, List.getElem?_cons_succ, List.getElem?_cons_zero]; rfl)
    case hq5V33 => exact fun _ _ _ h => h
    case hw5V33 => rfl
    case hy5V33 => (intro w hSw; (try dsimp only at hSw); go_simp <;> with_reducible rfl)
    try simp only [Act.put, List.setIfInBounds_toArray, List.set_cons_zero, List.set_cons_succ]
    refine wpAnyH_take (i := 6) (oi := ?oi6V33) (v := ?v6V33) ?hi6V33 (by kernel_rfl) (by kernel_rfl) (by kernel_rfl) ?hq6V33 (Or.inl ⟨?hw6V33, ?hy6V33⟩) (by assumption) ?rest6V33
    case hi6V33 => (simp only [List.getElem?_toArray, List.getElem?_cons_succ, List.getElem?_cons_zero]; rfl)
    case hq6V33 => exact fun _ _ _ h => h
    case hw6V33 => rfl
    case hy6V33 => (intro w hSw; (try dsimp only at hSw); go_simp <;> with_reducible rfl)
    try simp only [Act.put, List.setIfInBounds_toArray, List.set_cons_zero, List.set_cons_succ]
    refine wpAnyH_take (i := 7) (oi := ?oi7V33) (v := ?v7V33) ?hi7V33 (by kernel_rfl) (by kernel_rfl) (by kernel_rfl) ?hq7V33 (Or.inl ⟨?hw7V33, ?hy7V33⟩) (by assumption) ?rest7V33
    case hi7V33 => (simp only [List.getElem?_toArray, List.getElem?_cons_succ, List.getElem?_cons_zero]; rfl)
    case hq7V33 => exact fun _ _ _ h => h
    case hw7V33 => rfl
    case hy7V33 => (intro w hSw; (try dsimp only at hSw); go_simp <;> with_reducible rfl)
    try simp only [Act.put, List.setIfInBounds_toArray, List.set_cons_zero, List.set_cons_succ]
    refine wpAnyH_take (i := 8) (oi := ?oi8V33) (v := ?v8V33) ?hi8V33 (by kernel_rfl) (by kernel_rfl) (by kernel_rfl) ?hq8V33 (Or.inl ⟨?hw8V33, ?hy8V33⟩) (by assumption) ?rest8V33
    case hi8V33 => (simp only [List.getElem?_toArray, List.getElem?_cons_succ, List.getElem?_cons_zero]; rfl)
    case hq8V33 => exact fun _ _ _ h => h
    case hw8V33 => rfl
    case hy8V33 => (intro w hSw; (try dsimp only at hSw); go_simp <;> with_reducible rfl)
    try simp only [Act.put, List.setIfInBounds_toArray, List.set_cons_zero, List.set_cons_succ]
    refine wpAnyH_take (i := 9) (oi := ?oi9V33) (v := ?v9V33) ?hi9V33 (by kernel_rfl) (by kernel_rfl) (by kernel_rfl) ?hq9V33 (Or.inl ⟨?hw9V33, ?hy9V33⟩) (by assumption) ?rest9V33
    case hi9V33 => (simp only [List.getElem?_toArray, List.getElem?_cons_succ, List.getElem?_cons_zero]; rfl)
    case hq9V33 => exact fun _ _ _ h => h
    case hw9V33 => rfl
    case hy9V33 => (intro w hSw; (try dsimp only at hSw); go_simp <;> with_reducible rfl)
    try simp only [Act.put, List.setIfInBounds_toArray, List.set_cons_zero, List.set_cons_succ]
    refine wpAnyH_take (i := 10) (oi := ?oi10V33) (v := ?v10V33) ?hi10V33 (by kernel_rfl) (by kernel_rfl) (by kernel_rfl) ?hq10V33 (Or.inl ⟨?hw10V33, ?hy10V33⟩) (by assumption) ?rest10V33
    case hi10V33 => (simp only [List.getElem?_toArray, List.getElem?_cons_succ, List.getElem?_cons_zero]; rfl)
    case hq10V33 => exact fun _ _ _ h => h
    case hw10V33 => rfl
    case hy10V33 => (intro w hSw; (try dsimp only at hSw); go_simp <;> with_reducible rfl)
    try simp only [Act.put, List.setIfInBounds_toArray, List.set_cons_zero, List.set_cons_succ]
    refine wpAnyH_take (i := 12) (oi := ?oi12V33) (v := ?v12V33) ?hi12V33 (by kernel_rfl) (by kernel_rfl) (by kernel_rfl) ?hq12V33 (Or.inl ⟨?hw12V33, ?hy12V33⟩) (by assumption) ?rest12V33
    case hi12V33 => (simp only [List.getElem?_toArray, List.getElem?_cons_succ, List.getElem?_cons_zero]; rfl)
    case hq12V33 => exact fun _ _ _ h => h
    case hw12V33 => rfl
    case hy12V33 => (intro w hSw; (try dsimp only at hSw); go_simp <;> with_reducible rfl)
    try simp only [Act.put, List.setIfInBounds_toArray, List.set_cons_zero, List.set_cons_succ]
    refine wpAnyH_ready (rs := [11]) (by kernel_rfl) (by simp) ?_
    refine AllReadyH.cons (o := ?o11V33) ?hi11V33 (fun K hK => ?st11V33) AllReadyH.nil
    case hi11V33 => (simp only [List.getElem?_toArray, List.getElem?_cons_succ, List.getElem?_cons_zero]; rfl)
    go_simp
    refine (home_any c a2 _ hr2).mono ?_
    rintro e w' ⟨rfl, hww⟩
    subst w'
    rw [hHO]
    go_wp2_with fail
    refine hK.out _ _ ⟨hSa4, hSb4⟩ (fun hHeld2 => ?_)
    clear hK K hHeld
    have hHeld := hHeld2
    clear hHeld2
    try simp only [Act.put, List.setIfInBounds_toArray, List.set_cons_zero, List.set_cons_succ]
    refine wpAnyH_take (i := 13) (oi := ?oi13V33) (v := ?v13V33) ?hi13V33 (by kernel_rfl) (by kernel_rfl) (by kernel_rfl) ?hq13V33 (Or.inl ⟨?hw13V33, ?hy13V33⟩) (by assumption) ?rest13V33
    case hi13V33 => (simp only [List.getElem?_toArray, List.getElem?_cons_succ, List.getElem?_cons_zero]; rfl)
    case hq13V33 => exact fun _ _ _ h => h
    case hw13V33 => rfl
    case hy13V33 => (intro w hSw; (try dsimp only at hSw); go_simp <;> with_reducible rfl)
    try simp only [Act.put, List.setIfInBounds_toArray, List.set_cons_zero, List.set_cons_succ]
    refine wpAnyH_take (i := 14) (oi := ?oi14V33) (v := ?v14V33) ?hi14V33 (by kernel_rfl) (by kernel_rfl) (by kernel_rfl) ?hq14V33 (Or.inl ⟨?hw14V33, ?hy14V33⟩) (by assumption) ?rest14V33
    case hi14V33 => (simp only [List.getElem?_toArray, List.getElem?_cons_succ, List.getElem?_cons_zero]; rfl)
    case hq14V33 => exact fun _ _ _ h => h
    case hw14V33 => rfl
    case hy14V33 => (intro w hSw; (try dsimp only at hSw); go_simp <;> with_reducible rfl)
    try simp only [Act.put, List.setIfInBounds_toArray, List.set_cons_zero, List.set_cons_succ]
    refine wpAnyH_take (i := 15) (oi := ?oi15V33) (v := ?v15V33) ?hi15V33 (by kernel_rfl) (by kernel_rfl) (by kernel_rfl) ?hq15V33 (Or.inl ⟨?hw15V33, ?hy15V33⟩) (by assumption) ?rest15V33
    case hi15V33 => (simp only [List.getElem?_toArray, List.getElem?_cons_succ, List.getElem?_cons_zero]; rfl)
    case hq15V33 => exact fun _ _ _ h => h
    case hw15V33 => rfl
    case hy15V33 => (intro w hSw; (try dsimp only at hSw); go_simp <;> with_reducible rfl)
    try simp only [Act.put, List.setIfInBounds_toArray, List.set_cons_zero, List.set_cons_succ]
    refine wpAnyH_take (i := 16) (oi := ?oi16V33) (v := ?v16V33) ?hi16V33 (by kernel_rfl) (by kernel_rfl) (by kernel_rfl) ?hq16V33 (Or.inl ⟨?hw16V33, ?hy16V33⟩) (by assumption) ?rest16V33
    case hi16V33 => (simp only [List.getElem?_toArray, List.getElem?_cons_succ, List.getElem?_cons_zero]; rfl)
    case hq16V33 => exact fun _ _ _ h => h
    case hw16V33 => rfl
    case hy16V33 => (intro w hSw; (try dsimp only at hSw); go_simp <;> with_reducible rfl)
    try simp only [Act.put, List.setIfInBounds_toArray, List.set_cons_zero, List.set_cons_succ]
    refine wpAnyH_take (i := 17) (oi := ?oi17V33) (v := ?v17V33) ?hi17V33 (by kernel_rfl) (by kernel_rfl) (by kernel_rfl) ?hq17V33 (Or.inl ⟨?hw17V33, ?hy17V33⟩) (by assumption) ?rest17V33
    case hi17V33 => (simp only [List.getElem?_toArray, List.getElem?_cons_succ, List.getElem?_cons_zero]; rfl)
    case hq17V33 => exact fun _ _ _ h => h
    case hw17V33 => rfl
    case hy17V33 => (intro w hSw; (try dsimp only at hSw); go_simp <;> with_reducible rfl)
    try simp only [Act.put, List.setIfInBounds_toArray, List.set_cons_zero, List.set_cons_succ]
    refine wpAnyH_take (i := 18) (oi := ?oi18V33) (v := ?v18V33) ?hi18V33 (by kernel_rfl) (by kernel_rfl) (by kernel_rfl) ?hq18V33 (Or.inl ⟨?hw18V33, ?hy18V33⟩) (by assumption) ?rest18V33
    case hi18V33 => (simp only [List.getElem?_toArray, List.getElem?_cons_succ, List.getElem?_cons_zero]; rfl)
    case hq18V33 => exact fun _ _ _ h => h
    case hw18V33 => rfl
    case hy18V33 => (intro w hSw; (try dsimp only at hSw); go_simp <;> with_reducible rfl)
    try simp only [Act.put, List.setIfInBounds_toArray, List.set_cons_zero, List.set_cons_succ]
    refine wpAnyH_take (i := 19) (oi := ?oi19V33) (v := ?v19V33) ?hi19V33 (by kernel_rfl) (by kernel_rfl) (by kernel_rfl) ?hq19V33 (Or.inl ⟨?hw19V33, ?hy19V33⟩) (by assumption) ?rest19V33
    case hi19V33 => (simp only [List.getElem?_toArray, List.getElem?_cons_succ, List.getElem?_cons_zero]; rfl)
    case hq19V33 => exact fun _ _ _ h => h
    case hw19V33 => rfl
    case hy19V33 => (intro w hSw; (try dsimp only at hSw); go_simp <;> with_reducible rfl)
    try simp only [Act.put, List.setIfInBounds_toArray, List.set_cons_zero, List.set_cons_succ]
    refine wpAnyH_take (i := 21) (oi := ?oi21V33) (v := ?v21V33) ?hi21V33 (by kernel_rfl) (by kernel_rfl) (by kernel_rfl) ?hq21V33 (Or.inl ⟨?hw21V33, ?hy21V33⟩) (by assumption) ?rest21V33
    case hi21V33 => (simp only [List.getElem?_toArray, List.getElem?_cons_succ, List.getElem?_cons_zero]; rfl)
    case hq21V33 => exact fun _ _ _ h => h
    case hw21V33 => rfl
    case hy21V33 => (intro w hSw; (try dsimp only at hSw); go_simp <;> with_reducible rfl)
    try simp only [Act.put, List.setIfInBounds_toArray, List.set_cons_zero, List.set_cons_succ]
    refine wpAnyH_take (i := 22) (oi := ?oi22V33) (v := ?v22V33) ?hi22V33 (by kernel_rfl) (by kernel_rfl) (by kernel_rfl) ?hq22V33 (Or.inl ⟨?hw22V33, ?hy22V33⟩) (by assumption) ?rest22V33
    case hi22V33 => (simp only [List.getElem?_toArray, List.getElem?_cons_succ, List.getElem?_cons_zero]; rfl)
    case hq22V33 => exact fun _ _ _ h => h
    case hw22V33 => rfl
    case hy22V33 => (intro w hSw; (try dsimp only at hSw); go_simp <;> with_reducible rfl)
    try simp only [Act.put, List.setIfInBounds_toArray, List.set_cons_zero, List.set_cons_succ]
    refine wpAnyH_ready (rs := [20]) (by kernel_rfl) (by simp) ?_
    refine AllReadyH.cons (o := ?o20V33) ?hi20V33 (fun K hK => ?st20V33) AllReadyH.nil
    case hi20V33 => (simp only [List.getElem?_toArray, List.getElem?_cons_succ, List.getElem?_cons_zero]; rfl)
    go_simp
    refine (owner_any ON _).mono ?_
    rintro e w' ⟨rfl, hww⟩
    subst w'
    rw [hOW]
    go_wp2_with fail
    refine hK.out _ _ ⟨hSa4, hSb4⟩ (fun hHeld2 => ?_)
    clear hK K hHeld
    have hHeld := hHeld2
    clear hHeld2
    try simp only [Act.put, List.setIfInBounds_toArray, List.set_cons_zero, List.set_cons_succ]
    refine wpAnyH_take (i := 23) (oi := ?oi23V33) (v := ?v23V33) ?hi23V33 (by kernel_rfl) (by kernel_rfl) (by kernel_rfl) ?hq23V33 (Or.inl ⟨?hw23V33, ?hy23V33⟩) (by assumption) ?rest23V33
    case hi23V33 => (simp only [List.getElem?_toArray, List.getElem?_cons_succ, List.getElem?_cons_zero]; rfl)
    case hq23V33 => exact fun _ _ _ h => h
    case hw23V33 => rfl
    case hy23V33 => (intro w hSw; (try dsimp only at hSw); go_simp <;> with_reducible rfl)
    try simp only [Act.put, List.setIfInBounds_toArray, List.set_cons_zero, List.set_cons_succ]
    refine wpAnyH_take (i := 24) (oi := ?oi24V33) (v := ?v24V33) ?hi24V33 (by kernel_rfl) (by kernel_rfl) (by kernel_rfl) ?hq24V33 (Or.inl ⟨?hw24V33, ?hy24V33⟩) (by assumption) ?rest24V33
    case hi24V33 => (simp only [List.getElem?_toArray, List.getElem?_cons_succ, List.getElem?_cons_zero]; rfl)
    case hq24V33 => exact fun _ _ _ h => h
    case hw24V33 => rfl
    case hy24V33 => (intro w hSw; (try dsimp only at hSw); go_simp <;> with_reducible rfl)
    try simp only [Act.put, List.setIfInBounds_toArray, List.set_cons_zero, List.set_cons_succ]
    refine wpAnyH_take (i := 25) (oi := ?oi25V33) (v := ?v25V33) ?hi25V33 (by kernel_rfl) (by kernel_rfl) (by kernel_rfl) ?hq25V33 (Or.inl ⟨?hw25V33, ?hy25V33⟩) (by assumption) ?rest25V33
    case hi25V33 => (simp only [List.getElem?_toArray, List.getElem?_cons_succ, List.getElem?_cons_zero]; rfl)
    case hq25V33 => exact fun _ _ _ h => h
    case hw25V33 => rfl
    case hy25V33 => (intro w hSw; (try dsimp only at hSw); go_simp <;> with_reducible rfl)
    try simp only [Act.put, List.setIfInBounds_toArray, List.set_cons_zero, List.set_cons_succ]
    refine wpAnyH_take (i := 26) (oi := ?oi26V33) (v := ?v26V33) ?hi26V33 (by kernel_rfl) (by kernel_rfl) (by kernel_rfl) ?hq26V33 (Or.inl ⟨?hw26V33, ?hy26V33⟩) (by assumption) ?rest26V33
    case hi26V33 => (simp only [List.getElem?_toArray, List.getElem?_cons_succ, List.getElem?_cons_zero]; rfl)
    case hq26V33 => exact fun _ _ _ h => h
    case hw26V33 => rfl
    case hy26V33 => (intro w hSw; (try dsimp only at hSw); go_simp <;> with_reducible rfl)
    try simp only [Act.put, List.setIfInBounds_toArray, List.set_cons_zero, List.set_cons_succ]
    refine wpAnyH_take (i := 27) (oi := ?oi27V33) (v := ?v27V33) ?hi27V33 (by kernel_rfl) (by kernel_rfl) (by kernel_rfl) ?hq27V33 (Or.inl ⟨?hw27V33, ?hy27V33⟩) (by assumption) ?rest27V33
    case hi27V33 => (simp only [List.getElem?_toArray, List.getElem?_cons_succ, List.getElem?_cons_zero]; rfl)
    case hq27V33 => exact fun _ _ _ h => h
    case hw27V33 => rfl
    case hy27V33 => (intro w hSw; (try dsimp only at hSw); go_simp <;> with_reducible rfl)
    try simp only [Act.put, List.setIfInBounds_toArray, List.set_cons_zero, List.set_cons_succ]
    refine wpAnyH_take (i := 28) (oi := ?oi28V33) (v := ?v28V33) ?hi28V33 (by kernel_rfl) (by kernel_rfl) (by kernel_rfl) ?hq28V33 (Or.inl ⟨?hw28V33, ?hy28V33⟩) (by assumption) ?rest28V33
    case hi28V33 => (simp only [List.getElem?_toArray, List.getElem?_cons_succ, List.getElem?_cons_zero]; rfl)
    case hq28V33 => exact fun _ _ _ h => h
    case hw28V33 => rfl
    case hy28V33 => (intro w hSw; (try dsimp only at hSw); go_simp <;> with_reducible rfl)
    try simp only [Act.put, List.setIfInBounds_toArray, List.set_cons_zero, List.set_cons_succ]
    refine wpAnyH_take (i := 29) (oi := ?oi29V33) (v := ?v29V33) ?hi29V33 (by kernel_rfl) (by kernel_rfl) (by kernel_rfl) ?hq29V33 (Or.inl ⟨?hw29V33, ?hy29V33⟩) (by assumption) ?rest29V33
    case hi29V33 => (simp only [List.getElem?_toArray, List.getElem?_cons_succ, List.getElem?_cons_zero]; rfl)
    case hq29V33 => exact fun _ _ _ h => h
    case hw29V33 => rfl
    case hy29V33 => (intro w hSw; (try dsimp only at hSw); go_simp <;> with_reducible rfl)
    try simp only [Act.put, List.setIfInBounds_toArray, List.set_cons_zero, List.set_cons_succ]
    refine wpAnyH_done (by kernel_rfl) ?_ _
    rcases hf2 with ⟨h20, _⟩ | ⟨_, _, h2o, h2c, h2c', h2m, h2m'⟩
    · subst h20
      go_wp2
      go_ret
      exact ⟨by simp, hb4⟩
    have hz2 : (ON2 == 0) = false := beq_eq_false_iff_ne.2 (by omega)
    have hz2d : decide (ON2 = 0) = false := decide_eq_false (by omega)
    have hsm := order_same (a := c) (b := m) (c := c2) (d := m2) ⟨hcl, hch⟩ ⟨h2c, h2c'⟩
    rw [← hON'.out, ← h2o] at hsm
    clear h2o hON'
    by_cases q1 : c = c2
    case neg =>
      have hne : ¬ ON = ON2 := fun h => q1 (hsm.1 h).1
      have hd1 : decide (c = c2) = false := decide_eq_false q1
      have hd2 : decide (ON = ON2) = false := decide_eq_false hne
      have hd3 : (c == c2) = false := beq_eq_false_iff_ne.2 q1
      have hd4 : (ON == ON2) = false := beq_eq_false_iff_ne.2 hne
      clear hsm
      go_wp2
      go_ret
      exact ⟨by simp, hb4⟩
    by_cases q2 : m = m2
    case neg =>
      have hne : ¬ ON = ON2 := fun h => q2 (hsm.1 h).2
      have hd1 : decide (c = c2) = true := decide_eq_true q1
      have hd2 : decide (ON = ON2) = false := decide_eq_false hne
      have hd3 : (c == c2) = true := beq_iff_eq.2 q1
      have hd4 : (ON == ON2) = false := beq_eq_false_iff_ne.2 hne
      have hd5 : decide (m = m2) = false := decide_eq_false q2
      have hd6 : (m == m2) = false := beq_eq_false_iff_ne.2 q2
      clear hsm q1
      go_wp2
      go_ret
      exact ⟨by simp, hb4⟩
    have heq : ON = ON2 := hsm.2 ⟨q1, q2⟩
    have hd1 : decide (c = c2) = true := decide_eq_true q1
    have hd2 : decide (ON = ON2) = true := decide_eq_true heq
    have hd3 : (c == c2) = true := beq_iff_eq.2 q1
    have hd4 : (ON == ON2) = true := beq_iff_eq.2 heq
    have hd5 : decide (m = m2) = true := decide_eq_true q2
    have hd6 : (m == m2) = true := beq_iff_eq.2 q2
    clear hsm q1 q2 heq
    go_wp2
    go_ret
    exact ⟨by simp, hb4⟩

namespace askOrdersDone
open Go.ChangeShapes Go.WideShapes Go.ChangeAt
set_option maxRecDepth 100000 in
theorem lifted (os : Os) (started : os.Started) (H : Type) (enc : TypeId × Value → H) :
    ReturnsInHanded {} Try.checked os 9 .any (Rows.askOrdersSpec.pre6 enc Try.prog Try.f9 Rows.askOrdersRow.domain false) (Rows.askOrdersSpec.post enc Try.prog Try.f9 false true false false) := by
  refine returnsInHanded_of_change_sized (C := Try.checked) own started (by kernel_rfl) Try.func9
    (ChangeSpec.witness6 (enc := enc) (C := Try.checked) false ⟨#[], #[Value.agg #[.int .i64 0, .int .i64 0, .int .i64 0, .int .i64 0, .int .i64 0, .int .i64 0, .int .i64 0, .string ⟨#[]⟩, .slice none 0 0], Value.agg #[.int .i64 0, .int .i64 0, .int .i64 0, .int .i64 0, .int .i64 0, .int .i64 0, .int .i64 0, .string ⟨#[]⟩, .slice none 0 0], Value.int .i64 0], []⟩ 8 (by kernel_rfl) (by kernel_rfl) (by kernel_rfl) (by kernel_rfl)) ?_
  intro W base args ds gs before hval0 hW hcnd hsz0 _
  have hsz : (DataW.weightsEach Try.prog (Try.f9.params.toList ++ Rows.askOrdersSpec.plain.varTypes Try.prog) (ds ++ gs)).all (· ≤ reachBytes) = true := hsz0
  clear hsz0
  have hval : ∀ (j : Nat) t v, Try.f9.params[j]? = some t → args[j]? = some v → Value.okWide Try.prog W .any base t v := hval0
  have hW' := hW
  obtain ⟨p, q, hA0, hV, rfl, hfz, hnd⟩ := hW
  have hA : DataW.TrodAll enc Try.prog W 0 (fun _ => true) true Try.f9.params.toList args.toList ds p := hA0
  rw [Try.params9] at hA hval hsz
  obtain ⟨v0, vs0, d0, ds0, p0, q0, hargs, rfl, rfl, h0, r0⟩ := trodAll_cons hA
  obtain ⟨v1, vs1, d1, ds1, p1, q1, rfl, rfl, rfl, h1, r1⟩ := trodAll_cons r0
  obtain ⟨v2, vs2, d2, ds2, p2, q2, rfl, rfl, rfl, h2, r2⟩ := trodAll_cons r1
  obtain ⟨rfl, rfl, rfl⟩ := trodAll_nil r2
  obtain rfl : args = #[v0, v1, v2] := by cases args; simp_all
  obtain ⟨rfl, rfl⟩ := trodVars_none hV
  obtain ⟨y0, A0, cap0, rfl, hil0, hwl0, hwf0⟩ := ask_open (hval 0 53 v0 rfl rfl) h0
  have k0' := h0
  have lt0 : ∀ x ∈ p0, x.block < W.heap.size := by obtain ⟨m, hm⟩ := h0; exact DataW.trod_lt m _ _ _ hm
  obtain ⟨y1, A1, cap1, rfl, hil1, hwl1, hwf1⟩ := ask_open (hval 1 53 v1 rfl rfl) h1
  have k1' := h1
  have lt1 : ∀ x ∈ p1, x.block < W.heap.size := by obtain ⟨m, hm⟩ := h1; exact DataW.trod_lt m _ _ _ hm
  obtain ⟨a2, rfl, rfl, rfl, w2⟩ := open_int Try.underlying3 (hval 2 3 v2 rfl rfl) h2
  clear hA0 hval0
  refine (askOrders_walk (w := W) y0 A0 cap0 hil0 hwl0 hwf0 y1 A1 cap1 hil1 hwl1 hwf1 a2 w2).mono fun e W' ⟨he, bel⟩ => ?_
  subst he
  exact ⟨_, rfl, _, _, _, [], _, [], hW', trodAll_mk1 (shut_bool Try.underlying4 _), (trodAll_cons_mk (Below.trod laidOut (by kernel_rfl) (of_decide_eq_true (by kernel_rfl)) k0' bel lt0) (trodAll_cons_mk (Below.trod laidOut (by kernel_rfl) (of_decide_eq_true (by kernel_rfl)) k1' bel lt1) (trodAll_cons_mk (shut_int Try.underlying3 w2) trodAll_mk0))), rfl, bel.frame _, fun h => by cases h⟩

theorem over : Rows.askOrdersRow.holds Try.pinned (OpenSpec.ofChange Rows.askOrdersSpec) :=
  OpenClaim.holds_of_wide 9 Try.f9 rfl rfl rfl rfl rfl rfl rfl ⟨rfl, rfl, rfl, rfl, rfl⟩ rfl rfl rfl rfl rfl (by kernel_rfl) Try.func9 (by kernel_rfl)
    (of_decide_eq_true (by kernel_rfl)) (by unfold Func.isWrapper; first | (rw [if_pos (by decide +kernel)]; kernel_rfl) | (rw [if_neg (by decide +kernel)]; exact ⟨rfl, rfl⟩))
    (fun os started H enc _ => lifted os started H enc)

/-- The statement. -/
theorem proved : Rows.AskOrdersSaid := over
end askOrdersDone
end Go.Proofs.Ytejpabeamjhmjaa
