/- 'AskSame' returns true for every input: the row of this law, proved. No condition. -/
import Derived.Test.YtejpabeamjhmjaaAOpen
import Derived.ProofKit
import Derived.OpenShut
import Derived.ShutString
import Derived.ChangeOld
import Derived.SizedLaws
namespace Go.Proofs.Ytejpabeamjhmjaa
open Go.RowKit
set_option linter.unusedVariables false
set_option linter.unusedSimpArgs false
theorem encA_inj {x y : AV} (hx : mayA x = true) (hy : mayA y = true) : (encA x = encA y) ↔ x = y := by
  constructor
  · intro h
    have h1 := decA_enc hx
    rw [h, decA_enc hy] at h1
    exact (Option.some.inj h1).symm
  · intro h
    rw [h]
theorem two_boxes (w : World) (cs cs2 : Array Value) : Blk ((w.alloc (.cells cs 53)).alloc (.cells cs2 53)) w.heap.size 53 cs ∧ Blk ((w.alloc (.cells cs 53)).alloc (.cells cs2 53)) (w.heap.size + 1) 53 cs2 ∧ Below w.heap.size w ((w.alloc (.cells cs 53)).alloc (.cells cs2 53)) := by
  refine ⟨(Blk.new _ _ _).alloc _, ?_, ((Below.refl w.heap.size w).alloc (Nat.le_refl _) _).alloc (by simp only [World.size_alloc]; omega) _⟩
  have := Blk.new (w.alloc (.cells cs 53)) 53 cs2
  rw [World.size_alloc] at this
  exact this
set_option maxRecDepth 100000 in
set_option maxHeartbeats 12800000 in
theorem askSame_walk {w : World} (y0 : AV) (A0 : Option Addr) (cap0 : Nat) (hil0 : IL w A0 y0.l.length y0.l) (hwl0 : WL y0.l) (hwf0 : WFA y0) (y1 : AV) (A1 : Option Addr) (cap1 : Nat) (hil1 : IL w A1 y1.l.length y1.l) (hwl1 : WL y1.l) (hwf1 : WFA y1) (a2 : Int) (w2 : (Lit.int .i64 a2).wf = true) :
    Calls Try.prog 10 #[y0.v A0 cap0, y1.v A1 cap1, .int .i64 a2] w fun e w' => e = .returned (.bool true) ∧ Below w.heap.size w w' := by
  have hn := hwf0.n
  have hn2 := hwf1.n
  clear hwl0 hwl1 hwf0 hwf1
  obtain ⟨c, m, k, o, r, t, n, g, l⟩ := y0
  obtain ⟨c2, m2, k2, o2, r2, t2, n2, g2, l2⟩ := y1
  dsimp only at hil0 hil1 hn hn2
  obtain ⟨hbxa0, hbxb0, hb0⟩ := two_boxes w (AV.cs ⟨c, m, k, o, r, t, n, g, l⟩ A0 cap0) (AV.cs ⟨c2, m2, k2, o2, r2, t2, n2, g2, l2⟩ A1 cap1)
  have hila0 := (hil0.alloc (.cells (AV.cs ⟨c, m, k, o, r, t, n, g, l⟩ A0 cap0) 53)).alloc (.cells (AV.cs ⟨c2, m2, k2, o2, r2, t2, n2, g2, l2⟩ A1 cap1) 53)
  have hilb0 := (hil1.alloc (.cells (AV.cs ⟨c, m, k, o, r, t, n, g, l⟩ A0 cap0) 53)).alloc (.cells (AV.cs ⟨c2, m2, k2, o2, r2, t2, n2, g2, l2⟩ A1 cap1) 53)
  clear hil0 hil1
  unfold AV.v
  unfold AV.cs at hbxa0 hbxb0 hb0 hila0 hilb0
  dsimp only at hbxa0 hbxb0 hb0 hila0 hilb0 ⊢
  obtain ⟨HH, hHH⟩ : ∃ H, hasL a2 = H := ⟨_, rfl⟩
  by_cases len1 : 100 < l.length
  · have g1z : (100 : Int) < (l.length : Int) := by omega
    go_enter Try.func10, Try.ntmps10
    go_wp2_with fail
    refine (alives_any _).mono ?_
    rintro e w1 ⟨rfl, hx1⟩
    have hb1 := hb0.trans (hx1.mono hb0.size)
    go_wp2
    go_ret
    exact ⟨rfl, hb1⟩
  have g1z : ¬ (100 : Int) < (l.length : Int) := by omega
  by_cases len2 : 100 < l2.length
  · have g2z : (100 : Int) < (l2.length : Int) := by omega
    go_enter Try.func10, Try.ntmps10
    go_wp2_with fail
    refine (alives_any _).mono ?_
    rintro e w1 ⟨rfl, hx1⟩
    have hb1 := hb0.trans (hx1.mono hb0.size)
    go_wp2
    go_ret
    exact ⟨rfl, hb1⟩
  have g2z : ¬ (100 : Int) < (l2.length : Int) := by omega
  obtain ⟨z, hz⟩ : ∃ z, sameA ⟨c, m, k, o, r, t, n, g, l⟩ ⟨c2, m2, k2, o2, r2, t2, n2, g2, l2⟩ = z := ⟨_, rfl⟩
  cases hma : mayA ⟨c, m, k, o, r, t, n, g, l⟩ with
  | false =>
    cases hmb : mayA ⟨c2, m2, k2, o2, r2, t2, n2, g2, l2⟩ with
    | false =>
      go_enter Try.func10, Try.ntmps10
      have key := askencode_any ⟨c, m, k, o, r, t, n, g, l⟩ A0 cap0 ((w.alloc (.cells (AV.cs ⟨c, m, k, o, r, t, n, g, l⟩ A0 cap0) 53)).alloc (.cells (AV.cs ⟨c2, m2, k2, o2, r2, t2, n2, g2, l2⟩ A1 cap1) 53)) hila0 hn
      rw [hma] at key
      unfold AV.v at key
      dsimp only at key
      have hSa0 := boxS (c := c) (m := m) (k := k) (o := o) (r := r) (t := t) (n := n) (g := g) (l := l) (A := A0) (cap := cap0) hbxa0
      have hSb0 := boxS (c := c2) (m := m2) (k := k2) (o := o2) (r := r2) (t := t2) (n := n2) (g := g2) (l := l2) (A := A1) (cap := cap1) hbxb0
      go_wp2_with fail
      refine key.mono ?_
      rintro e w1 ⟨hx1, h1⟩
      clear key
      dsimp only at h1
      subst h1
      have hb1 := hb0.trans (hx1.mono hb0.size)
      have hbxa1 := hbxa0.kept (Keep.of_below hx1) (fun h => absurd hbxa0.lt (Nat.not_lt.2 h))
      have hbxb1 := hbxb0.kept (Keep.of_below hx1) (fun h => absurd hbxb0.lt (Nat.not_lt.2 h))
      have hila1 := hila0.below hx1
      have hilb1 := hilb0.below hx1
      clear hbxa0 hbxb0 hila0 hilb0 hSa0 hSb0
      have key := askencode_any ⟨c2, m2, k2, o2, r2, t2, n2, g2, l2⟩ A1 cap1 w1 hilb1 hn2
      rw [hmb] at key
      unfold AV.v at key
      dsimp only at key
      have hSa1 := boxS (c := c) (m := m) (k := k) (o := o) (r := r) (t := t) (n := n) (g := g) (l := l) (A := A0) (cap := cap0) hbxa1
      have hSb1 := boxS (c := c2) (m := m2) (k := k2) (o := o2) (r := r2) (t := t2) (n := n2) (g := g2) (l := l2) (A := A1) (cap := cap1) hbxb1
      go_wp2_with fail
      refine key.mono ?_
      rintro e w2 ⟨hx2, h1⟩
      clear key
      dsimp only at h1
      subst h1
      have hb2 := hb1.trans (hx2.mono hb1.size)
      have hbxa2 := hbxa1.kept (Keep.of_below hx2) (fun h => absurd hbxa1.lt (Nat.not_lt.2 h))
      have hbxb2 := hbxb1.kept (Keep.of_below hx2) (fun h => absurd hbxb1.lt (Nat.not_lt.2 h))
      have hila2 := hila1.below hx2
      have hilb2 := hilb1.below hx2
      clear hbxa1 hbxb1 hila1 hilb1 hSa1 hSb1
      have key := rsame_any ⟨c, m, k, o, r, t, n, g, l⟩ ⟨c2, m2, k2, o2, r2, t2, n2, g2, l2⟩ A0 A1 cap0 cap1 w2 hila2 hilb2 hn
      rw [hz] at key
      unfold AV.v at key
      dsimp only at key
      have hSa2 := boxS (c := c) (m := m) (k := k) (o := o) (r := r) (t := t) (n := n) (g := g) (l := l) (A := A0) (cap := cap0) hbxa2
      have hSb2 := boxS (c := c2) (m := m2) (k := k2) (o := o2) (r := r2) (t := t2) (n := n2) (g := g2) (l := l2) (A := A1) (cap := cap1) hbxb2
      go_wp2_with fail
      refine key.mono ?_
      rintro e w3 ⟨rfl, hx3⟩
      clear key
      have hb3 := hb2.trans (hx3.mono hb2.size)
      have hbxa3 := hbxa2.kept (Keep.of_below hx3) (fun h => absurd hbxa2.lt (Nat.not_lt.2 h))
      have hbxb3 := hbxb2.kept (Keep.of_below hx3) (fun h => absurd hbxb2.lt (Nat.not_lt.2 h))
      have hila3 := hila2.below hx3
      have hilb3 := hilb2.below hx3
      clear hbxa2 hbxb2 hila2 hilb2 hSa2 hSb2
      have key := alives_any w3
      have hSa3 := boxS (c := c) (m := m) (k := k) (o := o) (r := r) (t := t) (n := n) (g := g) (l := l) (A := A0) (cap := cap0) hbxa3
      have hSb3 := boxS (c := c2) (m := m2) (k := k2) (o := o2) (r := r2) (t := t2) (n := n2) (g := g2) (l := l2) (A := A1) (cap := cap1) hbxb3
      go_wp2_with fail
      refine key.mono ?_
      rintro e w4 ⟨rfl, hx4⟩
      clear key
      have hb4 := hb3.trans (hx4.mono hb3.size)
      have hbxa4 := hbxa3.kept (Keep.of_below hx4) (fun h => absurd hbxa3.lt (Nat.not_lt.2 h))
      have hbxb4 := hbxb3.kept (Keep.of_below hx4) (fun h => absurd hbxb3.lt (Nat.not_lt.2 h))
      have hila4 := hila3.below hx4
      have hilb4 := hilb3.below hx4
      clear hbxa3 hbxb3 hila3 hilb3 hSa3 hSb3
      have key := asksame_any ⟨c, m, k, o, r, t, n, g, l⟩ ⟨c2, m2, k2, o2, r2, t2, n2, g2, l2⟩ A0 A1 cap0 cap1 w4 hila4 hilb4 hn
      rw [hz] at key
      unfold AV.v at key
      dsimp only at key
      have hSa4 := boxS (c := c) (m := m) (k := k) (o := o) (r := r) (t := t) (n := n) (g := g) (l := l) (A := A0) (cap := cap0) hbxa4
      have hSb4 := boxS (c := c2) (m := m2) (k := k2) (o := o2) (r := r2) (t := t2) (n := n2) (g := g2) (l := l2) (A := A1) (cap := cap1) hbxb4
      go_wp2_with fail
      refine key.mono ?_
      rintro e w5 ⟨rfl, hx5⟩
      clear key
      have hb5 := hb4.trans (hx5.mono hb4.size)
      have hbxa5 := hbxa4.kept (Keep.of_below hx5) (fun h => absurd hbxa4.lt (Nat.not_lt.2 h))
      have hbxb5 := hbxb4.kept (Keep.of_below hx5) (fun h => absurd hbxb4.lt (Nat.not_lt.2 h))
      have hila5 := hila4.below hx5
      have hilb5 := hilb4.below hx5
      clear hbxa4 hbxb4 hila4 hilb4 hSa4 hSb4
      have hSa5 := boxS (c := c) (m := m) (k := k) (o := o) (r := r) (t := t) (n := n) (g := g) (l := l) (A := A0) (cap := cap0) hbxa5
      have hSb5 := boxS (c := c2) (m := m2) (k := k2) (o := o2) (r := r2) (t := t2) (n := n2) (g := g2) (l := l2) (A := A1) (cap := cap1) hbxb5
      go_wp2_with fail
      refine (has_any a2 w5).mono ?_
      rintro e w' ⟨rfl, hww⟩
      subst w'
      rw [hHH]
      have key := rhas_any a2 w5
      go_wp2_with fail
      refine key.mono ?_
      rintro e w6 ⟨rfl, hx6⟩
      clear key
      rw [hHH]
      have hb6 := hb5.trans (hx6.mono hb5.size)
      have hbxa6 := hbxa5.kept (Keep.of_below hx6) (fun h => absurd hbxa5.lt (Nat.not_lt.2 h))
      have hbxb6 := hbxb5.kept (Keep.of_below hx6) (fun h => absurd hbxb5.lt (Nat.not_lt.2 h))
      have hila6 := hila5.below hx6
      have hilb6 := hilb5.below hx6
      clear hbxa5 hbxb5 hila5 hilb5 hSa5 hSb5
      have hSa6 := boxS (c := c) (m := m) (k := k) (o := o) (r := r) (t := t) (n := n) (g := g) (l := l) (A := A0) (cap := cap0) hbxa6
      have hSb6 := boxS (c := c2) (m := m2) (k := k2) (o := o2) (r := r2) (t := t2) (n := n2) (g := g2) (l := l2) (A := A1) (cap := cap1) hbxb6
      go_wp2
      go_ret
      exact ⟨by simp, hb6⟩
    | true =>
      obtain ⟨cb, hcb⟩ : ∃ q, encA ⟨c2, m2, k2, o2, r2, t2, n2, g2, l2⟩ = q := ⟨_, rfl⟩
      obtain ⟨nb, hnb⟩ : ∃ q, cb.length = q := ⟨_, rfl⟩
      go_enter Try.func10, Try.ntmps10
      have key := askencode_any ⟨c, m, k, o, r, t, n, g, l⟩ A0 cap0 ((w.alloc (.cells (AV.cs ⟨c, m, k, o, r, t, n, g, l⟩ A0 cap0) 53)).alloc (.cells (AV.cs ⟨c2, m2, k2, o2, r2, t2, n2, g2, l2⟩ A1 cap1) 53)) hila0 hn
      rw [hma] at key
      unfold AV.v at key
      dsimp only at key
      have hSa0 := boxS (c := c) (m := m) (k := k) (o := o) (r := r) (t := t) (n := n) (g := g) (l := l) (A := A0) (cap := cap0) hbxa0
      have hSb0 := boxS (c := c2) (m := m2) (k := k2) (o := o2) (r := r2) (t := t2) (n := n2) (g := g2) (l := l2) (A := A1) (cap := cap1) hbxb0
      go_wp2_with fail
      refine key.mono ?_
      rintro e w1 ⟨hx1, h1⟩
      clear key
      dsimp only at h1
      subst h1
      have hb1 := hb0.trans (hx1.mono hb0.size)
      have hbxa1 := hbxa0.kept (Keep.of_below hx1) (fun h => absurd hbxa0.lt (Nat.not_lt.2 h))
      have hbxb1 := hbxb0.kept (Keep.of_below hx1) (fun h => absurd hbxb0.lt (Nat.not_lt.2 h))
      have hila1 := hila0.below hx1
      have hilb1 := hilb0.below hx1
      clear hbxa0 hbxb0 hila0 hilb0 hSa0 hSb0
      have key := askencode_any ⟨c2, m2, k2, o2, r2, t2, n2, g2, l2⟩ A1 cap1 w1 hilb1 hn2
      rw [hmb, hcb] at key
      unfold AV.v at key
      dsimp only at key
      have hSa1 := boxS (c := c) (m := m) (k := k) (o := o) (r := r) (t := t) (n := n) (g := g) (l := l) (A := A0) (cap := cap0) hbxa1
      have hSb1 := boxS (c := c2) (m := m2) (k := k2) (o := o2) (r := r2) (t := t2) (n := n2) (g := g2) (l := l2) (A := A1) (cap := cap1) hbxb1
      go_wp2_with fail
      refine key.mono ?_
      rintro e w2 ⟨hx2, Eb, ccb, rfl, q1b, q2b, hrbb2, q4b⟩
      clear key
      rw [hnb] at hrbb2 q1b
      rw [hnb]
      have hb2 := hb1.trans (hx2.mono hb1.size)
      have hbxa2 := hbxa1.kept (Keep.of_below hx2) (fun h => absurd hbxa1.lt (Nat.not_lt.2 h))
      have hbxb2 := hbxb1.kept (Keep.of_below hx2) (fun h => absurd hbxb1.lt (Nat.not_lt.2 h))
      have hila2 := hila1.below hx2
      have hilb2 := hilb1.below hx2
      clear hbxa1 hbxb1 hila1 hilb1 hSa1 hSb1
      have key := rsame_any ⟨c, m, k, o, r, t, n, g, l⟩ ⟨c2, m2, k2, o2, r2, t2, n2, g2, l2⟩ A0 A1 cap0 cap1 w2 hila2 hilb2 hn
      rw [hz] at key
      unfold AV.v at key
      dsimp only at key
      have hSa2 := boxS (c := c) (m := m) (k := k) (o := o) (r := r) (t := t) (n := n) (g := g) (l := l) (A := A0) (cap := cap0) hbxa2
      have hSb2 := boxS (c := c2) (m := m2) (k := k2) (o := o2) (r := r2) (t := t2) (n := n2) (g := g2) (l := l2) (A := A1) (cap := cap1) hbxb2
      go_wp2_with fail
      refine key.mono ?_
      rintro e w3 ⟨rfl, hx3⟩
      clear key
      have hb3 := hb2.trans (hx3.mono hb2.size)
      have hbxa3 := hbxa2.kept (Keep.of_below hx3) (fun h => absurd hbxa2.lt (Nat.not_lt.2 h))
      have hbxb3 := hbxb2.kept (Keep.of_below hx3) (fun h => absurd hbxb2.lt (Nat.not_lt.2 h))
      have hila3 := hila2.below hx3
      have hilb3 := hilb2.below hx3
      have hrbb3 := hrbb2.below hx3
      clear hbxa2 hbxb2 hila2 hilb2 hrbb2 hSa2 hSb2
      have key := alives_any w3
      have hSa3 := boxS (c := c) (m := m) (k := k) (o := o) (r := r) (t := t) (n := n) (g := g) (l := l) (A := A0) (cap := cap0) hbxa3
      have hSb3 := boxS (c := c2) (m := m2) (k := k2) (o := o2) (r := r2) (t := t2) (n := n2) (g := g2) (l := l2) (A := A1) (cap := cap1) hbxb3
      go_wp2_with fail
      refine key.mono ?_
      rintro e w4 ⟨rfl, hx4⟩
      clear key
      have hb4 := hb3.trans (hx4.mono hb3.size)
      have hbxa4 := hbxa3.kept (Keep.of_below hx4) (fun h => absurd hbxa3.lt (Nat.not_lt.2 h))
      have hbxb4 := hbxb3.kept (Keep.of_below hx4) (fun h => absurd hbxb3.lt (Nat.not_lt.2 h))
      have hila4 := hila3.below hx4
      have hilb4 := hilb3.below hx4
      have hrbb4 := hrbb3.below hx4
      clear hbxa3 hbxb3 hila3 hilb3 hrbb3 hSa3 hSb3
      have key := asksame_any ⟨c, m, k, o, r, t, n, g, l⟩ ⟨c2, m2, k2, o2, r2, t2, n2, g2, l2⟩ A0 A1 cap0 cap1 w4 hila4 hilb4 hn
      rw [hz] at key
      unfold AV.v at key
      dsimp only at key
      have hSa4 := boxS (c := c) (m := m) (k := k) (o := o) (r := r) (t := t) (n := n) (g := g) (l := l) (A := A0) (cap := cap0) hbxa4
      have hSb4 := boxS (c := c2) (m := m2) (k := k2) (o := o2) (r := r2) (t := t2) (n := n2) (g := g2) (l := l2) (A := A1) (cap := cap1) hbxb4
      go_wp2_with fail
      refine key.mono ?_
      rintro e w5 ⟨rfl, hx5⟩
      clear key
      have hb5 := hb4.trans (hx5.mono hb4.size)
      have hbxa5 := hbxa4.kept (Keep.of_below hx5) (fun h => absurd hbxa4.lt (Nat.not_lt.2 h))
      have hbxb5 := hbxb4.kept (Keep.of_below hx5) (fun h => absurd hbxb4.lt (Nat.not_lt.2 h))
      have hila5 := hila4.below hx5
      have hilb5 := hilb4.below hx5
      have hrbb5 := hrbb4.below hx5
      clear hbxa4 hbxb4 hila4 hilb4 hrbb4 hSa4 hSb4
      have hSa5 := boxS (c := c) (m := m) (k := k) (o := o) (r := r) (t := t) (n := n) (g := g) (l := l) (A := A0) (cap := cap0) hbxa5
      have hSb5 := boxS (c := c2) (m := m2) (k := k2) (o := o2) (r := r2) (t := t2) (n := n2) (g := g2) (l := l2) (A := A1) (cap := cap1) hbxb5
      go_wp2_with fail
      refine (has_any a2 w5).mono ?_
      rintro e w' ⟨rfl, hww⟩
      subst w'
      rw [hHH]
      have key := rhas_any a2 w5
      go_wp2_with fail
      refine key.mono ?_
      rintro e w6 ⟨rfl, hx6⟩
      clear key
      rw [hHH]
      have hb6 := hb5.trans (hx6.mono hb5.size)
      have hbxa6 := hbxa5.kept (Keep.of_below hx6) (fun h => absurd hbxa5.lt (Nat.not_lt.2 h))
      have hbxb6 := hbxb5.kept (Keep.of_below hx6) (fun h => absurd hbxb5.lt (Nat.not_lt.2 h))
      have hila6 := hila5.below hx6
      have hilb6 := hilb5.below hx6
      have hrbb6 := hrbb5.below hx6
      clear hbxa5 hbxb5 hila5 hilb5 hrbb5 hSa5 hSb5
      have hSa6 := boxS (c := c) (m := m) (k := k) (o := o) (r := r) (t := t) (n := n) (g := g) (l := l) (A := A0) (cap := cap0) hbxa6
      have hSb6 := boxS (c := c2) (m := m2) (k := k2) (o := o2) (r := r2) (t := t2) (n := n2) (g := g2) (l := l2) (A := A1) (cap := cap1) hbxb6
      go_wp2
      go_ret
      exact ⟨by simp, hb6⟩
  | true =>
    cases hmb : mayA ⟨c2, m2, k2, o2, r2, t2, n2, g2, l2⟩ with
    | false =>
      obtain ⟨ca, hca⟩ : ∃ q, encA ⟨c, m, k, o, r, t, n, g, l⟩ = q := ⟨_, rfl⟩
      obtain ⟨na, hna⟩ : ∃ q, ca.length = q := ⟨_, rfl⟩
      go_enter Try.func10, Try.ntmps10
      have key := askencode_any ⟨c, m, k, o, r, t, n, g, l⟩ A0 cap0 ((w.alloc (.cells (AV.cs ⟨c, m, k, o, r, t, n, g, l⟩ A0 cap0) 53)).alloc (.cells (AV.cs ⟨c2, m2, k2, o2, r2, t2, n2, g2, l2⟩ A1 cap1) 53)) hila0 hn
      rw [hma, hca] at key
      unfold AV.v at key
      dsimp only at key
      have hSa0 := boxS (c := c) (m := m) (k := k) (o := o) (r := r) (t := t) (n := n) (g := g) (l := l) (A := A0) (cap := cap0) hbxa0
      have hSb0 := boxS (c := c2) (m := m2) (k := k2) (o := o2) (r := r2) (t := t2) (n := n2) (g := g2) (l := l2) (A := A1) (cap := cap1) hbxb0
      go_wp2_with fail
      refine key.mono ?_
      rintro e w1 ⟨hx1, Ea, cca, rfl, q1a, q2a, hrba1, q4a⟩
      clear key
      rw [hna] at hrba1 q1a
      rw [hna]
      have hb1 := hb0.trans (hx1.mono hb0.size)
      have hbxa1 := hbxa0.kept (Keep.of_below hx1) (fun h => absurd hbxa0.lt (Nat.not_lt.2 h))
      have hbxb1 := hbxb0.kept (Keep.of_below hx1) (fun h => absurd hbxb0.lt (Nat.not_lt.2 h))
      have hila1 := hila0.below hx1
      have hilb1 := hilb0.below hx1
      clear hbxa0 hbxb0 hila0 hilb0 hSa0 hSb0
      have key := askencode_any ⟨c2, m2, k2, o2, r2, t2, n2, g2, l2⟩ A1 cap1 w1 hilb1 hn2
      rw [hmb] at key
      unfold AV.v at key
      dsimp only at key
      have hSa1 := boxS (c := c) (m := m) (k := k) (o := o) (r := r) (t := t) (n := n) (g := g) (l := l) (A := A0) (cap := cap0) hbxa1
      have hSb1 := boxS (c := c2) (m := m2) (k := k2) (o := o2) (r := r2) (t := t2) (n := n2) (g := g2) (l := l2) (A := A1) (cap := cap1) hbxb1
      go_wp2_with fail
      refine key.mono ?_
      rintro e w2 ⟨hx2, h1⟩
      clear key
      dsimp only at h1
      subst h1
      have hb2 := hb1.trans (hx2.mono hb1.size)
      have hbxa2 := hbxa1.kept (Keep.of_below hx2) (fun h => absurd hbxa1.lt (Nat.not_lt.2 h))
      have hbxb2 := hbxb1.kept (Keep.of_below hx2) (fun h => absurd hbxb1.lt (Nat.not_lt.2 h))
      have hila2 := hila1.below hx2
      have hilb2 := hilb1.below hx2
      have hrba2 := hrba1.below hx2
      clear hbxa1 hbxb1 hila1 hilb1 hrba1 hSa1 hSb1
      have key := rsame_any ⟨c, m, k, o, r, t, n, g, l⟩ ⟨c2, m2, k2, o2, r2, t2, n2, g2, l2⟩ A0 A1 cap0 cap1 w2 hila2 hilb2 hn
      rw [hz] at key
      unfold AV.v at key
      dsimp only at key
      have hSa2 := boxS (c := c) (m := m) (k := k) (o := o) (r := r) (t := t) (n := n) (g := g) (l := l) (A := A0) (cap := cap0) hbxa2
      have hSb2 := boxS (c := c2) (m := m2) (k := k2) (o := o2) (r := r2) (t := t2) (n := n2) (g := g2) (l := l2) (A := A1) (cap := cap1) hbxb2
      go_wp2_with fail
      refine key.mono ?_
      rintro e w3 ⟨rfl, hx3⟩
      clear key
      have hb3 := hb2.trans (hx3.mono hb2.size)
      have hbxa3 := hbxa2.kept (Keep.of_below hx3) (fun h => absurd hbxa2.lt (Nat.not_lt.2 h))
      have hbxb3 := hbxb2.kept (Keep.of_below hx3) (fun h => absurd hbxb2.lt (Nat.not_lt.2 h))
      have hila3 := hila2.below hx3
      have hilb3 := hilb2.below hx3
      have hrba3 := hrba2.below hx3
      clear hbxa2 hbxb2 hila2 hilb2 hrba2 hSa2 hSb2
      have key := alives_any w3
      have hSa3 := boxS (c := c) (m := m) (k := k) (o := o) (r := r) (t := t) (n := n) (g := g) (l := l) (A := A0) (cap := cap0) hbxa3
      have hSb3 := boxS (c := c2) (m := m2) (k := k2) (o := o2) (r := r2) (t := t2) (n := n2) (g := g2) (l := l2) (A := A1) (cap := cap1) hbxb3
      go_wp2_with fail
      refine key.mono ?_
      rintro e w4 ⟨rfl, hx4⟩
      clear key
      have hb4 := hb3.trans (hx4.mono hb3.size)
      have hbxa4 := hbxa3.kept (Keep.of_below hx4) (fun h => absurd hbxa3.lt (Nat.not_lt.2 h))
      have hbxb4 := hbxb3.kept (Keep.of_below hx4) (fun h => absurd hbxb3.lt (Nat.not_lt.2 h))
      have hila4 := hila3.below hx4
      have hilb4 := hilb3.below hx4
      have hrba4 := hrba3.below hx4
      clear hbxa3 hbxb3 hila3 hilb3 hrba3 hSa3 hSb3
      have key := asksame_any ⟨c, m, k, o, r, t, n, g, l⟩ ⟨c2, m2, k2, o2, r2, t2, n2, g2, l2⟩ A0 A1 cap0 cap1 w4 hila4 hilb4 hn
      rw [hz] at key
      unfold AV.v at key
      dsimp only at key
      have hSa4 := boxS (c := c) (m := m) (k := k) (o := o) (r := r) (t := t) (n := n) (g := g) (l := l) (A := A0) (cap := cap0) hbxa4
      have hSb4 := boxS (c := c2) (m := m2) (k := k2) (o := o2) (r := r2) (t := t2) (n := n2) (g := g2) (l := l2) (A := A1) (cap := cap1) hbxb4
      go_wp2_with fail
      refine key.mono ?_
      rintro e w5 ⟨rfl, hx5⟩
      clear key
      have hb5 := hb4.trans (hx5.mono hb4.size)
      have hbxa5 := hbxa4.kept (Keep.of_below hx5) (fun h => absurd hbxa4.lt (Nat.not_lt.2 h))
      have hbxb5 := hbxb4.kept (Keep.of_below hx5) (fun h => absurd hbxb4.lt (Nat.not_lt.2 h))
      have hila5 := hila4.below hx5
      have hilb5 := hilb4.below hx5
      have hrba5 := hrba4.below hx5
      clear hbxa4 hbxb4 hila4 hilb4 hrba4 hSa4 hSb4
      have hSa5 := boxS (c := c) (m := m) (k := k) (o := o) (r := r) (t := t) (n := n) (g := g) (l := l) (A := A0) (cap := cap0) hbxa5
      have hSb5 := boxS (c := c2) (m := m2) (k := k2) (o := o2) (r := r2) (t := t2) (n := n2) (g := g2) (l := l2) (A := A1) (cap := cap1) hbxb5
      go_wp2_with fail
      refine (has_any a2 w5).mono ?_
      rintro e w' ⟨rfl, hww⟩
      subst w'
      rw [hHH]
      have key := rhas_any a2 w5
      go_wp2_with fail
      refine key.mono ?_
      rintro e w6 ⟨rfl, hx6⟩
      clear key
      rw [hHH]
      have hb6 := hb5.trans (hx6.mono hb5.size)
      have hbxa6 := hbxa5.kept (Keep.of_below hx6) (fun h => absurd hbxa5.lt (Nat.not_lt.2 h))
      have hbxb6 := hbxb5.kept (Keep.of_below hx6) (fun h => absurd hbxb5.lt (Nat.not_lt.2 h))
      have hila6 := hila5.below hx6
      have hilb6 := hilb5.below hx6
      have hrba6 := hrba5.below hx6
      clear hbxa5 hbxb5 hila5 hilb5 hrba5 hSa5 hSb5
      have hSa6 := boxS (c := c) (m := m) (k := k) (o := o) (r := r) (t := t) (n := n) (g := g) (l := l) (A := A0) (cap := cap0) hbxa6
      have hSb6 := boxS (c := c2) (m := m2) (k := k2) (o := o2) (r := r2) (t := t2) (n := n2) (g := g2) (l := l2) (A := A1) (cap := cap1) hbxb6
      go_wp2
      go_ret
      exact ⟨by simp, hb6⟩
    | true =>
      have hinj := encA_inj hma hmb
      have hzz : z = decide (encA ⟨c, m, k, o, r, t, n, g, l⟩ = encA ⟨c2, m2, k2, o2, r2, t2, n2, g2, l2⟩) := by
        cases hq : z with
        | true =>
          rw [hq] at hz
          exact (decide_eq_true (hinj.2 ((sameA_iff _ _).1 hz))).symm
        | false =>
          rw [hq] at hz
          refine (decide_eq_false (fun h => ?_)).symm
          have := (sameA_iff _ _).2 (hinj.1 h)
          rw [this] at hz
          cases hz
      obtain ⟨ca, hca⟩ : ∃ q, encA ⟨c, m, k, o, r, t, n, g, l⟩ = q := ⟨_, rfl⟩
      obtain ⟨cb, hcb⟩ : ∃ q, encA ⟨c2, m2, k2, o2, r2, t2, n2, g2, l2⟩ = q := ⟨_, rfl⟩
      rw [hca, hcb] at hzz
      have hzd : decide (ca = cb) = z := hzz.symm
      have hzb : (ca == cb) = z := by
        rw [hzz]
        by_cases h : ca = cb <;> simp [h]
      clear hinj hzz
      obtain ⟨na, hna⟩ : ∃ q, ca.length = q := ⟨_, rfl⟩
      obtain ⟨nb, hnb⟩ : ∃ q, cb.length = q := ⟨_, rfl⟩
      go_enter Try.func10, Try.ntmps10
      have key := askencode_any ⟨c, m, k, o, r, t, n, g, l⟩ A0 cap0 ((w.alloc (.cells (AV.cs ⟨c, m, k, o, r, t, n, g, l⟩ A0 cap0) 53)).alloc (.cells (AV.cs ⟨c2, m2, k2, o2, r2, t2, n2, g2, l2⟩ A1 cap1) 53)) hila0 hn
      rw [hma, hca] at key
      unfold AV.v at key
      dsimp only at key
      have hSa0 := boxS (c := c) (m := m) (k := k) (o := o) (r := r) (t := t) (n := n) (g := g) (l := l) (A := A0) (cap := cap0) hbxa0
      have hSb0 := boxS (c := c2) (m := m2) (k := k2) (o := o2) (r := r2) (t := t2) (n := n2) (g := g2) (l := l2) (A := A1) (cap := cap1) hbxb0
      go_wp2_with fail
      refine key.mono ?_
      rintro e w1 ⟨hx1, Ea, cca, rfl, q1a, q2a, hrba1, q4a⟩
      clear key
      rw [hna] at hrba1 q1a
      rw [hna]
      have hb1 := hb0.trans (hx1.mono hb0.size)
      have hbxa1 := hbxa0.kept (Keep.of_below hx1) (fun h => absurd hbxa0.lt (Nat.not_lt.2 h))
      have hbxb1 := hbxb0.kept (Keep.of_below hx1) (fun h => absurd hbxb0.lt (Nat.not_lt.2 h))
      have hila1 := hila0.below hx1
      have hilb1 := hilb0.below hx1
      clear hbxa0 hbxb0 hila0 hilb0 hSa0 hSb0
      have key := askencode_any ⟨c2, m2, k2, o2, r2, t2, n2, g2, l2⟩ A1 cap1 w1 hilb1 hn2
      rw [hmb, hcb] at key
      unfold AV.v at key
      dsimp only at key
      have hSa1 := boxS (c := c) (m := m) (k := k) (o := o) (r := r) (t := t) (n := n) (g := g) (l := l) (A := A0) (cap := cap0) hbxa1
      have hSb1 := boxS (c := c2) (m := m2) (k := k2) (o := o2) (r := r2) (t := t2) (n := n2) (g := g2) (l := l2) (A := A1) (cap := cap1) hbxb1
      go_wp2_with fail
      refine key.mono ?_
      rintro e w2 ⟨hx2, Eb, ccb, rfl, q1b, q2b, hrbb2, q4b⟩
      clear key
      rw [hnb] at hrbb2 q1b
      rw [hnb]
      have hb2 := hb1.trans (hx2.mono hb1.size)
      have hbxa2 := hbxa1.kept (Keep.of_below hx2) (fun h => absurd hbxa1.lt (Nat.not_lt.2 h))
      have hbxb2 := hbxb1.kept (Keep.of_below hx2) (fun h => absurd hbxb1.lt (Nat.not_lt.2 h))
      have hila2 := hila1.below hx2
      have hilb2 := hilb1.below hx2
      have hrba2 := hrba1.below hx2
      clear hbxa1 hbxb1 hila1 hilb1 hrba1 hSa1 hSb1
      have key := rsame_any ⟨c, m, k, o, r, t, n, g, l⟩ ⟨c2, m2, k2, o2, r2, t2, n2, g2, l2⟩ A0 A1 cap0 cap1 w2 hila2 hilb2 hn
      rw [hz] at key
      unfold AV.v at key
      dsimp only at key
      have hSa2 := boxS (c := c) (m := m) (k := k) (o := o) (r := r) (t := t) (n := n) (g := g) (l := l) (A := A0) (cap := cap0) hbxa2
      have hSb2 := boxS (c := c2) (m := m2) (k := k2) (o := o2) (r := r2) (t := t2) (n := n2) (g := g2) (l := l2) (A := A1) (cap := cap1) hbxb2
      go_wp2_with fail
      refine key.mono ?_
      rintro e w3 ⟨rfl, hx3⟩
      clear key
      have hb3 := hb2.trans (hx3.mono hb2.size)
      have hbxa3 := hbxa2.kept (Keep.of_below hx3) (fun h => absurd hbxa2.lt (Nat.not_lt.2 h))
      have hbxb3 := hbxb2.kept (Keep.of_below hx3) (fun h => absurd hbxb2.lt (Nat.not_lt.2 h))
      have hila3 := hila2.below hx3
      have hilb3 := hilb2.below hx3
      have hrba3 := hrba2.below hx3
      have hrbb3 := hrbb2.below hx3
      clear hbxa2 hbxb2 hila2 hilb2 hrba2 hrbb2 hSa2 hSb2
      have key := alives_any w3
      have hSa3 := boxS (c := c) (m := m) (k := k) (o := o) (r := r) (t := t) (n := n) (g := g) (l := l) (A := A0) (cap := cap0) hbxa3
      have hSb3 := boxS (c := c2) (m := m2) (k := k2) (o := o2) (r := r2) (t := t2) (n := n2) (g := g2) (l := l2) (A := A1) (cap := cap1) hbxb3
      go_wp2_with fail
      refine key.mono ?_
      rintro e w4 ⟨rfl, hx4⟩
      clear key
      have hb4 := hb3.trans (hx4.mono hb3.size)
      have hbxa4 := hbxa3.kept (Keep.of_below hx4) (fun h => absurd hbxa3.lt (Nat.not_lt.2 h))
      have hbxb4 := hbxb3.kept (Keep.of_below hx4) (fun h => absurd hbxb3.lt (Nat.not_lt.2 h))
      have hila4 := hila3.below hx4
      have hilb4 := hilb3.below hx4
      have hrba4 := hrba3.below hx4
      have hrbb4 := hrbb3.below hx4
      clear hbxa3 hbxb3 hila3 hilb3 hrba3 hrbb3 hSa3 hSb3
      have key := asksame_any ⟨c, m, k, o, r, t, n, g, l⟩ ⟨c2, m2, k2, o2, r2, t2, n2, g2, l2⟩ A0 A1 cap0 cap1 w4 hila4 hilb4 hn
      rw [hz] at key
      unfold AV.v at key
      dsimp only at key
      have hSa4 := boxS (c := c) (m := m) (k := k) (o := o) (r := r) (t := t) (n := n) (g := g) (l := l) (A := A0) (cap := cap0) hbxa4
      have hSb4 := boxS (c := c2) (m := m2) (k := k2) (o := o2) (r := r2) (t := t2) (n := n2) (g := g2) (l := l2) (A := A1) (cap := cap1) hbxb4
      go_wp2_with fail
      refine key.mono ?_
      rintro e w5 ⟨rfl, hx5⟩
      clear key
      have hb5 := hb4.trans (hx5.mono hb4.size)
      have hbxa5 := hbxa4.kept (Keep.of_below hx5) (fun h => absurd hbxa4.lt (Nat.not_lt.2 h))
      have hbxb5 := hbxb4.kept (Keep.of_below hx5) (fun h => absurd hbxb4.lt (Nat.not_lt.2 h))
      have hila5 := hila4.below hx5
      have hilb5 := hilb4.below hx5
      have hrba5 := hrba4.below hx5
      have hrbb5 := hrbb4.below hx5
      clear hbxa4 hbxb4 hila4 hilb4 hrba4 hrbb4 hSa4 hSb4
      have hSa5 := boxS (c := c) (m := m) (k := k) (o := o) (r := r) (t := t) (n := n) (g := g) (l := l) (A := A0) (cap := cap0) hbxa5
      have hSb5 := boxS (c := c2) (m := m2) (k := k2) (o := o2) (r := r2) (t := t2) (n := n2) (g := g2) (l := l2) (A := A1) (cap := cap1) hbxb5
      go_wp2_with fail
      refine (has_any a2 w5).mono ?_
      rintro e w' ⟨rfl, hww⟩
      subst w'
      rw [hHH]
      have key := rhas_any a2 w5
      go_wp2_with fail
      refine key.mono ?_
      rintro e w6 ⟨rfl, hx6⟩
      clear key
      rw [hHH]
      have hb6 := hb5.trans (hx6.mono hb5.size)
      have hbxa6 := hbxa5.kept (Keep.of_below hx6) (fun h => absurd hbxa5.lt (Nat.not_lt.2 h))
      have hbxb6 := hbxb5.kept (Keep.of_below hx6) (fun h => absurd hbxb5.lt (Nat.not_lt.2 h))
      have hila6 := hila5.below hx6
      have hilb6 := hilb5.below hx6
      have hrba6 := hrba5.below hx6
      have hrbb6 := hrbb5.below hx6
      clear hbxa5 hbxb5 hila5 hilb5 hrba5 hrbb5 hSa5 hSb5
      have hs1 := run_str w6 Ea na cca ca hrba6
      have hs2 := run_str w6 Eb nb ccb cb hrbb6
      have hSa6 := boxS (c := c) (m := m) (k := k) (o := o) (r := r) (t := t) (n := n) (g := g) (l := l) (A := A0) (cap := cap0) hbxa6
      have hSb6 := boxS (c := c2) (m := m2) (k := k2) (o := o2) (r := r2) (t := t2) (n := n2) (g := g2) (l := l2) (A := A1) (cap := cap1) hbxb6
      go_wp2
      go_ret
      exact ⟨by simp, hb6⟩

namespace askSameDone
open Go.ChangeShapes Go.WideShapes Go.ChangeAt
set_option maxRecDepth 100000 in
theorem lifted (os : Os) (started : os.Started) (H : Type) (enc : TypeId × Value → H) :
    ReturnsInHanded {} Try.checked os 10 .any (Rows.askSameSpec.pre6 enc Try.prog Try.f10 Rows.askSameRow.domain false) (Rows.askSameSpec.post enc Try.prog Try.f10 false true false false) := by
  refine returnsInHanded_of_change_sized (C := Try.checked) own started (by kernel_rfl) Try.func10
    (ChangeSpec.witness6 (enc := enc) (C := Try.checked) false ⟨#[], #[Value.agg #[.int .i64 0, .int .i64 0, .int .i64 0, .int .i64 0, .int .i64 0, .int .i64 0, .int .i64 0, .string ⟨#[]⟩, .slice none 0 0], Value.agg #[.int .i64 0, .int .i64 0, .int .i64 0, .int .i64 0, .int .i64 0, .int .i64 0, .int .i64 0, .string ⟨#[]⟩, .slice none 0 0], Value.int .i64 0], []⟩ 8 (by kernel_rfl) (by kernel_rfl) (by kernel_rfl) (by kernel_rfl)) ?_
  intro W base args ds gs before hval0 hW hcnd hsz0 _
  have hsz : (DataW.weightsEach Try.prog (Try.f10.params.toList ++ Rows.askSameSpec.plain.varTypes Try.prog) (ds ++ gs)).all (· ≤ reachBytes) = true := hsz0
  clear hsz0
  have hval : ∀ (j : Nat) t v, Try.f10.params[j]? = some t → args[j]? = some v → Value.okWide Try.prog W .any base t v := hval0
  have hW' := hW
  obtain ⟨p, q, hA0, hV, rfl, hfz, hnd⟩ := hW
  have hA : DataW.TrodAll enc Try.prog W 0 (fun _ => true) true Try.f10.params.toList args.toList ds p := hA0
  rw [Try.params10] at hA hval hsz
  obtain ⟨v0, vs0, d0, ds0, p0, q0, hargs, rfl, rfl, h0, r0⟩ := trodAll_cons hA
  obtain ⟨v1, vs1, d1, ds1, p1, q1, rfl, rfl, rfl, h1, r1⟩ := trodAll_cons r0
  obtain ⟨v2, vs2, d2, ds2, p2, q2, rfl, rfl, rfl, h2, r2⟩ := trodAll_cons r1
  obtain ⟨rfl, rfl, rfl⟩ := trodAll_nil r2
  obtain rfl : args = #[v0, v1, v2] := by cases args; simp_all
  obtain ⟨rfl, rfl⟩ := trodVars_none hV
  obtain ⟨y0, A0, cap0, rfl, hil0, hwl0, hwf0⟩ := ask_open (hval 0 53 v0 rfl rfl) h0
  have k0' := h0
  have lt0 : ∀ x ∈ p0, x.block < W.heap.size := by obtain ⟨m, hm⟩ := h0; exact DataW.trod_lt m _ _ _ hm
  obtain ⟨y1, A1, cap1, rfl, hil1, hwl1, hwf1⟩ := ask_open (hval 1 53 v1 rfl rfl) h1
  have k1' := h1
  have lt1 : ∀ x ∈ p1, x.block < W.heap.size := by obtain ⟨m, hm⟩ := h1; exact DataW.trod_lt m _ _ _ hm
  obtain ⟨a2, rfl, rfl, rfl, w2⟩ := open_int Try.underlying3 (hval 2 3 v2 rfl rfl) h2
  clear hA0 hval0
  refine (askSame_walk (w := W) y0 A0 cap0 hil0 hwl0 hwf0 y1 A1 cap1 hil1 hwl1 hwf1 a2 w2).mono fun e W' ⟨he, bel⟩ => ?_
  subst he
  exact ⟨_, rfl, _, _, _, [], _, [], hW', trodAll_mk1 (shut_bool Try.underlying4 _), (trodAll_cons_mk (Below.trod laidOut (by kernel_rfl) (of_decide_eq_true (by kernel_rfl)) k0' bel lt0) (trodAll_cons_mk (Below.trod laidOut (by kernel_rfl) (of_decide_eq_true (by kernel_rfl)) k1' bel lt1) (trodAll_cons_mk (shut_int Try.underlying3 w2) trodAll_mk0))), rfl, bel.frame _, fun h => by cases h⟩

theorem over : Rows.askSameRow.holds Try.pinned (OpenSpec.ofChange Rows.askSameSpec) :=
  OpenClaim.holds_of_wide 10 Try.f10 rfl rfl rfl rfl rfl rfl rfl ⟨rfl, rfl, rfl, rfl, rfl⟩ rfl rfl rfl rfl rfl (by kernel_rfl) Try.func10 (by kernel_rfl)
    (of_decide_eq_true (by kernel_rfl)) (by unfold Func.isWrapper; first | (rw [if_pos (by decide +kernel)]; kernel_rfl) | (rw [if_neg (by decide +kernel)]; exact ⟨rfl, rfl⟩))
    (fun os started H enc _ => lifted os started H enc)

/-- The statement. -/
theorem proved : Rows.AskSameSaid := over
end askSameDone
end Go.Proofs.Ytejpabeamjhmjaa
