/- The earliest timer; Pop, First. No condition but that keys and times are ints. -/
import Derived.Test.YtiinlcfggjcmoaaTmW
import Derived.LoopNIn
import Derived.LoopIn
namespace Go.Proofs.Ytiinlcfggjcmoaa
open Go.RowKit Go.Maps Go.Sort
set_option linter.unusedVariables false
set_option linter.unusedSimpArgs false

theorem grown_below {w w' : World} (h : RowKit.Below w.heap.size w w') : w.grownBy w' none := ⟨h.os, h.tape, h.output, h.size, fun k hk _ => h.block k hk⟩
theorem grown_keep {w w' : World} {g : Nat} (h : Keep (fun k => k = g) w w') : w.grownBy w' (some g) := ⟨h.os, h.tape, h.output, h.size, fun k hk hne => h.block k hk fun e => hne (by rw [e])⟩
theorem fill2 {w : World} {g : Nat} {t : TypeId} {z0 z1 : Value} (h : Blk w g t #[z0, z1]) (x0 x1 : Value) : Blk ((w.setCell ⟨g, 0, none⟩ x0).setCell ⟨g, 1, none⟩ x1) g t #[x0, x1] := by
  have := (h.set_ 0 x0).set_ 1 x1
  simpa using this
theorem keep2 (w : World) (g : Nat) (x0 x1 : Value) : Keep (fun k => k = g) w ((w.setCell ⟨g, 0, none⟩ x0).setCell ⟨g, 1, none⟩ x1) :=
  ((Keep.refl (fun k => k = g) w).setCell (p := ⟨g, 0, none⟩) (fun _ => rfl) x0).setCell (p := ⟨g, 1, none⟩) (fun _ => rfl) x1
theorem DT.mem_of {D : DataW Unit} {x : List Tm} (h : DT D x) (k c : Int) (hat : ∀ z, D.atKey (.int .i64 k) z = .lit (.int .i64 c)) : (k, c) ∈ x := by
  by_cases e : k ∈ x.map (·.1)
  · obtain ⟨t, ht, rfl⟩ := List.mem_map.1 e
    have h1 := h.val t ht (.lit (.int .i64 0))
    rw [hat] at h1
    injection h1 with h1
    injection h1 with _ h1
    subst h1
    exact ht
  · have hf : has D (.int .i64 k) = false := by rw [h.has_]; exact decide_eq_false e
    have h1 := hat (.map [])
    rw [atKey_of_not_has hf] at h1
    cases h1
/-- The first so far. -/
def FirstRel (x : List Tm) (left : Lit → Bool) (fd : Bool) (t : Tm) : Prop :=
  (fd = false ∧ t = (0, 0) ∧ ∀ u ∈ x, left (.int .i64 u.1) = true) ∨ (fd = true ∧ t ∈ x ∧ ∀ u ∈ x, left (.int .i64 u.1) = false → u = t ∨ ltT t u)
theorem first_start {D : DataW Unit} {x : List Tm} (h : DT D x) : FirstRel x (has D) false (0, 0) := .inl ⟨rfl, rfl, fun u hu => by rw [h.has_]; exact decide_eq_true (List.mem_map_of_mem hu)⟩
theorem left_split {left : Lit → Bool} {k j : Int} (h : (left (.int .i64 j) && !(Lit.int .i64 j).sameKey (.int .i64 k)) = false) : left (.int .i64 j) = false ∨ j = k := by
  by_cases e : j = k
  · exact .inr e
  · left
    have : (Lit.int .i64 j).sameKey (.int .i64 k) = false := by simp [Lit.sameKey, e]
    rw [this] at h
    simpa using h
theorem first_take {x : List Tm} {left : Lit → Bool} {t u : Tm} {fd : Bool} (hx : OrdT x) (h : FirstRel x left fd t) (hu : u ∈ x) (hlt : fd = true → ltT u t) : FirstRel x (fun z => left z && !z.sameKey (.int .i64 u.1)) true u := by
  refine .inr ⟨rfl, hu, fun y hy hl => ?_⟩
  rcases left_split hl with h1 | h1
  · rcases h with ⟨_, _, h3⟩ | ⟨h2, h3, h4⟩
    · rw [h3 y hy] at h1
      cases h1
    · rcases h4 y hy h1 with rfl | h5
      · exact .inr (hlt h2)
      · exact .inr (ltT_trans (hlt h2) h5)
  · exact .inl (key_one hx hy hu h1)
theorem first_leave {x : List Tm} {left : Lit → Bool} {t u : Tm} (hx : OrdT x) (h : FirstRel x left true t) (hu : u ∈ x) (hlt : ¬ ltT u t) : FirstRel x (fun z => left z && !z.sameKey (.int .i64 u.1)) true t := by
  rcases h with ⟨h1, _⟩ | ⟨_, h3, h4⟩
  · cases h1
  · refine .inr ⟨rfl, h3, fun y hy hl => ?_⟩
    rcases left_split hl with h1 | h1
    · exact h4 y hy h1
    · have := key_one hx hy hu h1
      subst this
      by_cases e : y = t
      · exact .inl e
      · right
        by_cases h5 : ltT t y
        · exact h5
        · exact absurd (eq_of_not_lt hlt h5) e
/-- What is earliest. -/
def earlyP : List Tm → Tm × Bool
  | [] => ((0, 0), false)
  | t :: _ => (t, true)
theorem first_end {x : List Tm} {left : Lit → Bool} {t : Tm} {fd : Bool} (hx : OrdT x) (h : FirstRel x left fd t) (hl : ∀ z, left z = false) : earlyP x = (t, fd) := by
  rcases h with ⟨rfl, rfl, h3⟩ | ⟨rfl, h3, h4⟩
  · cases x with
    | nil => rfl
    | cons y l => have := h3 y (by simp); rw [hl] at this; cases this
  · have h5 := first_is hx h3 (fun y hy => h4 y hy (hl _))
    cases x with
    | nil => cases h3
    | cons y l =>
      simp at h5
      subst h5
      rfl
def EarlyPost (w : World) (x : List Tm) (e : Ending) (w' : World) : Prop := e = .returned (.tuple #[.agg #[.int .i64 (earlyP x).1.1, .int .i64 (earlyP x).1.2], .bool (earlyP x).2]) ∧ RowKit.Below w.heap.size w w'
/-- Where the loop stands. -/
def EarlyRel (w : World) (x : List Tm) (D : DataW Unit) (b N : Nat) (s5 : Value) (wr : World) : Prop :=
  ∃ (left : Lit → Bool) (cnt : Nat) (fd : Bool) (t : Tm), s5 = .bool fd ∧ wr.ranges Try.prog 3 (plainElem Try.prog 3) b (w.heap.size + 2) N D left cnt ∧ Blk wr w.heap.size 56 #[.int .i64 0, .int .i64 0] ∧ Blk wr (w.heap.size + 1) 56 #[.int .i64 t.1, .int .i64 t.2] ∧ Hid (FirstRel x left fd t) ∧ RowKit.Below w.heap.size w wr
set_option maxRecDepth 100000 in
set_option maxHeartbeats 3200000 in
theorem early_any {w : World} {p b N : Nat} {x : List Tm} (h : TM w p b N x) :
    Calls Try.prog 25 #[.pointer (some ⟨p, 0, none⟩)] w (EarlyPost w x) := by
  have hx := h.ord
  have h1 := (h.alloc (.cells #[.int .i64 0, .int .i64 0] 56)).alloc (.cells #[.int .i64 0, .int .i64 0] 56)
  have e1 := (Blk.new w 56 #[.int .i64 0, .int .i64 0]).alloc (.cells #[.int .i64 0, .int .i64 0] 56)
  have e2 := Blk.new (w.alloc (.cells #[.int .i64 0, .int .i64 0] 56)) 56 #[.int .i64 0, .int .i64 0]
  rw [World.size_alloc] at e2
  have hb1 := ((RowKit.Below.refl w.heap.size w).alloc (Nat.le_refl _) (.cells #[.int .i64 0, .int .i64 0] 56)).alloc (by simp) (.cells #[.int .i64 0, .int .i64 0] 56)
  have hz1 : ((w.alloc (.cells #[.int .i64 0, .int .i64 0] 56)).alloc (.cells #[.int .i64 0, .int .i64 0] 56)).heap.size = w.heap.size + 2 := by simp
  go_enter Try.func25, Try.ntmps25
  go_wp2_with fail
  refine (tall_any h1).mono ?_
  rintro e w' ⟨rfl, hww⟩
  subst w'
  generalize (w.alloc (.cells #[.int .i64 0, .int .i64 0] 56)).alloc (.cells #[.int .i64 0, .int .i64 0] 56) = w1 at *
  obtain ⟨D, hm, hd⟩ := h1.mp
  go_wp2_with (at_range; refine wpList_range_own _ rfl _ 51 rfl 3 3 kI Try.underlying51 (plainElem Try.prog 3) b N D rfl hm ?_; intro w0 hrg0 hg0 hs0)
  go_frame
  have hbp := h.lt
  have k0 : Keep (fun _ => False) w1 w0 := (Keep.of_grown hg0).mono fun k _ e => by cases e
  have f1 := e1.kept k0 id
  have f2 := e2.kept k0 id
  have b0 : RowKit.Below w.heap.size w w0 := hb1.trans ((k0.below (Nat.le_refl _) (fun _ _ => id)).mono (by omega))
  have r0 := first_start hd
  rw [hz1] at hrg0 hs0 ⊢
  clear hg0 e1 e2 hb1 h1 k0
  go_loopw [5] (fun s5 wr => EarlyRel w x D b N s5 wr) (fun _ wr => wr.rangeLeft b (w.heap.size + 2))
  case atStart => exact ⟨_, _, false, (0, 0), rfl, hrg0, f1, f2, Lib.hid r0, b0⟩
  case round =>
    obtain ⟨left, cnt, fd, t, rfl, hrg, f1, f2, hR, hb⟩ := hrel
    clear hrg0 b0 r0 hs0 hz1 hm
    have hsz := hb.size
    have hfl1 := f1.lt
    have hfl2 := f2.lt
    have hmeas := hrg.left_eq
    have hrlt := hrg.lt
    obtain ⟨tk, ta⟩ := t
    go_wp2_with (at_next; refine wpList_next_ranges_ii _ rfl _ rfl 3 3 .i64 .i64 kI Try.underlying3 Try.underlying3 b (w.heap.size + 2) N D left cnt rfl hrg ?_ ?_)
    · intro hc0 hl0
      have hend := first_end hx hR.out hl0
      have HEND := Lib.hid hend
      clear hend hrg hc0 hl0 hmeas hrlt
      have q0 := f2.cell 0
      have q1 := f2.cell 1
      have z0 := f1.cell 0
      have z1 := f1.cell 1
      have zf := fun i => f1.frozen i
      simp at q0 q1 z0 z1
      have hbE := hb.setCell (p := ⟨w.heap.size, 0, none⟩) (Nat.le_refl _) (.int .i64 tk) |>.setCell (p := ⟨w.heap.size, 1, none⟩) (Nat.le_refl _) (.int .i64 ta)
      have hE := fill2 f1 (.int .i64 tk) (.int .i64 ta)
      go_wp2
      generalize (wr.setCell ⟨w.heap.size, 0, none⟩ (.int .i64 tk)).setCell ⟨w.heap.size, 1, none⟩ (.int .i64 ta) = WE at *
      have y0 := hE.cell 0
      have y1 := hE.cell 1
      simp at y0 y1
      refine bodyPost_ret (v := .tuple #[.agg #[.int .i64 tk, .int .i64 ta], .bool fd]) (by simp [results, Try.results25, go_sem, y0, y1]) rfl ?_
      exact ⟨by rw [HEND.out], hbE⟩
    · intro kk ca w2 cnt2 hwk hwc hlk hat hrg2 hlt2 hg2 hs2 hen
      have hmem := hd.mem_of kk ca hat
      have k2 : Keep (fun k => k = w.heap.size + 2) wr w2 := (Keep.of_grown hg2).mono fun i _ e => (Option.some.inj e).symm
      have g1 := f1.kept k2 (by omega)
      have g2 := f2.kept k2 (by omega)
      have hb2 := hb.trans (k2.below (B := w.heap.size) hsz (fun i hi e => by omega))
      have hz2 := k2.size
      clear hrg hat hlk hg2 k2 f1 f2 hb hs2
      have hrg3 := hrg2.alloc (.cells #[.int .i64 kk, .int .i64 ca] 56)
      have g13 := g1.alloc (.cells #[.int .i64 kk, .int .i64 ca] 56)
      have g23 := g2.alloc (.cells #[.int .i64 kk, .int .i64 ca] 56)
      have hb3 := hb2.alloc hb2.size (.cells #[.int .i64 kk, .int .i64 ca] 56)
      have hn3 := Blk.new w2 56 #[.int .i64 kk, .int .i64 ca]
      have hs3 : (w2.alloc (.cells #[.int .i64 kk, .int .i64 ca] 56)).heap.size = w2.heap.size + 1 := by simp
      cases fd with
      | false =>
        have hnext := Lib.hid (first_take hx hR.out hmem (fun h => by cases h))
        have q0 := g2.cell 0
        have q1 := g2.cell 1
        have qf := fun i => g2.frozen i
        simp at q0 q1
        have hl2 := g2.lt
        have hE := fill2 g2 (.int .i64 kk) (.int .i64 ca)
        have kE := keep2 w2 (w.heap.size + 1) (.int .i64 kk) (.int .i64 ca)
        have hrgE := (hrg2.kept (grown_keep kE) (by intro e; injection e with e; omega) (by intro e; injection e with e; omega)).alloc (.cells #[.int .i64 kk, .int .i64 ca] 56)
        have f1E := (g1.kept kE (by omega)).alloc (.cells #[.int .i64 kk, .int .i64 ca] 56)
        have f2E := hE.alloc (.cells #[.int .i64 kk, .int .i64 ca] 56)
        have hbE := (hb2.trans (kE.below (B := w.heap.size) hb2.size (fun i hi e => by omega))).alloc (by have := kE.size; omega) (.cells #[.int .i64 kk, .int .i64 ca] 56)
        clear hmem hR hrg3 g13 g23 hb3 hn3 g1 g2 hb2 hE kE hrg2
        go_wp2
        go_roundw
        case measure => rw [hrgE.left_eq, hmeas]; exact hlt2
        case rel => exact ⟨_, cnt2, true, (kk, ca), rfl, hrgE, f1E, f2E, hnext, hbE⟩
      | true =>
        have q0 := g23.cell 0
        have q1 := g23.cell 1
        simp at q0 q1
        have hord := order_any (kk, ca) (tk, ta) (w2.alloc (.cells #[.int .i64 kk, .int .i64 ca] 56))
        dsimp only at hord
        obtain ⟨cf, hcf⟩ : ∃ cf, cfT (kk, ca) (tk, ta) = cf := ⟨_, rfl⟩
        rw [hcf] at hord
        go_wp2_with fail
        refine hord.mono ?_
        rintro e w4 ⟨rfl, hw4⟩
        have hx4 : RowKit.Below (w2.alloc (.cells #[.int .i64 kk, .int .i64 ca] 56)).heap.size (w2.alloc (.cells #[.int .i64 kk, .int .i64 ca] 56)) w4 := by
          rw [hw4]
          exact ((((RowKit.Below.refl _ _).alloc (Nat.le_refl _) _).alloc (by simp) _).drew).alloc (by simp) _
        have k4 : Keep (fun k => (w2.alloc (.cells #[.int .i64 kk, .int .i64 ca] 56)).heap.size ≤ k) (w2.alloc (.cells #[.int .i64 kk, .int .i64 ca] 56)) w4 := Keep.of_below hx4
        have hrg4 := hrg3.kept (grown_below hx4) (fun e => by cases e) (fun e => by cases e)
        have g14 := g13.kept k4 (Nat.not_le.2 g13.lt)
        have g24 := g23.kept k4 (Nat.not_le.2 g23.lt)
        have hn4 := hn3.kept k4 (Nat.not_le.2 hn3.lt)
        have hb4 := hb3.trans (hx4.mono hb3.size)
        have hz4 := hx4.size
        clear hw4 hrg2 hrg3 g1 g2 g13 g23 hn3 hb2 hb3 hx4 k4 q0 q1 hord
        have n0 := hn4.cell 0
        have n1 := hn4.cell 1
        have q0 := g24.cell 0
        have q1 := g24.cell 1
        have qf := fun i => g24.frozen i
        simp at n0 n1 q0 q1
        by_cases hneg : cf < 0
        · have hlt : ltT (kk, ca) (tk, ta) := by rw [← cfT_iff]; unfold ltOf; rw [hcf]; exact decide_eq_true hneg
          have hnext := Lib.hid (first_take hx hR.out hmem (fun _ => hlt))
          have hE := fill2 g24 (.int .i64 kk) (.int .i64 ca)
          have kE := keep2 w4 (w.heap.size + 1) (.int .i64 kk) (.int .i64 ca)
          have hrgE := hrg4.kept (grown_keep kE) (by intro e; injection e with e; omega) (by intro e; injection e with e; omega)
          have f1E := g14.kept kE (by omega)
          have hbE := hb4.trans (kE.below (B := w.heap.size) hb4.size (fun i hi e => by omega))
          clear hlt hmem hR hrg4 g14 g24 hn4 hb4 kE hcf
          go_wp2
          go_roundw
          case measure => rw [hrgE.left_eq, hmeas]; exact hlt2
          case rel => exact ⟨_, cnt2, true, (kk, ca), rfl, hrgE, f1E, hE, hnext, hbE⟩
        · have hlt : ¬ ltT (kk, ca) (tk, ta) := by rw [← cfT_iff]; unfold ltOf; rw [hcf]; simp; omega
          have hnext := Lib.hid (first_leave hx hR.out hmem hlt)
          clear hlt hmem hR hn4 hcf
          go_wp2
          go_roundw
          case measure => rw [hrg4.left_eq, hmeas]; exact hlt2
          case rel => exact ⟨_, cnt2, true, (tk, ta), rfl, hrg4, g14, g24, hnext, hb4⟩
end Go.Proofs.Ytiinlcfggjcmoaa
