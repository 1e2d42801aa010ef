/- The reference's code and body of a request. No condition but that its items lie in memory. -/
import Derived.Test.YtefgcknnnglkpaaRAskM
namespace Go.Proofs.Ytefgcknnnglkpaa
open Go.RowKit Go.Maps Go.Shelf
set_option linter.unusedVariables false
set_option linter.unusedSimpArgs false

/-- The reference's maker beside a box. -/
structure PR (base : Nat) (w : World) (g : Nat) (v : Value) (B : Nat) (cs : Array Value) (W : World) (v' : Value) (l' : List UInt8) (long' : Bool) : Prop where
  mo : RM base W g v' l' long'
  foot : Foot (MF g v) w (MF g v') W
  box : Blk W B 24 cs
  out : ¬ MF g v' B
theorem PR.step {base : Nat} {w : World} {g : Nat} {v : Value} {B : Nat} {cs : Array Value} {W W' : World} {v' v2 : Value} {l' l2 : List UInt8} {long' long2 : Bool} (h : PR base w g v B cs W v' l' long') (hm : RM base W' g v2 l2 long2) (hf : Foot (MF g v') W (MF g v2) W') : PR base w g v B cs W' v2 l2 long2 :=
  ⟨hm, h.foot.trans hf, h.box.kept hf.keep h.out, fun hb => by
    rcases hf.grow B hb with h2 | h2
    · exact h.out h2
    · have := h.box.lt
      omega⟩

set_option maxRecDepth 100000 in
set_option maxHeartbeats 6400000 in
theorem rbody_any (x : AV) (A : Option Addr) (cap : Nat) (w : World) (hl : IL w A x.l.length x.l) (hx : mayA x = true) :
    Calls Try.prog 75 #[x.v A cap] w fun e w' => Below w.heap.size w w' ∧ ∃ v, e = .returned v ∧ OB w.heap.size w' v (bodyA x) := by
  obtain ⟨_, _, _, f4, f5, f6, f7, f8, f9⟩ := mayA_facts hx
  have f3 := (mayA_facts hx).1
  have hln := (mayL_okI f9).1
  have hfit := putB_fits hx [] (by simp)
  rw [List.nil_append] at hfit
  obtain ⟨c, m, k, o, r, t, n, g, l⟩ := x
  unfold putB putsN at hfit
  simp only [List.foldl_cons, List.foldl_nil] at hfit
  dsimp only at hl f3 f4 f5 f6 f7 f8 f9 hln hfit
  have hFIT := Lib.hid hfit
  clear hfit hx
  have hSI := mayL_SI f9
  have hbx0 : Blk ((w.alloc (.cells (AV.cs ⟨c, m, k, o, r, t, n, g, l⟩ A cap) 24)).alloc (.cells #[.slice none 0 0, .bool false] 72)) w.heap.size 24 (AV.cs ⟨c, m, k, o, r, t, n, g, l⟩ A cap) := (Blk.new _ _ _).alloc _
  have hm0 : RM (w.heap.size + 1) ((w.alloc (.cells (AV.cs ⟨c, m, k, o, r, t, n, g, l⟩ A cap) 24)).alloc (.cells #[.slice none 0 0, .bool false] 72)) (w.heap.size + 1) (.slice none 0 0) [] false := by
    have hbk := Blk.new (w.alloc (.cells (AV.cs ⟨c, m, k, o, r, t, n, g, l⟩ A cap) 24)) 72 #[.slice none 0 0, .bool false]
    rw [World.size_alloc] at hbk
    exact ⟨hbk, Nat.le_refl _, OB.nil _ _, by simp⟩
  have hil0 := (hl.alloc (.cells (AV.cs ⟨c, m, k, o, r, t, n, g, l⟩ A cap) 24)).alloc (.cells #[.slice none 0 0, .bool false] 72)
  have hb0 := ((Below.refl w.heap.size w).alloc (Nat.le_refl _) (.cells (AV.cs ⟨c, m, k, o, r, t, n, g, l⟩ A cap) 24)).alloc (by simp only [World.size_alloc]; omega) (.cells #[.slice none 0 0, .bool false] 72)
  have hz0 : ((w.alloc (.cells (AV.cs ⟨c, m, k, o, r, t, n, g, l⟩ A cap) 24)).alloc (.cells #[.slice none 0 0, .bool false] 72)).heap.size = w.heap.size + 2 := by simp only [World.size_alloc]
  obtain ⟨W0, hW0⟩ : ∃ W, W = ((w.alloc (.cells (AV.cs ⟨c, m, k, o, r, t, n, g, l⟩ A cap) 24)).alloc (.cells #[.slice none 0 0, .bool false] 72)) := ⟨_, rfl⟩
  rw [← hW0] at hbx0 hm0 hil0 hb0 hz0
  have hP0 : PR (w.heap.size + 1) W0 (w.heap.size + 1) (.slice none 0 0) w.heap.size _ W0 (.slice none 0 0) [] false := ⟨hm0, Foot.refl _ _, hbx0, fun h => by have := foot_new h; omega⟩
  have hS0 := boxS (c := c) (m := m) (k := k) (o := o) (r := r) (t := t) (n := n) (g := g) (l := l) (A := A) (cap := cap) hbx0
  have hr0 : rst [] false = some [] := rfl
  rw [hW0] at hP0 hS0
  unfold AV.v
  unfold AV.cs at hP0 hS0
  dsimp only at hP0 hS0 ⊢
  go_enter Try.func75, Try.ntmps75
  go_wp2_with fail
  refine (rnum_any (w.heap.size + 1) (w.heap.size + 1) _ _ _ k _ hP0.mo (by omega) (by omega)).mono ?_
  rintro e w1 ⟨v1, l1, long1, rfl, hm1, hr1, hf1⟩
  rw [hr0] at hr1
  have hP1 := hP0.step hm1 hf1
  have hS1 := boxS (c := c) (m := m) (k := k) (o := o) (r := r) (t := t) (n := n) (g := g) (l := l) (A := A) (cap := cap) hP1.box
  clear hP0 hS0 hf1 hr0
  go_wp2_with fail
  refine (rnum_any (w.heap.size + 1) (w.heap.size + 1) _ _ _ o _ hP1.mo (by omega) (by omega)).mono ?_
  rintro e w2 ⟨v2, l2, long2, rfl, hm2, hr2, hf2⟩
  rw [hr1] at hr2
  have hP2 := hP1.step hm2 hf2
  have hS2 := boxS (c := c) (m := m) (k := k) (o := o) (r := r) (t := t) (n := n) (g := g) (l := l) (A := A) (cap := cap) hP2.box
  clear hP1 hS1 hf2 hr1
  go_wp2_with fail
  refine (rnum_any (w.heap.size + 1) (w.heap.size + 1) _ _ _ r _ hP2.mo (by omega) (by omega)).mono ?_
  rintro e w3 ⟨v3, l3, long3, rfl, hm3, hr3, hf3⟩
  rw [hr2] at hr3
  have hP3 := hP2.step hm3 hf3
  have hS3 := boxS (c := c) (m := m) (k := k) (o := o) (r := r) (t := t) (n := n) (g := g) (l := l) (A := A) (cap := cap) hP3.box
  clear hP2 hS2 hf3 hr2
  go_wp2_with fail
  refine (rnum_any (w.heap.size + 1) (w.heap.size + 1) _ _ _ t _ hP3.mo (by omega) (by omega)).mono ?_
  rintro e w4 ⟨v4, l4, long4, rfl, hm4, hr4, hf4⟩
  rw [hr3] at hr4
  have hP4 := hP3.step hm4 hf4
  have hS4 := boxS (c := c) (m := m) (k := k) (o := o) (r := r) (t := t) (n := n) (g := g) (l := l) (A := A) (cap := cap) hP4.box
  clear hP3 hS3 hf4 hr3
  go_wp2_with fail
  refine (rnum_any (w.heap.size + 1) (w.heap.size + 1) _ _ _ n _ hP4.mo (by omega) (by omega)).mono ?_
  rintro e w5 ⟨v5, l5, long5, rfl, hm5, hr5, hf5⟩
  rw [hr4] at hr5
  have hP5 := hP4.step hm5 hf5
  have hS5 := boxS (c := c) (m := m) (k := k) (o := o) (r := r) (t := t) (n := n) (g := g) (l := l) (A := A) (cap := cap) hP5.box
  clear hP4 hS4 hf5 hr4
  go_wp2_with fail
  refine (rtext_l (w.heap.size + 1) (w.heap.size + 1) _ _ _ g _ hP5.mo (by omega)).mono ?_
  rintro e w6 ⟨v6, l6, long6, rfl, hm6, hr6, hf6⟩
  rw [hr5] at hr6
  have hP6 := hP5.step hm6 hf6
  have hS6 := boxS (c := c) (m := m) (k := k) (o := o) (r := r) (t := t) (n := n) (g := g) (l := l) (A := A) (cap := cap) hP6.box
  clear hP5 hS5 hf6 hr5
  have hnm : ∀ i, MF (w.heap.size + 1) v6 i → w.heap.size < i := fun i hi => by
    rcases hP6.foot.grow i hi with h2 | h2
    · have := foot_new h2
      omega
    · simp only [World.size_alloc] at h2
      omega
  have hil6 : IL w6 A l.length l := by
    rw [hW0] at hil0
    refine hil0.kept hP6.foot.keep (fun ad h1 h2 h3 => ?_)
    have := hl.lt ad h1 h2
    have := foot_new h3
    omega
  go_wp2_with fail
  refine (riput_any (w.heap.size + 1) (w.heap.size + 1) _ _ _ A l.length cap l w6 hP6.mo hil6 hSI (by omega) (fun ad h1 h2 h3 => by have := hl.lt ad h1 h2; have := hnm _ h3; omega)).mono ?_
  rintro e w7 ⟨v7, l7, long7, rfl, hm7, hr7, hf7⟩
  rw [hr6, hFIT.out] at hr7
  have hP7 := hP6.step hm7 hf7
  cases long7 with
  | true => cases hr7
  | false =>
    simp only [rst] at hr7
    injection hr7 with hr7
    subst hr7
    have hc0 := hm7.blk.cell 0
    simp at hc0
    have hb7 : Below w.heap.size w w7 := by
      rw [hW0] at hb0
      refine hb0.trans (hP7.foot.keep.below (B := w.heap.size) hb0.size (fun i hi h2 => by have := foot_new h2; omega))
    go_wp2
    go_ret
    exact ⟨hb7, v7, rfl, hm7.own.mono (by omega)⟩

theorem wp_app {w : World} {o : Oper} {a : Act} {K : Act → World → Prop} {Q : Exit → Act → World → Prop} (s x : Operand) (ho : o.op = .call { callee := .builtin .append, args := #[s, x], argTypes := #[31, 31] })
    (base : Nat) (v : Value) (l : List UInt8) (hs : a.eval s = v) (hown : OB base w v l) (A : Option Addr) (m c : Nat) (news : List UInt8) (hx : a.eval x = .slice A m c) (hr : RB w A m news)
    (hn : l.length + m ≤ 140737488355328) (hbase : base ≤ w.heap.size)
    (h : ∀ v' w', Grew base w v w' v' (l ++ news) → K (a.put o.dst v') w') : o.wp Try.prog a w K Q := by
  obtain ⟨v', w', hrun, h2⟩ := run_app w base o.type v l hown A m c news hr hn hbase hr.none_zero
  unfold Oper.wp execOp
  simp only [ho, resolve, invoke, builtin, Sem.run_bind, Sem.run_pure, Result.andThen_ok, List.map_toArray, List.map_cons, List.map_nil, hs, hx, hrun]
  exact h v' w' h2
set_option maxRecDepth 100000 in
set_option maxHeartbeats 6400000 in
theorem raskencode_any (x : AV) (A : Option Addr) (cap : Nat) (w : World) (hl : IL w A x.l.length x.l) (hx : mayA x = true) :
    Calls Try.prog 46 #[x.v A cap] w fun e w' => Below w.heap.size w w' ∧ ∃ v, e = .returned v ∧ OB w.heap.size w' v (encA x) := by
  obtain ⟨_, ⟨f2, f2'⟩, ⟨f3, f3'⟩, _⟩ := mayA_facts hx
  have hln := encA_len hx
  have e0 : put (put (some []) (numCell x.c)) (numCell x.m) = some (numCell x.c ++ numCell x.m) := by
    have q1 := numCell_len x.c
    have q2 := numCell_len x.m
    rw [put_fits _ _ (by simp; omega), List.nil_append, put_fits _ _ (by omega)]
  have hE : encA x = (numCell x.c ++ numCell x.m) ++ bodyA x := rfl
  rw [hE, List.length_append, List.length_append] at hln
  rw [hE]
  have HE0 := Lib.hid e0
  clear e0 hE
  obtain ⟨c, m, k, o, r, t, n, g, l⟩ := x
  dsimp only at hl f2 f2' f3 f3' hln HE0 ⊢
  have hbx0 : Blk ((w.alloc (.cells (AV.cs ⟨c, m, k, o, r, t, n, g, l⟩ A cap) 24)).alloc (.cells #[.slice none 0 0, .bool false] 72)) w.heap.size 24 (AV.cs ⟨c, m, k, o, r, t, n, g, l⟩ A cap) := (Blk.new _ _ _).alloc _
  have hm0 : RM (w.heap.size + 1) ((w.alloc (.cells (AV.cs ⟨c, m, k, o, r, t, n, g, l⟩ A cap) 24)).alloc (.cells #[.slice none 0 0, .bool false] 72)) (w.heap.size + 1) (.slice none 0 0) [] false := by
    have hbk := Blk.new (w.alloc (.cells (AV.cs ⟨c, m, k, o, r, t, n, g, l⟩ A cap) 24)) 72 #[.slice none 0 0, .bool false]
    rw [World.size_alloc] at hbk
    exact ⟨hbk, Nat.le_refl _, OB.nil _ _, by simp⟩
  have hil0 := (hl.alloc (.cells (AV.cs ⟨c, m, k, o, r, t, n, g, l⟩ A cap) 24)).alloc (.cells #[.slice none 0 0, .bool false] 72)
  have hb0 := ((Below.refl w.heap.size w).alloc (Nat.le_refl _) (.cells (AV.cs ⟨c, m, k, o, r, t, n, g, l⟩ A cap) 24)).alloc (by simp only [World.size_alloc]; omega) (.cells #[.slice none 0 0, .bool false] 72)
  have hz0 : ((w.alloc (.cells (AV.cs ⟨c, m, k, o, r, t, n, g, l⟩ A cap) 24)).alloc (.cells #[.slice none 0 0, .bool false] 72)).heap.size = w.heap.size + 2 := by simp only [World.size_alloc]
  obtain ⟨W0, hW0⟩ : ∃ W, W = ((w.alloc (.cells (AV.cs ⟨c, m, k, o, r, t, n, g, l⟩ A cap) 24)).alloc (.cells #[.slice none 0 0, .bool false] 72)) := ⟨_, rfl⟩
  rw [← hW0] at hbx0 hm0 hil0 hb0 hz0
  have hP0 : PR (w.heap.size + 1) W0 (w.heap.size + 1) (.slice none 0 0) w.heap.size _ W0 (.slice none 0 0) [] false := ⟨hm0, Foot.refl _ _, hbx0, fun h => by have := foot_new h; omega⟩
  have hS0 := boxS (c := c) (m := m) (k := k) (o := o) (r := r) (t := t) (n := n) (g := g) (l := l) (A := A) (cap := cap) hbx0
  have hr0 : rst [] false = some [] := rfl
  rw [hW0] at hP0 hS0
  unfold AV.v
  unfold AV.cs at hP0 hS0
  dsimp only at hP0 hS0 ⊢
  go_enter Try.func46, Try.ntmps46
  go_wp2_with fail
  refine (rnum_any (w.heap.size + 1) (w.heap.size + 1) _ _ _ c _ hP0.mo (by omega) (by omega)).mono ?_
  rintro e w1 ⟨v1, l1, long1, rfl, hm1, hr1, hf1⟩
  rw [hr0] at hr1
  have hP1 := hP0.step hm1 hf1
  have hS1 := boxS (c := c) (m := m) (k := k) (o := o) (r := r) (t := t) (n := n) (g := g) (l := l) (A := A) (cap := cap) hP1.box
  clear hP0 hS0 hf1 hr0
  go_wp2_with fail
  refine (rnum_any (w.heap.size + 1) (w.heap.size + 1) _ _ _ m _ hP1.mo (by omega) (by omega)).mono ?_
  rintro e w2 ⟨v2, l2, long2, rfl, hm2, hr2, hf2⟩
  rw [hr1] at hr2
  have hP2 := hP1.step hm2 hf2
  have hS2 := boxS (c := c) (m := m) (k := k) (o := o) (r := r) (t := t) (n := n) (g := g) (l := l) (A := A) (cap := cap) hP2.box
  clear hP1 hS1 hf2 hr1
  rw [HE0.out] at hr2
  cases long2 with
  | true => cases hr2
  | false =>
    simp only [rst] at hr2
    injection hr2 with hr2
    subst hr2
    have hne4 : v2.ownBlock ≠ some (w.heap.size + 1) := fun e => hm2.own.ne_blk hm2.blk (by decide) e
    have hb2 : Below w.heap.size w w2.drew := by
      rw [hW0] at hb0
      exact Below.drew (hb0.trans (hP2.foot.keep.below (B := w.heap.size) hb0.size (fun i hi h2 => by have := foot_new h2; omega)))
    have hil2 : IL w2 A l.length l := by
      rw [hW0] at hil0
      refine hil0.kept hP2.foot.keep (fun ad h1 h2 h3 => ?_)
      have := hl.lt ad h1 h2
      have := foot_new h3
      omega
    have hcm2 := hm2.blk.cell 0
    simp at hcm2
    go_wp2_with fail
    refine wp_region_held_drew (S := (fun w' => w'.cell? ⟨w.heap.size, 0, none⟩ = some (.int .i64 c) ∧ w'.cell? ⟨w.heap.size, 1, none⟩ = some (.int .i64 m) ∧ w'.cell? ⟨w.heap.size, 2, none⟩ = some (.int .i64 k) ∧ w'.cell? ⟨w.heap.size, 3, none⟩ = some (.int .i64 o) ∧ w'.cell? ⟨w.heap.size, 4, none⟩ = some (.int .i64 r) ∧ w'.cell? ⟨w.heap.size, 5, none⟩ = some (.int .i64 t) ∧ w'.cell? ⟨w.heap.size, 6, none⟩ = some (.int .i64 n) ∧ w'.cell? ⟨w.heap.size, 7, none⟩ = some (.string ⟨g.toArray⟩) ∧ w'.cell? ⟨w.heap.size, 8, none⟩ = some (.slice A l.length cap) ∧ w'.cell? ⟨w.heap.size + 1, 0, none⟩ = some v2)) (by kernel_rfl) ⟨hS2.1, hS2.2.1, hS2.2.2.1, hS2.2.2.2.1, hS2.2.2.2.2.1, hS2.2.2.2.2.2.1, hS2.2.2.2.2.2.2.1, hS2.2.2.2.2.2.2.2.1, hS2.2.2.2.2.2.2.2.2, hcm2⟩ (fun hHeld => ?_)
    refine wpAnyH_take (i := 0) (oi := ?oi0) (v := ?v0) ?hi0 (by kernel_rfl) (by kernel_rfl) (by kernel_rfl) ?hq0 (Or.inl ⟨?hw0, ?hy0⟩) (by assumption) ?rest0
    case hi0 => (simp only [List.getElem?_toArray, List.getElem?_cons_succ, List.getElem?_cons_zero]; rfl)
    case hq0 => exact fun _ _ _ h => h
    case hw0 => rfl
    case hy0 => (intro w hSw; (try dsimp only at hSw); go_simp <;> with_reducible rfl)
    try simp only [Act.put, List.setIfInBounds_toArray, List.set_cons_zero, List.set_cons_succ]
    refine wpAnyH_take (i := 1) (oi := ?oi1) (v := ?v1) ?hi1 (by kernel_rfl) (by kernel_rfl) (by kernel_rfl) ?hq1 (Or.inl ⟨?hw1, ?hy1⟩) (by assumption) ?rest1
    case hi1 => (simp only [List.getElem?_toArray, List.getElem?_cons_succ, List.getElem?_cons_zero]; rfl)
    case hq1 => exact fun _ _ _ h => h
    case hw1 => rfl
    case hy1 => (intro w hSw; (try dsimp only at hSw); go_simp <;> with_reducible rfl)
    try simp only [Act.put, List.setIfInBounds_toArray, List.set_cons_zero, List.set_cons_succ]
    refine wpAnyH_take (i := 2) (oi := ?oi2) (v := ?v2) ?hi2 (by kernel_rfl) (by kernel_rfl) (by kernel_rfl) ?hq2 (Or.inl ⟨?hw2, ?hy2⟩) (by assumption) ?rest2
    case hi2 => (simp only [List.getElem?_toArray, List.getElem?_cons_succ, List.getElem?_cons_zero]; rfl)
    case hq2 => exact fun _ _ _ h => h
    case hw2 => rfl
    case hy2 => (intro w hSw; (try dsimp only at hSw); go_simp <;> with_reducible rfl)
    try simp only [Act.put, List.setIfInBounds_toArray, List.set_cons_zero, List.set_cons_succ]
    refine wpAnyH_take (i := 3) (oi := ?oi3) (v := ?v3) ?hi3 (by kernel_rfl) (by kernel_rfl) (by kernel_rfl) ?hq3 (Or.inl ⟨?hw3, ?hy3⟩) (by assumption) ?rest3
    case hi3 => (simp only [List.getElem?_toArray, List.getElem?_cons_succ, List.getElem?_cons_zero]; rfl)
    case hq3 => exact fun _ _ _ h => h
    case hw3 => rfl
    case hy3 => (intro w hSw; (try dsimp only at hSw); go_simp <;> with_reducible rfl)
    try simp only [Act.put, List.setIfInBounds_toArray, List.set_cons_zero, List.set_cons_succ]
    refine wpAnyH_take (i := 4) (oi := ?oi4) (v := ?v4) ?hi4 (by kernel_rfl) (by kernel_rfl) (by kernel_rfl) ?hq4 (Or.inl ⟨?hw4, ?hy4⟩) (by assumption) ?rest4
    case hi4 => (simp only [List.getElem?_toArray, List.getElem?_cons_succ, List.getElem?_cons_zero]; rfl)
    case hq4 => exact fun _ _ _ h => h
    case hw4 => rfl
    case hy4 => (intro w hSw; (try dsimp only at hSw); go_simp <;> with_reducible rfl)
    try simp only [Act.put, List.setIfInBounds_toArray, List.set_cons_zero, List.set_cons_succ]
    refine wpAnyH_ready (rs := [5]) (by kernel_rfl) (by simp) ?_
    refine AllReadyH.cons (o := ?o5) ?hi5 (fun K hK => ?st5) AllReadyH.nil
    case hi5 => (simp only [List.getElem?_toArray, List.getElem?_cons_succ, List.getElem?_cons_zero]; rfl)
    go_simp
    refine (rbody_any ⟨c, m, k, o, r, t, n, g, l⟩ A cap _ hil2.drew hx).mono ?_
    rintro e w3 ⟨hx3, v3, rfl, ho3⟩
    have hx3 : Below w2.drew.heap.size w2.drew w3 := hx3
    obtain ⟨A3, c3, rfl, hl3, hc3', hr3, _⟩ := ho3.form
    have hbx3 := hP2.box.drew.kept (Keep.of_below hx3) (fun h => absurd hP2.box.lt (Nat.not_lt.2 h))
    have hbk3 := hm2.blk.drew.kept (Keep.of_below hx3) (fun h => absurd hm2.blk.lt (Nat.not_lt.2 h))
    have how3 := hm2.own.drew.kept (Keep.of_below hx3) (fun i hi h => absurd (hm2.own.lt i hi).2 (Nat.not_lt.2 h))
    have hb3 := hb2.trans (hx3.mono hb2.size)
    have hS3 := boxS (c := c) (m := m) (k := k) (o := o) (r := r) (t := t) (n := n) (g := g) (l := l) (A := A) (cap := cap) hbx3
    have hcm3 := hbk3.cell 0
    simp at hcm3
    go_wp2_with fail
    refine hK.out _ _ ⟨hS3.1, hS3.2.1, hS3.2.2.1, hS3.2.2.2.1, hS3.2.2.2.2.1, hS3.2.2.2.2.2.1, hS3.2.2.2.2.2.2.1, hS3.2.2.2.2.2.2.2.1, hS3.2.2.2.2.2.2.2.2, hcm3⟩ (fun hHeld2 => ?_)
    clear hK K hHeld
    have hHeld := hHeld2
    clear hHeld2
    try simp only [Act.put, List.setIfInBounds_toArray, List.set_cons_zero, List.set_cons_succ]
    refine wpAnyH_ready (rs := [6]) (by kernel_rfl) (by simp) ?_
    refine AllReadyH.cons (o := ?o6) ?hi6 (fun K hK => ?st6) AllReadyH.nil
    case hi6 => (simp only [List.getElem?_toArray, List.getElem?_cons_succ, List.getElem?_cons_zero]; rfl)
    rw [if_pos (by rfl)]
    refine wp_app (.tmp 17) (.tmp 19) rfl (w.heap.size + 1) v2 (numCell c ++ numCell m) rfl how3 A3 _ c3 _ rfl hr3 (by rw [List.length_append]; omega) (by have := hb3.size; have := hx3.size; have : w2.heap.size ≤ w3.heap.size := hx3.size; have := hP2.foot.keep.size; simp only [World.size_alloc] at this; omega) ?_
    intro v4 w4 hg4
    have ho4 := hg4.own
    have hv4 : ∀ i, v2.ownBlock = some i → w.heap.size < i := fun i hi => by have := (how3.lt i hi).1; omega
    have hb4 : Below w.heap.size w w4 := hb3.trans (hg4.keep.below (B := w.heap.size) hb3.size (fun i hi e => by have := hv4 i e; omega))
    have hbx4 := hbx3.kept hg4.keep (fun e => by have := hv4 _ e; omega)
    have hbk4 := hbk3.kept hg4.keep (fun e => hne4 e)
    have hS4 := boxS (c := c) (m := m) (k := k) (o := o) (r := r) (t := t) (n := n) (g := g) (l := l) (A := A) (cap := cap) hbx4
    have hcm4 := hbk4.cell 0
    simp at hcm4
    refine hK.out _ _ ⟨hS4.1, hS4.2.1, hS4.2.2.1, hS4.2.2.2.1, hS4.2.2.2.2.1, hS4.2.2.2.2.2.1, hS4.2.2.2.2.2.2.1, hS4.2.2.2.2.2.2.2.1, hS4.2.2.2.2.2.2.2.2, hcm4⟩ (fun hHeld2 => ?_)
    clear hK K hHeld
    have hHeld := hHeld2
    clear hHeld2
    try simp only [Act.put, List.setIfInBounds_toArray, List.set_cons_zero, List.set_cons_succ]
    refine wpAnyH_take (i := 7) (oi := ?oi7) (v := ?v7) ?hi7 (by kernel_rfl) (by kernel_rfl) (by kernel_rfl) ?hq7 (Or.inl ⟨?hw7, ?hy7⟩) (by assumption) ?rest7
    case hi7 => (simp only [List.getElem?_toArray, List.getElem?_cons_succ, List.getElem?_cons_zero]; rfl)
    case hq7 => exact fun _ _ _ h => h
    case hw7 => rfl
    case hy7 => (intro w hSw; (try dsimp only at hSw); go_simp <;> with_reducible rfl)
    try simp only [Act.put, List.setIfInBounds_toArray, List.set_cons_zero, List.set_cons_succ]
    refine wpAnyH_done (by kernel_rfl) ?_ _
    go_wp2
    go_ret
    exact ⟨hb4, v4, rfl, ho4.mono (by omega)⟩
end Go.Proofs.Ytefgcknnnglkpaa
