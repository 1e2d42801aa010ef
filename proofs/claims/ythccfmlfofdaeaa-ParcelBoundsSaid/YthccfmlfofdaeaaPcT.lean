/- What is told of a record. No condition but that its lists lie in memory. -/
import Derived.Test.YthccfmlfofdaeaaPcO
import Derived.Test.YthccfmlfofdaeaaTwo
import Derived.Test.YthccfmlfofdaeaaRgT
namespace Go.Proofs.Ythccfmlfofdaeaa
open Go.RowKit
set_option linter.unusedVariables false
set_option linter.unusedSimpArgs false

theorem fill4 {w : World} {g : Nat} {t : TypeId} {z0 z1 z2 z3 : Value} (h : Blk w g t #[z0, z1, z2, z3]) (x0 x1 x2 x3 : Value) : Blk ((((w.setCell ⟨g, 0, none⟩ x0).setCell ⟨g, 1, none⟩ x1).setCell ⟨g, 2, none⟩ x2).setCell ⟨g, 3, none⟩ x3) g t #[x0, x1, x2, x3] := by
  have := (((h.set_ 0 x0).set_ 1 x1).set_ 2 x2).set_ 3 x3
  simpa using this
theorem keep4 (w : World) (g : Nat) (x0 x1 x2 x3 : Value) : Keep (fun k => k = g) w ((((w.setCell ⟨g, 0, none⟩ x0).setCell ⟨g, 1, none⟩ x1).setCell ⟨g, 2, none⟩ x2).setCell ⟨g, 3, none⟩ x3) :=
  ((((Keep.refl (fun k => k = g) w).setCell (p := ⟨g, 0, none⟩) (fun _ => rfl) x0).setCell (p := ⟨g, 1, none⟩) (fun _ => rfl) x1).setCell (p := ⟨g, 2, none⟩) (fun _ => rfl) x2).setCell (p := ⟨g, 3, none⟩) (fun _ => rfl) x3
theorem kle {K : Nat} {w w' : World} (h : Hid (w.heap.size = K)) (hb : Below K w w') : K ≤ w'.heap.size := by have := h.out; have := hb.size; omega
/-- What is told: an order, three lists. -/
def Told (base : Nat) (w' : World) (o : Int) (wl sl bl : List It) (u : Value) : Prop :=
  ∃ A c A' c' A2 c2, u = .agg #[.int .i64 o, .slice A wl.length c, .slice A' sl.length c', .slice A2 bl.length c2] ∧ OI base w' (.slice A wl.length c) wl ∧ OI base w' (.slice A' sl.length c') sl ∧ OI base w' (.slice A2 bl.length c2) bl
set_option maxRecDepth 100000 in
set_option maxHeartbeats 3200000 in
theorem told_cells (o : Int) (wA sA bA : Option Addr) (wn wc sn sc bn bc : Nat) (wl sl bl : List It) (f0 f1 f2 f3 f4 f5 f6 f7 : Bool) (w : World) (hw : IL w wA wn wl) (hs : IL w sA sn sl) (hbk : IL w bA bn bl) (h1 : wn ≤ 1048576) (h2 : sn ≤ 1048576) (h3 : bn ≤ 1048576) :
    Calls Try.prog 27 #[.agg #[.int .i64 o, .slice wA wn wc, .slice sA sn sc, .slice bA bn bc, .bool f0, .bool f1, .bool f2, .bool f3, .bool f4, .bool f5, .bool f6, .bool f7]] w fun e w' => ∃ u, e = .returned u ∧ Told w.heap.size w' o wl sl bl u ∧ Below w.heap.size w w' := by
  have hba := ((Below.refl w.heap.size w).alloc (Nat.le_refl _) (.cells #[.int .i64 o, .slice wA wn wc, .slice sA sn sc, .slice bA bn bc, .bool f0, .bool f1, .bool f2, .bool f3, .bool f4, .bool f5, .bool f6, .bool f7] 55)).alloc (by simp) (.cells #[.int .i64 0, .slice none 0 0, .slice none 0 0, .slice none 0 0] 35)
  have hrb := (Blk.new w 55 #[.int .i64 o, .slice wA wn wc, .slice sA sn sc, .slice bA bn bc, .bool f0, .bool f1, .bool f2, .bool f3, .bool f4, .bool f5, .bool f6, .bool f7]).alloc (.cells #[.int .i64 0, .slice none 0 0, .slice none 0 0, .slice none 0 0] 35)
  have hzb := Blk.new (w.alloc (.cells #[.int .i64 o, .slice wA wn wc, .slice sA sn sc, .slice bA bn bc, .bool f0, .bool f1, .bool f2, .bool f3, .bool f4, .bool f5, .bool f6, .bool f7] 55)) 35 #[.int .i64 0, .slice none 0 0, .slice none 0 0, .slice none 0 0]
  rw [World.size_alloc] at hzb
  replace hw := (hw.alloc (.cells #[.int .i64 o, .slice wA wn wc, .slice sA sn sc, .slice bA bn bc, .bool f0, .bool f1, .bool f2, .bool f3, .bool f4, .bool f5, .bool f6, .bool f7] 55)).alloc (.cells #[.int .i64 0, .slice none 0 0, .slice none 0 0, .slice none 0 0] 35)
  replace hs := (hs.alloc (.cells #[.int .i64 o, .slice wA wn wc, .slice sA sn sc, .slice bA bn bc, .bool f0, .bool f1, .bool f2, .bool f3, .bool f4, .bool f5, .bool f6, .bool f7] 55)).alloc (.cells #[.int .i64 0, .slice none 0 0, .slice none 0 0, .slice none 0 0] 35)
  replace hbk := (hbk.alloc (.cells #[.int .i64 o, .slice wA wn wc, .slice sA sn sc, .slice bA bn bc, .bool f0, .bool f1, .bool f2, .bool f3, .bool f4, .bool f5, .bool f6, .bool f7] 55)).alloc (.cells #[.int .i64 0, .slice none 0 0, .slice none 0 0, .slice none 0 0] 35)
  go_enter Try.func27, Try.ntmps27
  go_upto_region 1 with fail
  generalize hrbn : w.heap.size = rb at *
  generalize hzbn : rb + 1 = zb at *
  generalize (w.alloc (.cells #[.int .i64 o, .slice wA wn wc, .slice sA sn sc, .slice bA bn bc, .bool f0, .bool f1, .bool f2, .bool f3, .bool f4, .bool f5, .bool f6, .bool f7] 55)).alloc (.cells #[.int .i64 0, .slice none 0 0, .slice none 0 0, .slice none 0 0] 35) = w1 at *
  have hne : rb ≠ zb := by omega
  have x0 := hrb.cell 0
  have x1 := hrb.cell 1
  have x2 := hrb.cell 2
  have x3 := hrb.cell 3
  simp at x0 x1 x2 x3
  have sd : (fun W => W.cell? ⟨rb, 0, none⟩ = some (.int .i64 o) ∧ W.cell? ⟨rb, 1, none⟩ = some (.slice wA wn wc) ∧ W.cell? ⟨rb, 2, none⟩ = some (.slice sA sn sc) ∧ W.cell? ⟨rb, 3, none⟩ = some (.slice bA bn bc)) w1.drew := ⟨x0, x1, x2, x3⟩
  replace hw := hw.drew
  replace hs := hs.drew
  replace hbk := hbk.drew
  replace hzb := hzb.drew
  replace hrb := hrb.drew
  replace hba := hba.drew
  clear x0 x1 x2 x3
  refine wp_region_held_drew (S := (fun W => W.cell? ⟨rb, 0, none⟩ = some (.int .i64 o) ∧ W.cell? ⟨rb, 1, none⟩ = some (.slice wA wn wc) ∧ W.cell? ⟨rb, 2, none⟩ = some (.slice sA sn sc) ∧ W.cell? ⟨rb, 3, none⟩ = some (.slice bA bn bc))) (by kernel_rfl) sd (fun hHeld => ?_)
  generalize w1.drew = w2 at *
  obtain ⟨KB, hKB⟩ : ∃ K, w2.heap.size = K := ⟨_, rfl⟩
  have hb0 := Below.refl w2.heap.size w2
  have hzK : zb < w2.heap.size := hzb.lt
  have hrK : rb < w2.heap.size := hrb.lt
  rw [hKB] at hb0 hzK hrK
  have HKB := Lib.hid hKB
  clear hKB
  have hS : ∀ W, Below KB w2 W → (fun W => W.cell? ⟨rb, 0, none⟩ = some (.int .i64 o) ∧ W.cell? ⟨rb, 1, none⟩ = some (.slice wA wn wc) ∧ W.cell? ⟨rb, 2, none⟩ = some (.slice sA sn sc) ∧ W.cell? ⟨rb, 3, none⟩ = some (.slice bA bn bc)) W := fun W hb => by
    have h9 := hrb.kept (Keep.of_below (by rw [HKB.out]; exact hb)) (Nat.not_le.2 hrb.lt)
    have x0 := h9.cell 0
    have x1 := h9.cell 1
    have x2 := h9.cell 2
    have x3 := h9.cell 3
    simp at x0 x1 x2 x3
    exact ⟨x0, x1, x2, x3⟩
  (refine tkI 0 (by (simp only [List.getElem?_toArray, List.getElem?_cons_succ, List.getElem?_cons_zero]; rfl)) (by kernel_rfl) (by kernel_rfl) (by kernel_rfl) (by exact fun _ _ _ h => h) (by rfl) (by (intro w hSw; (try dsimp only at hSw); go_simp <;> with_reducible rfl)) (by assumption) ?_; try simp only [Act.put, List.setIfInBounds_toArray, List.set_cons_zero, List.set_cons_succ])
  (refine tkI 1 (by (simp only [List.getElem?_toArray, List.getElem?_cons_succ, List.getElem?_cons_zero]; rfl)) (by kernel_rfl) (by kernel_rfl) (by kernel_rfl) (by exact fun _ _ _ h => h) (by rfl) (by (intro w hSw; (try dsimp only at hSw); go_simp <;> with_reducible rfl)) (by assumption) ?_; try simp only [Act.put, List.setIfInBounds_toArray, List.set_cons_zero, List.set_cons_succ])
  (refine tkI 2 (by (simp only [List.getElem?_toArray, List.getElem?_cons_succ, List.getElem?_cons_zero]; rfl)) (by kernel_rfl) (by kernel_rfl) (by kernel_rfl) (by exact fun _ _ _ h => h) (by rfl) (by (intro w hSw; (try dsimp only at hSw); go_simp <;> with_reducible rfl)) (by assumption) ?_; try simp only [Act.put, List.setIfInBounds_toArray, List.set_cons_zero, List.set_cons_succ])
  (refine tkI 3 (by (simp only [List.getElem?_toArray, List.getElem?_cons_succ, List.getElem?_cons_zero]; rfl)) (by kernel_rfl) (by kernel_rfl) (by kernel_rfl) (by exact fun _ _ _ h => h) (by rfl) (by (intro w hSw; (try dsimp only at hSw); go_simp <;> with_reducible rfl)) (by assumption) ?_; try simp only [Act.put, List.setIfInBounds_toArray, List.set_cons_zero, List.set_cons_succ])
  (refine tkI 4 (by (simp only [List.getElem?_toArray, List.getElem?_cons_succ, List.getElem?_cons_zero]; rfl)) (by kernel_rfl) (by kernel_rfl) (by kernel_rfl) (by exact fun _ _ _ h => h) (by rfl) (by (intro w hSw; (try dsimp only at hSw); go_simp <;> with_reducible rfl)) (by assumption) ?_; try simp only [Act.put, List.setIfInBounds_toArray, List.set_cons_zero, List.set_cons_succ])
  (refine tkI 5 (by (simp only [List.getElem?_toArray, List.getElem?_cons_succ, List.getElem?_cons_zero]; rfl)) (by kernel_rfl) (by kernel_rfl) (by kernel_rfl) (by exact fun _ _ _ h => h) (by rfl) (by (intro w hSw; (try dsimp only at hSw); go_simp <;> with_reducible rfl)) (by assumption) ?_; try simp only [Act.put, List.setIfInBounds_toArray, List.set_cons_zero, List.set_cons_succ])
  (refine tkI 7 (by (simp only [List.getElem?_toArray, List.getElem?_cons_succ, List.getElem?_cons_zero]; rfl)) (by kernel_rfl) (by kernel_rfl) (by kernel_rfl) (by exact fun _ _ _ h => h) (by rfl) (by (intro w hSw; (try dsimp only at hSw); go_simp <;> with_reducible rfl)) (by assumption) ?_; try simp only [Act.put, List.setIfInBounds_toArray, List.set_cons_zero, List.set_cons_succ])
  (refine tkI 8 (by (simp only [List.getElem?_toArray, List.getElem?_cons_succ, List.getElem?_cons_zero]; rfl)) (by kernel_rfl) (by kernel_rfl) (by kernel_rfl) (by exact fun _ _ _ h => h) (by rfl) (by (intro w hSw; (try dsimp only at hSw); go_simp <;> with_reducible rfl)) (by assumption) ?_; try simp only [Act.put, List.setIfInBounds_toArray, List.set_cons_zero, List.set_cons_succ])
  (refine tkI 9 (by (simp only [List.getElem?_toArray, List.getElem?_cons_succ, List.getElem?_cons_zero]; rfl)) (by kernel_rfl) (by kernel_rfl) (by kernel_rfl) (by exact fun _ _ _ h => h) (by rfl) (by (intro w hSw; (try dsimp only at hSw); go_simp <;> with_reducible rfl)) (by assumption) ?_; try simp only [Act.put, List.setIfInBounds_toArray, List.set_cons_zero, List.set_cons_succ])
  (refine tkI 11 (by (simp only [List.getElem?_toArray, List.getElem?_cons_succ, List.getElem?_cons_zero]; rfl)) (by kernel_rfl) (by kernel_rfl) (by kernel_rfl) (by exact fun _ _ _ h => h) (by rfl) (by (intro w hSw; (try dsimp only at hSw); go_simp <;> with_reducible rfl)) (by assumption) ?_; try simp only [Act.put, List.setIfInBounds_toArray, List.set_cons_zero, List.set_cons_succ])
  (refine tkI 12 (by (simp only [List.getElem?_toArray, List.getElem?_cons_succ, List.getElem?_cons_zero]; rfl)) (by kernel_rfl) (by kernel_rfl) (by kernel_rfl) (by exact fun _ _ _ h => h) (by rfl) (by (intro w hSw; (try dsimp only at hSw); go_simp <;> with_reducible rfl)) (by assumption) ?_; try simp only [Act.put, List.setIfInBounds_toArray, List.set_cons_zero, List.set_cons_succ])
  (refine tkI 13 (by (simp only [List.getElem?_toArray, List.getElem?_cons_succ, List.getElem?_cons_zero]; rfl)) (by kernel_rfl) (by kernel_rfl) (by kernel_rfl) (by exact fun _ _ _ h => h) (by rfl) (by (intro w hSw; (try dsimp only at hSw); go_simp <;> with_reducible rfl)) (by assumption) ?_; try simp only [Act.put, List.setIfInBounds_toArray, List.set_cons_zero, List.set_cons_succ])
  refine wpAnyH_ready (rs := [6]) (by kernel_rfl) (by simp) ?_
  refine AllReadyH.cons (by (simp only [List.getElem?_toArray, List.getElem?_cons_succ, List.getElem?_cons_zero]; rfl)) (fun K hK => ?_) AllReadyH.nil
  go_simp
  refine (clone_any wA wn wc _ _ (hw.below (by rw [HKB.out]; exact hb0)) (by omega)).mono ?_
  rintro e W6 ⟨v6, rfl, ho6, hx6⟩
  have hs6 := kle HKB hb0
  have hb6 := hb0.trans (hx6.mono hs6)
  obtain ⟨A6, c6, rfl, hfm6⟩ := ho6.form
  clear hfm6
  replace ho6 := ho6.mono hs6
  refine hK.out _ _ (hS _ hb6) (fun hHeld2 => ?_)
  clear hK K hHeld
  have hHeld := hHeld2
  clear hHeld2
  try simp only [Act.put, List.setIfInBounds_toArray, List.set_cons_zero, List.set_cons_succ]
  refine wpAnyH_ready (rs := [10]) (by kernel_rfl) (by simp) ?_
  refine AllReadyH.cons (by (simp only [List.getElem?_toArray, List.getElem?_cons_succ, List.getElem?_cons_zero]; rfl)) (fun K hK => ?_) AllReadyH.nil
  go_simp
  refine (clone_any sA sn sc _ _ (hs.below (by rw [HKB.out]; exact hb6)) (by omega)).mono ?_
  rintro e W10 ⟨v10, rfl, ho10, hx10⟩
  have hs10 := kle HKB hb6
  have hb10 := hb6.trans (hx10.mono hs10)
  obtain ⟨A10, c10, rfl, hfm10⟩ := ho10.form
  clear hfm10
  replace ho10 := ho10.mono hs10
  have ho6b := ho6.below hx10
  refine hK.out _ _ (hS _ hb10) (fun hHeld2 => ?_)
  clear hK K hHeld
  have hHeld := hHeld2
  clear hHeld2
  try simp only [Act.put, List.setIfInBounds_toArray, List.set_cons_zero, List.set_cons_succ]
  refine wpAnyH_ready (rs := [14]) (by kernel_rfl) (by simp) ?_
  refine AllReadyH.cons (by (simp only [List.getElem?_toArray, List.getElem?_cons_succ, List.getElem?_cons_zero]; rfl)) (fun K hK => ?_) AllReadyH.nil
  go_simp
  refine (clone_any bA bn bc _ _ (hbk.below (by rw [HKB.out]; exact hb10)) (by omega)).mono ?_
  rintro e W14 ⟨v14, rfl, ho14, hx14⟩
  have hs14 := kle HKB hb10
  have hb14 := hb10.trans (hx14.mono hs14)
  obtain ⟨A14, c14, rfl, hfm14⟩ := ho14.form
  clear hfm14
  replace ho14 := ho14.mono hs14
  have ho6c := ho6b.below hx14
  have ho10b := ho10.below hx14
  have hz := hzb.kept (Keep.of_below (by rw [HKB.out]; exact hb14)) (Nat.not_le.2 hzb.lt)
  have z0 := hz.cell 0
  have z1 := hz.cell 1
  have z2 := hz.cell 2
  have z3 := hz.cell 3
  have zf := fun i => hz.frozen i
  have zl := hz.lt
  simp at z0 z1 z2 z3
  refine hK.out _ _ (hS _ hb14) (fun hHeld2 => ?_)
  clear hK K hHeld
  have hHeld := hHeld2
  clear hHeld2
  try simp only [Act.put, List.setIfInBounds_toArray, List.set_cons_zero, List.set_cons_succ]
  (refine tkI 15 (by (simp only [List.getElem?_toArray, List.getElem?_cons_succ, List.getElem?_cons_zero]; rfl)) (by kernel_rfl) (by kernel_rfl) (by kernel_rfl) (by exact fun _ _ _ h => h) (by rfl) (by (intro w hSw; (try dsimp only at hSw); go_simp <;> with_reducible rfl)) (by assumption) ?_; try simp only [Act.put, List.setIfInBounds_toArray, List.set_cons_zero, List.set_cons_succ])
  refine wpAnyH_ready (rs := [16]) (by kernel_rfl) (by simp) ?_
  refine AllReadyH.cons (by (simp only [List.getElem?_toArray, List.getElem?_cons_succ, List.getElem?_cons_zero]; rfl)) (fun K hK => ?_) AllReadyH.nil
  go_simp
  have zE := fill4 hz (.int .i64 o) (.slice A6 wl.length c6) (.slice A10 sl.length c10) (.slice A14 bl.length c14)
  have kE := keep4 W14 zb (.int .i64 o) (.slice A6 wl.length c6) (.slice A10 sl.length c10) (.slice A14 bl.length c14)
  generalize (((W14.setCell ⟨zb, 0, none⟩ (.int .i64 o)).setCell ⟨zb, 1, none⟩ (.slice A6 wl.length c6)).setCell ⟨zb, 2, none⟩ (.slice A10 sl.length c10)).setCell ⟨zb, 3, none⟩ (.slice A14 bl.length c14) = WE at zE kE ⊢
  have o6 := ho6c.kept kE (fun g hg e => by have := (ho6c.lt g hg).1; omega)
  have o10 := ho10b.kept kE (fun g hg e => by have := (ho10b.lt g hg).1; omega)
  have o14 := ho14.kept kE (fun g hg e => by have := (ho14.lt g hg).1; omega)
  have s14 := hS _ hb14
  have sE := And.intro (kE.cell s14.1 (fun e => by dsimp only at e; omega)) (And.intro (kE.cell s14.2.1 (fun e => by dsimp only at e; omega)) (And.intro (kE.cell s14.2.2.1 (fun e => by dsimp only at e; omega)) (kE.cell s14.2.2.2 (fun e => by dsimp only at e; omega))))
  refine hK.out _ _ sE (fun hHeld2 => ?_)
  clear hK K hHeld
  have hHeld := hHeld2
  clear hHeld2
  try simp only [Act.put, List.setIfInBounds_toArray, List.set_cons_zero, List.set_cons_succ]
  refine wpAnyH_done (by kernel_rfl) ?_ _
  go_wp2
  have y0 := zE.cell 0
  have y1 := zE.cell 1
  have y2 := zE.cell 2
  have y3 := zE.cell 3
  simp at y0 y1 y2 y3
  have hbF := (hba.trans (hb14.mono (by omega))).trans (kE.below (B := rb) (by have := kle HKB hb14; omega) (fun i hi e => by omega))
  refine bodyPost_ret (v := .agg #[.int .i64 o, .slice A6 wl.length c6, .slice A10 sl.length c10, .slice A14 bl.length c14]) (by simp [results, Try.results27, go_sem, y0, y1, y2, y3]) rfl ?_
  exact ⟨_, rfl, ⟨A6, c6, A10, c10, A14, c14, rfl, o6.mono (by omega), o10.mono (by omega), o14.mono (by omega)⟩, hbF⟩
end Go.Proofs.Ythccfmlfofdaeaa
