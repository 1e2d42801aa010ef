/- Parcels: Back and Undo, whatever they are told. No condition but that they lie in memory. -/
import Derived.Test.YthccfmlfofdaeaaPcY
namespace Go.Proofs.Ythccfmlfofdaeaa
open Go.RowKit Go.Maps Go.Shelf Go.Sort
set_option linter.unusedVariables false
set_option linter.unusedSimpArgs false

theorem grown_facts3 {w w' : World} {rb : Nat} {t : TypeId} {c0 c1 c2 : Value} {cs : List Value} {pe x : Int} {cv : Bool} {R : List It} (h : Grown w.heap.size w w' ⟨rb, 3, none⟩ pe cv R x) (hB : Blk w rb t (c0 :: c1 :: c2 :: cs).toArray) :
    Keep (fun k => k = rb) w w' ∧ w'.cell? ⟨rb, 2, none⟩ = some c2 := by
  rcases h with ⟨_, _, _, W, v, _, hb, rfl⟩ | ⟨_, _, hb⟩
  · have hB2 := (hB.kept (Keep.of_below hb) (Nat.not_le.2 hB.lt)).set_ 3 v
    have := hB2.cell 2
    simp at this
    exact ⟨Keep.setCell (S := fun k => k = rb) (Keep.ofB hb) (p := ⟨rb, 3, none⟩) (fun _ => rfl) v, this⟩
  · have hB2 := hB.kept (Keep.of_below hb) (Nat.not_le.2 hB.lt)
    have := hB2.cell 2
    simp at this
    exact ⟨Keep.ofB hb, this⟩
theorem grown_back {w0 w w' : World} {rb : Nat} {c0 c1 c2 c3 : Value} {cs : List Value} {x : Int} {sl ll wl : List It} {C : Value → Array Value} (h : Grown w.heap.size w w' ⟨rb, 3, none⟩ (plusE sl ll) (coversL wl (plusR sl ll)) (plusR sl ll) x) (hB : Blk w rb 55 (c0 :: c1 :: c2 :: c3 :: cs).toArray) (hk : Keep (fun k => k = rb) w0 w) (hr : rb < w0.heap.size) (hC : ∀ v, (c0 :: c1 :: c2 :: v :: cs).toArray = C v) :
    Shipped w0.heap.size w0 w' rb C sl ll wl x := by
  refine ⟨hk.trans (grown_facts3 h hB).1 (fun i hi e => e), ?_⟩
  rcases h with ⟨h1, h2, h3, W, v, ho, hb, rfl⟩ | ⟨h1, h2, _⟩
  · refine .inl ⟨h1, h2, h3, v, ?_, ?_⟩
    · have k : Keep (fun k => k = rb) W (W.setCell ⟨rb, 3, none⟩ v) := Keep.setCell (S := fun k => k = rb) (Keep.refl _ W) (p := ⟨rb, 3, none⟩) (fun _ => rfl) v
      exact (ho.kept k (fun g hg e => by have := (ho.lt g hg).1; have := hk.size; omega)).mono hk.size
    · have hB2 := (hB.kept (Keep.of_below hb) (Nat.not_le.2 hB.lt)).set_ 3 v
      rw [← hC]
      simpa using hB2
  · exact .inr ⟨h1, h2⟩
/-- The cells behind Back's and Undo's closures. -/
def backCs (r : Rec) (v : Value) : Array Value := #[.int .i64 r.o, r.w.v, r.s.v, v, .bool r.f.f0, .bool r.f.f1, .bool r.f.f2, .bool r.f.f3, .bool r.f.f4, .bool r.f.f5, .bool r.f.f6, .bool r.f.f7]
set_option maxRecDepth 100000 in
set_option maxHeartbeats 3200000 in
theorem back1_any {w : World} {rb g : Nat} (r : Rec) (A : Option Addr) (n c : Nat) (ll : List It) (hB : Blk w rb 55 r.cs.toArray) (hg : w.cell? ⟨g, 0, none⟩ = some (.slice A n c)) (hn1 : g ≠ rb) (hs : IL w r.s.A r.s.n r.s.l) (hl : IL w A n ll) (hbk : IL w r.b.A r.b.n r.b.l) (hns : r.s.n ≤ 500000) (hnl : n ≤ 500000) (hnb : r.b.n ≤ 500000) (hW : WL r.b.l) (hW2 : WL ll) (hwp : plusE r.b.l ll = 0 → WL (plusR r.b.l ll)) (hfew : (plusR r.b.l ll).length ≤ 500000) :
    Calls Try.prog 24 #[.pointer (some ⟨rb, 0, none⟩), .pointer (some ⟨g, 0, none⟩)] w fun e w' => ∃ x, e = .returned (.int .i64 x) ∧ Shipped w.heap.size w w' rb (backCs r) r.b.l ll r.s.l x := by
  obtain ⟨o, ⟨wA, wn, wc, wl⟩, ⟨sA, sn, sc, sl⟩, ⟨bA, bn, bc, bl⟩, ⟨f0, f1, f2, f3, f4, f5, f6, f7⟩⟩ := r
  dsimp only at hs hbk hns hnb hW hwp hfew ⊢
  change Blk w rb 55 #[.int .i64 o, .slice wA wn wc, .slice sA sn sc, .slice bA bn bc, .bool f0, .bool f1, .bool f2, .bool f3, .bool f4, .bool f5, .bool f6, .bool f7] at hB
  have q2 := hB.cell 2
  simp at q2
  go_enter Try.func24, Try.ntmps24
  go_upto_region 1 with fail
  have sd : (fun W => W.cell? ⟨g, 0, none⟩ = some (.slice A n c) ∧ W.cell? ⟨rb, 2, none⟩ = some (.slice sA sn sc)) w.drew := ⟨hg, q2⟩
  have hk5 : Keep (fun k => k = rb) w w.drew := ⟨rfl, rfl, rfl, Nat.le_refl _, fun _ _ _ => rfl⟩
  have hlt0 := hB.lt
  replace hB := hB.drew
  replace hs := hs.drew
  replace hl := hl.drew
  replace hbk := hbk.drew
  refine wp_region_held_drew (S := (fun W => W.cell? ⟨g, 0, none⟩ = some (.slice A n c) ∧ W.cell? ⟨rb, 2, none⟩ = some (.slice sA sn sc))) (by kernel_rfl) sd (fun hHeld => ?_)
  generalize w.drew = w5 at *
  have hc5 := hB.cell 3
  simp at hc5
  (refine tkI 0 (by (simp only [List.getElem?_toArray, List.getElem?_cons_succ, List.getElem?_cons_zero]; rfl)) (by kernel_rfl) (by kernel_rfl) (by kernel_rfl) (by exact fun _ _ _ h => h) (by rfl) (by (intro w hSw; (try dsimp only at hSw); go_simp <;> with_reducible rfl)) (by assumption) ?_; try simp only [Act.put, List.setIfInBounds_toArray, List.set_cons_zero, List.set_cons_succ])
  (refine tkI 1 (by (simp only [List.getElem?_toArray, List.getElem?_cons_succ, List.getElem?_cons_zero]; rfl)) (by kernel_rfl) (by kernel_rfl) (by kernel_rfl) (by exact fun _ _ _ h => h) (by rfl) (by (intro w hSw; (try dsimp only at hSw); go_simp <;> with_reducible rfl)) (by assumption) ?_; try simp only [Act.put, List.setIfInBounds_toArray, List.set_cons_zero, List.set_cons_succ])
  (refine tkI 2 (by (simp only [List.getElem?_toArray, List.getElem?_cons_succ, List.getElem?_cons_zero]; rfl)) (by kernel_rfl) (by kernel_rfl) (by kernel_rfl) (by exact fun _ _ _ h => h) (by rfl) (by (intro w hSw; (try dsimp only at hSw); go_simp <;> with_reducible rfl)) (by assumption) ?_; try simp only [Act.put, List.setIfInBounds_toArray, List.set_cons_zero, List.set_cons_succ])
  (refine tkI 3 (by (simp only [List.getElem?_toArray, List.getElem?_cons_succ, List.getElem?_cons_zero]; rfl)) (by kernel_rfl) (by kernel_rfl) (by kernel_rfl) (by exact fun _ _ _ h => h) (by rfl) (by (intro w hSw; (try dsimp only at hSw); go_simp <;> with_reducible rfl)) (by assumption) ?_; try simp only [Act.put, List.setIfInBounds_toArray, List.set_cons_zero, List.set_cons_succ])
  (refine tkI 4 (by (simp only [List.getElem?_toArray, List.getElem?_cons_succ, List.getElem?_cons_zero]; rfl)) (by kernel_rfl) (by kernel_rfl) (by kernel_rfl) (by exact fun _ _ _ h => h) (by rfl) (by (intro w hSw; (try dsimp only at hSw); go_simp <;> with_reducible rfl)) (by assumption) ?_; try simp only [Act.put, List.setIfInBounds_toArray, List.set_cons_zero, List.set_cons_succ])
  (refine tkI 5 (by (simp only [List.getElem?_toArray, List.getElem?_cons_succ, List.getElem?_cons_zero]; rfl)) (by kernel_rfl) (by kernel_rfl) (by kernel_rfl) (by exact fun _ _ _ h => h) (by rfl) (by (intro w hSw; (try dsimp only at hSw); go_simp <;> with_reducible rfl)) (by assumption) ?_; try simp only [Act.put, List.setIfInBounds_toArray, List.set_cons_zero, List.set_cons_succ])
  (refine tkI 6 (by (simp only [List.getElem?_toArray, List.getElem?_cons_succ, List.getElem?_cons_zero]; rfl)) (by kernel_rfl) (by kernel_rfl) (by kernel_rfl) (by exact fun _ _ _ h => h) (by rfl) (by (intro w hSw; (try dsimp only at hSw); go_simp <;> with_reducible rfl)) (by assumption) ?_; try simp only [Act.put, List.setIfInBounds_toArray, List.set_cons_zero, List.set_cons_succ])
  (refine tkI 7 (by (simp only [List.getElem?_toArray, List.getElem?_cons_succ, List.getElem?_cons_zero]; rfl)) (by kernel_rfl) (by kernel_rfl) (by kernel_rfl) (by exact fun _ _ _ h => h) (by rfl) (by (intro w hSw; (try dsimp only at hSw); go_simp <;> with_reducible rfl)) (by assumption) ?_; try simp only [Act.put, List.setIfInBounds_toArray, List.set_cons_zero, List.set_cons_succ])
  (refine tkI 8 (by (simp only [List.getElem?_toArray, List.getElem?_cons_succ, List.getElem?_cons_zero]; rfl)) (by kernel_rfl) (by kernel_rfl) (by kernel_rfl) (by exact fun _ _ _ h => h) (by rfl) (by (intro w hSw; (try dsimp only at hSw); go_simp <;> with_reducible rfl)) (by assumption) ?_; try simp only [Act.put, List.setIfInBounds_toArray, List.set_cons_zero, List.set_cons_succ])
  (refine tkI 9 (by (simp only [List.getElem?_toArray, List.getElem?_cons_succ, List.getElem?_cons_zero]; rfl)) (by kernel_rfl) (by kernel_rfl) (by kernel_rfl) (by exact fun _ _ _ h => h) (by rfl) (by (intro w hSw; (try dsimp only at hSw); go_simp <;> with_reducible rfl)) (by assumption) ?_; try simp only [Act.put, List.setIfInBounds_toArray, List.set_cons_zero, List.set_cons_succ])
  refine wpAnyH_ready (rs := [10]) (by kernel_rfl) (by simp) ?_
  refine AllReadyH.cons (by (simp only [List.getElem?_toArray, List.getElem?_cons_succ, List.getElem?_cons_zero]; rfl)) (fun K hK => ?_) AllReadyH.nil
  go_simp
  refine (grow_any (cs := _) hB bA A sA bn bc n c sn sc bl ll sl hc5 hbk hl hs hnb hnl hns hW hW2 hwp hfew).mono ?_
  rintro e w8 ⟨x, rfl, hG⟩
  have hx := grown_facts3 hG hB
  obtain ⟨hk8, c8⟩ := hx
  have s8 := And.intro (hk8.cell sd.1 hn1) c8
  refine hK.out _ _ s8 (fun hHeld2 => ?_)
  clear hK K hHeld
  have hHeld := hHeld2
  clear hHeld2
  try simp only [Act.put, List.setIfInBounds_toArray, List.set_cons_zero, List.set_cons_succ]
  (refine tkI 11 (by (simp only [List.getElem?_toArray, List.getElem?_cons_succ, List.getElem?_cons_zero]; rfl)) (by kernel_rfl) (by kernel_rfl) (by kernel_rfl) (by exact fun _ _ _ h => h) (by rfl) (by (intro w hSw; (try dsimp only at hSw); go_simp <;> with_reducible rfl)) (by assumption) ?_; try simp only [Act.put, List.setIfInBounds_toArray, List.set_cons_zero, List.set_cons_succ])
  refine wpAnyH_done (by kernel_rfl) ?_ _
  go_wp2
  go_ret
  exact ⟨_, rfl, grown_back hG hB hk5 hlt0 (fun v => rfl)⟩
set_option maxRecDepth 100000 in
set_option maxHeartbeats 3200000 in
theorem undo1_any {w : World} {rb g : Nat} (r : Rec) (A : Option Addr) (n c : Nat) (ll : List It) (hB : Blk w rb 55 r.cs.toArray) (hg : w.cell? ⟨g, 0, none⟩ = some (.slice A n c)) (hn1 : g ≠ rb) (hs : IL w r.s.A r.s.n r.s.l) (hl : IL w A n ll) (hbk : IL w r.b.A r.b.n r.b.l) (hns : r.s.n ≤ 500000) (hnl : n ≤ 500000) (hnb : r.b.n ≤ 500000) (hW : WL r.b.l) (hW2 : WL ll) :
    Calls Try.prog 25 #[.pointer (some ⟨rb, 0, none⟩), .pointer (some ⟨g, 0, none⟩)] w fun e w' => e = .returned (.int .i64 (minusE r.b.l ll)) ∧ Keep (fun k => k = rb) w w' ∧ ∃ v, OI w.heap.size w' v (minusR r.b.l ll) ∧ Blk w' rb 55 (backCs r v) := by
  obtain ⟨o, ⟨wA, wn, wc, wl⟩, ⟨sA, sn, sc, sl⟩, ⟨bA, bn, bc, bl⟩, ⟨f0, f1, f2, f3, f4, f5, f6, f7⟩⟩ := r
  dsimp only at hs hbk hns hnb hW ⊢
  change Blk w rb 55 #[.int .i64 o, .slice wA wn wc, .slice sA sn sc, .slice bA bn bc, .bool f0, .bool f1, .bool f2, .bool f3, .bool f4, .bool f5, .bool f6, .bool f7] at hB
  have q3 := hB.cell 3
  simp at q3
  go_enter Try.func25, Try.ntmps25
  go_upto_region 1 with fail
  have sd : (fun W => W.cell? ⟨g, 0, none⟩ = some (.slice A n c) ∧ W.cell? ⟨rb, 3, none⟩ = some (.slice bA bn bc)) w.drew := ⟨hg, q3⟩
  have hb5 := (Below.refl w.heap.size w).drew
  have hlt0 := hB.lt
  replace hB := hB.drew
  replace hl := hl.drew
  replace hbk := hbk.drew
  refine wp_region_held_drew (S := (fun W => W.cell? ⟨g, 0, none⟩ = some (.slice A n c) ∧ W.cell? ⟨rb, 3, none⟩ = some (.slice bA bn bc))) (by kernel_rfl) sd (fun hHeld => ?_)
  generalize w.drew = w5 at *
  (refine tkI 0 (by (simp only [List.getElem?_toArray, List.getElem?_cons_succ, List.getElem?_cons_zero]; rfl)) (by kernel_rfl) (by kernel_rfl) (by kernel_rfl) (by exact fun _ _ _ h => h) (by rfl) (by (intro w hSw; (try dsimp only at hSw); go_simp <;> with_reducible rfl)) (by assumption) ?_; try simp only [Act.put, List.setIfInBounds_toArray, List.set_cons_zero, List.set_cons_succ])
  (refine tkI 1 (by (simp only [List.getElem?_toArray, List.getElem?_cons_succ, List.getElem?_cons_zero]; rfl)) (by kernel_rfl) (by kernel_rfl) (by kernel_rfl) (by exact fun _ _ _ h => h) (by rfl) (by (intro w hSw; (try dsimp only at hSw); go_simp <;> with_reducible rfl)) (by assumption) ?_; try simp only [Act.put, List.setIfInBounds_toArray, List.set_cons_zero, List.set_cons_succ])
  (refine tkI 2 (by (simp only [List.getElem?_toArray, List.getElem?_cons_succ, List.getElem?_cons_zero]; rfl)) (by kernel_rfl) (by kernel_rfl) (by kernel_rfl) (by exact fun _ _ _ h => h) (by rfl) (by (intro w hSw; (try dsimp only at hSw); go_simp <;> with_reducible rfl)) (by assumption) ?_; try simp only [Act.put, List.setIfInBounds_toArray, List.set_cons_zero, List.set_cons_succ])
  (refine tkI 3 (by (simp only [List.getElem?_toArray, List.getElem?_cons_succ, List.getElem?_cons_zero]; rfl)) (by kernel_rfl) (by kernel_rfl) (by kernel_rfl) (by exact fun _ _ _ h => h) (by rfl) (by (intro w hSw; (try dsimp only at hSw); go_simp <;> with_reducible rfl)) (by assumption) ?_; try simp only [Act.put, List.setIfInBounds_toArray, List.set_cons_zero, List.set_cons_succ])
  (refine tkI 4 (by (simp only [List.getElem?_toArray, List.getElem?_cons_succ, List.getElem?_cons_zero]; rfl)) (by kernel_rfl) (by kernel_rfl) (by kernel_rfl) (by exact fun _ _ _ h => h) (by rfl) (by (intro w hSw; (try dsimp only at hSw); go_simp <;> with_reducible rfl)) (by assumption) ?_; try simp only [Act.put, List.setIfInBounds_toArray, List.set_cons_zero, List.set_cons_succ])
  (refine tkI 5 (by (simp only [List.getElem?_toArray, List.getElem?_cons_succ, List.getElem?_cons_zero]; rfl)) (by kernel_rfl) (by kernel_rfl) (by kernel_rfl) (by exact fun _ _ _ h => h) (by rfl) (by (intro w hSw; (try dsimp only at hSw); go_simp <;> with_reducible rfl)) (by assumption) ?_; try simp only [Act.put, List.setIfInBounds_toArray, List.set_cons_zero, List.set_cons_succ])
  refine wpAnyH_ready (rs := [6]) (by kernel_rfl) (by simp) ?_
  refine AllReadyH.cons (by (simp only [List.getElem?_toArray, List.getElem?_cons_succ, List.getElem?_cons_zero]; rfl)) (fun K hK => ?_) AllReadyH.nil
  go_simp
  refine (minus_any bA A bn bc n c bl ll _ hbk hl hnb hnl hW hW2).mono ?_
  rintro e w8 ⟨v, rfl, ho8, hx8⟩
  obtain ⟨A8, c8, rfl, hfm⟩ := ho8.form
  clear hfm
  have hB8 := hB.kept (Keep.of_below hx8) (Nat.not_le.2 hB.lt)
  have d3 := hB8.cell 3
  simp at d3
  have s8 := And.intro ((hx8.cell (World.block_lt_of_cell? _ _ sd.1)).trans sd.1) d3
  refine hK.out _ _ s8 (fun hHeld2 => ?_)
  clear hK K hHeld
  have hHeld := hHeld2
  clear hHeld2
  try simp only [Act.put, List.setIfInBounds_toArray, List.set_cons_zero, List.set_cons_succ]
  (refine tkI 7 (by (simp only [List.getElem?_toArray, List.getElem?_cons_succ, List.getElem?_cons_zero]; rfl)) (by kernel_rfl) (by kernel_rfl) (by kernel_rfl) (by exact fun _ _ _ h => h) (by rfl) (by (intro w hSw; (try dsimp only at hSw); go_simp <;> with_reducible rfl)) (by assumption) ?_; try simp only [Act.put, List.setIfInBounds_toArray, List.set_cons_zero, List.set_cons_succ])
  (refine tkI 8 (by (simp only [List.getElem?_toArray, List.getElem?_cons_succ, List.getElem?_cons_zero]; rfl)) (by kernel_rfl) (by kernel_rfl) (by kernel_rfl) (by exact fun _ _ _ h => h) (by rfl) (by (intro w hSw; (try dsimp only at hSw); go_simp <;> with_reducible rfl)) (by assumption) ?_; try simp only [Act.put, List.setIfInBounds_toArray, List.set_cons_zero, List.set_cons_succ])
  (refine tkI 9 (by (simp only [List.getElem?_toArray, List.getElem?_cons_succ, List.getElem?_cons_zero]; rfl)) (by kernel_rfl) (by kernel_rfl) (by kernel_rfl) (by exact fun _ _ _ h => h) (by rfl) (by (intro w hSw; (try dsimp only at hSw); go_simp <;> with_reducible rfl)) (by assumption) ?_; try simp only [Act.put, List.setIfInBounds_toArray, List.set_cons_zero, List.set_cons_succ])
  (refine tkI 10 (by (simp only [List.getElem?_toArray, List.getElem?_cons_succ, List.getElem?_cons_zero]; rfl)) (by kernel_rfl) (by kernel_rfl) (by kernel_rfl) (by exact fun _ _ _ h => h) (by rfl) (by (intro w hSw; (try dsimp only at hSw); go_simp <;> with_reducible rfl)) (by assumption) ?_; try simp only [Act.put, List.setIfInBounds_toArray, List.set_cons_zero, List.set_cons_succ])
  (refine tkI 11 (by (simp only [List.getElem?_toArray, List.getElem?_cons_succ, List.getElem?_cons_zero]; rfl)) (by kernel_rfl) (by kernel_rfl) (by kernel_rfl) (by exact fun _ _ _ h => h) (by rfl) (by (intro w hSw; (try dsimp only at hSw); go_simp <;> with_reducible rfl)) (by assumption) ?_; try simp only [Act.put, List.setIfInBounds_toArray, List.set_cons_zero, List.set_cons_succ])
  refine wpAnyH_done (by kernel_rfl) ?_ _
  have z3 := hB8.cell 3
  have zf := hB8.frozen 3
  have zl := hB8.lt
  simp at z3
  have hb8 := hb5.trans (hx8.mono hb5.size)
  have hk8 := (Keep.ofB (S := fun k => k = rb) hb8).setCell (p := ⟨rb, 3, none⟩) (fun _ => rfl) (.slice A8 (minusR bl ll).length c8)
  have hB9 := hB8.set_ 3 (.slice A8 (minusR bl ll).length c8)
  simp at hB9
  have ho9 := (ho8.mono hb5.size).kept (Keep.setCell (S := fun k => k = rb) (Keep.refl _ w8) (p := ⟨rb, 3, none⟩) (fun _ => rfl) (.slice A8 (minusR bl ll).length c8)) (fun g hg e => by have := ((ho8.mono hb5.size).lt g hg).1; omega)
  go_wp2
  go_ret
  exact ⟨rfl, hk8, _, ho9, hB9⟩
abbrev backPhi (r0 : Rec) (l : List It) (x : Int) (r : Rec) : Prop := x = (if plusE r0.b.l l = 0 ∧ coversL r0.s.l (plusR r0.b.l l) = true then 0 else 50) ∧ (x = 0 → ∃ b : Ls, b.l = plusR r0.b.l l ∧ r = ⟨r0.o, r0.w, r0.s, b, r0.f⟩)
def backPost (F : Nat → Prop) (w : World) (p b N : Nat) (f : Int → Rec) (ks : List Int) (k : Int) (l : List It) (e : Ending) (w' : World) : Prop :=
  ∃ x r, e = .returned (.int .i64 x) ∧ backPhi (f k) l x r ∧ Keep (fun i => i = b) w w' ∧ ((x = 0 ∧ PS (fun k => F k ∨ w.heap.size ≤ k) w' p b (N + 1) (fun i => if i = k then r else f i) (addK ks k)) ∨ (x ≠ 0 ∧ PS (fun k => F k ∨ w.heap.size ≤ k) w' p b N f ks))
set_option maxRecDepth 100000 in
set_option maxHeartbeats 3200000 in
theorem back_any {F : Nat → Prop} {w : World} {p b N : Nat} {f : Int → Rec} {ks : List Int} (h : PS F w p b N f ks) (hN : N < maxLen) (k : Int) (hkw : (Lit.int .i64 k).wf = true) (hks : k ∈ ks) (A : Option Addr) (c : Nat) (l : List It) (hil : IL w A l.length l) (hlit : WL l) (hmay : mayL l = true) :
    Calls Try.prog 11 #[.pointer (some ⟨p, 0, none⟩), .int .i64 k, .slice A l.length c] w (backPost F w p b N f ks k l) := by
  have hrc := h.ok k hks
  have hlt := h.lt
  have hm0 := MY.of_ hrc.b_.may
  have hm2 := MY.of_ hmay
  have hsn := hrc.s_.il.len
  have hbn := hrc.b_.il.len
  have hsf := hrc.s_.few
  have hbf := hrc.b_.few
  have hlf := hm2.len
  have hb2 := (Below.refl w.heap.size w).alloc (Nat.le_refl _) (.cells #[.slice A l.length c] 27)
  have e2 := Blk.new w 27 #[.slice A l.length c]
  have hz2 : (w.alloc (.cells #[.slice A l.length c] 27)).heap.size = w.heap.size + 1 := by simp
  have hP2 := h.below hb2
  have hil2 := hil.below hb2
  have HZ := Lib.hid hz2
  clear hz2
  have call : ∀ w2 : World, w2 = w.alloc (.cells #[.slice A l.length c] 27) → Calls Try.prog 21 #[.pointer (some ⟨p, 0, none⟩), .int .i64 k, .slice A l.length c, .func (.func 24) #[] #[.pointer (some ⟨w.heap.size, 0, none⟩)]] w2 fun e w' => ∃ x r, e = .returned (.int .i64 x) ∧ backPhi (f k) l x r ∧ Keep (fun i => i = b) w2 w' ∧ ((x = 0 ∧ PS (fun k => F k ∨ w2.heap.size ≤ k) w' p b (N + 1) (fun i => if i = k then r else f i) (addK ks k)) ∨ (x ≠ 0 ∧ PS (fun k => F k ∨ w2.heap.size ≤ k) w' p b N f ks)) := by
    rintro w2 rfl
    refine change_any hP2 hN k hkw hks A c l hil2 (by omega) hmay 24 #[.pointer (some ⟨w.heap.size, 0, none⟩)] (backPhi (f k) l) (enters_of Try.func24 (by kernel_rfl) rfl) (fun W hbW hBW => ?_)
    have hrW := (hrc.below hb2).below hbW
    have hlW := hil2.below hbW
    have hz := hbW.size
    have hrb := hBW.lt
    rw [HZ.out] at hbW hBW hz hrb ⊢
    have g2 := e2.kept (Keep.of_below hbW) (by omega)
    have c2 := g2.cell 0
    simp at c2
    refine (back1_any (f k) A l.length c l hBW c2 (by omega) hrW.s_.il hlW hrW.b_.il (by omega) (by omega) (by omega) hrc.b_.lit hlit (fun e => my_wl (plus_ok hm0 hm2 e).1) (plusR_few hm0 hm2)).mono ?_
    rintro e W' ⟨x, rfl, hk5, ⟨rfl, hpe, hcv, v, hO, hBl⟩ | ⟨rfl, hno⟩⟩
    · obtain ⟨A', c', rfl, hcap, hm, hil', hal⟩ := hO.form
      have hmy := (plus_ok hm0 hm2 hpe).1
      refine ⟨0, ⟨(f k).o, (f k).w, (f k).s, ⟨A', (plusR (f k).b.l l).length, c', plusR (f k).b.l l⟩, (f k).f⟩, rfl, hk5, ⟨(if_pos ⟨hpe, hcv⟩).symm, fun _ => ⟨_, rfl, rfl⟩⟩, fun _ => ⟨hBl, ⟨?_, ?_, ?_⟩⟩⟩
      · exact ⟨hrW.w_.il.kept hk5 (fun ad e hn => by have := hrc.w_.il.lt ad e hn; omega), hrW.w_.cap, hrW.w_.few, hrW.w_.may, hrW.w_.lit, fun ad e hn => ⟨.inl (hrW.w_.lies ad e hn).1, (hrW.w_.lies ad e hn).2⟩⟩
      · exact ⟨hrW.s_.il.kept hk5 (fun ad e hn => by have := hrc.s_.il.lt ad e hn; omega), hrW.s_.cap, hrW.s_.few, hrW.s_.may, hrW.s_.lit, fun ad e hn => ⟨.inl (hrW.s_.lies ad e hn).1, (hrW.s_.lies ad e hn).2⟩⟩
      · exact ⟨hil', hcap, hmy.len, hmy.may, my_wl hmy, fun ad e hn => by have h1 := (hal ad e).1; exact ⟨.inr (by omega), by omega, by omega⟩⟩
    · exact ⟨50, f k, rfl, hk5, ⟨(if_neg (fun e => hno e)).symm, fun e => absurd e (by decide)⟩, fun e => absurd e (by decide)⟩
  clear e2 hm0 hm2 hsn hbn hsf hbf hlf hlt hil2
  go_enter Try.func11, Try.ntmps11
  go_wp2_with fail
  refine (call _ rfl).mono ?_
  rintro e w' ⟨x, r, rfl, hΦ, hk, hP⟩
  rw [HZ.out] at hP
  replace hΦ := Lib.hid hΦ
  replace hP := Lib.hid hP
  clear call
  go_wp2
  go_ret
  refine ⟨x, r, rfl, hΦ.out, (Keep.ofB (S := fun i => i = b) hb2).trans hk (fun i hi e => e), ?_⟩
  rcases hP.out with ⟨hz, hP⟩ | ⟨hne, hP⟩
  · exact .inl ⟨hz, hP.mono (fun i _ e => e.elim .inl (fun e => .inr (by omega)))⟩
  · exact .inr ⟨hne, hP.mono (fun i _ e => e.elim .inl (fun e => .inr (by omega)))⟩
abbrev undoPhi (r0 : Rec) (l : List It) (x : Int) (r : Rec) : Prop := x = minusE r0.b.l l ∧ (x = 0 → ∃ b : Ls, b.l = minusR r0.b.l l ∧ r = ⟨r0.o, r0.w, r0.s, b, r0.f⟩)
def undoPost (F : Nat → Prop) (w : World) (p b N : Nat) (f : Int → Rec) (ks : List Int) (k : Int) (l : List It) (e : Ending) (w' : World) : Prop :=
  ∃ x r, e = .returned (.int .i64 x) ∧ undoPhi (f k) l x r ∧ Keep (fun i => i = b) w w' ∧ ((x = 0 ∧ PS (fun k => F k ∨ w.heap.size ≤ k) w' p b (N + 1) (fun i => if i = k then r else f i) (addK ks k)) ∨ (x ≠ 0 ∧ PS (fun k => F k ∨ w.heap.size ≤ k) w' p b N f ks))
set_option maxRecDepth 100000 in
set_option maxHeartbeats 3200000 in
theorem undo_any {F : Nat → Prop} {w : World} {p b N : Nat} {f : Int → Rec} {ks : List Int} (h : PS F w p b N f ks) (hN : N < maxLen) (k : Int) (hkw : (Lit.int .i64 k).wf = true) (hks : k ∈ ks) (A : Option Addr) (c : Nat) (l : List It) (hil : IL w A l.length l) (hlit : WL l) (hmay : mayL l = true) :
    Calls Try.prog 12 #[.pointer (some ⟨p, 0, none⟩), .int .i64 k, .slice A l.length c] w (undoPost F w p b N f ks k l) := by
  have hrc := h.ok k hks
  have hlt := h.lt
  have hm0 := MY.of_ hrc.b_.may
  have hm2 := MY.of_ hmay
  have hsn := hrc.s_.il.len
  have hbn := hrc.b_.il.len
  have hsf := hrc.s_.few
  have hbf := hrc.b_.few
  have hlf := hm2.len
  have hb2 := (Below.refl w.heap.size w).alloc (Nat.le_refl _) (.cells #[.slice A l.length c] 27)
  have e2 := Blk.new w 27 #[.slice A l.length c]
  have hz2 : (w.alloc (.cells #[.slice A l.length c] 27)).heap.size = w.heap.size + 1 := by simp
  have hP2 := h.below hb2
  have hil2 := hil.below hb2
  have HZ := Lib.hid hz2
  clear hz2
  have call : ∀ w2 : World, w2 = w.alloc (.cells #[.slice A l.length c] 27) → Calls Try.prog 21 #[.pointer (some ⟨p, 0, none⟩), .int .i64 k, .slice A l.length c, .func (.func 25) #[] #[.pointer (some ⟨w.heap.size, 0, none⟩)]] w2 fun e w' => ∃ x r, e = .returned (.int .i64 x) ∧ undoPhi (f k) l x r ∧ Keep (fun i => i = b) w2 w' ∧ ((x = 0 ∧ PS (fun k => F k ∨ w2.heap.size ≤ k) w' p b (N + 1) (fun i => if i = k then r else f i) (addK ks k)) ∨ (x ≠ 0 ∧ PS (fun k => F k ∨ w2.heap.size ≤ k) w' p b N f ks)) := by
    rintro w2 rfl
    refine change_any hP2 hN k hkw hks A c l hil2 (by omega) hmay 25 #[.pointer (some ⟨w.heap.size, 0, none⟩)] (undoPhi (f k) l) (enters_of Try.func25 (by kernel_rfl) rfl) (fun W hbW hBW => ?_)
    have hrW := (hrc.below hb2).below hbW
    have hlW := hil2.below hbW
    have hz := hbW.size
    have hrb := hBW.lt
    rw [HZ.out] at hbW hBW hz hrb ⊢
    have g2 := e2.kept (Keep.of_below hbW) (by omega)
    have c2 := g2.cell 0
    simp at c2
    refine (undo1_any (f k) A l.length c l hBW c2 (by omega) hrW.s_.il hlW hrW.b_.il (by omega) (by omega) (by omega) hrc.b_.lit hlit).mono ?_
    rintro e W' ⟨rfl, hk5, v, hO, hBl⟩
    obtain ⟨A', c', rfl, hcap, hm, hil', hal⟩ := hO.form
    by_cases hz0 : minusE (f k).b.l l = 0
    · have hmy : MY (minusR (f k).b.l l) := by
        have : minusR (f k).b.l l = restL (f k).b.l l := by unfold minusR; rw [hz0]; rfl
        rw [this]
        exact MY.rest hm0 hm2
      refine ⟨_, ⟨(f k).o, (f k).w, (f k).s, ⟨A', (minusR (f k).b.l l).length, c', minusR (f k).b.l l⟩, (f k).f⟩, rfl, hk5, ⟨rfl, fun _ => ⟨_, rfl, rfl⟩⟩, fun _ => ⟨hBl, ⟨?_, ?_, ?_⟩⟩⟩
      · exact ⟨hrW.w_.il.kept hk5 (fun ad e hn => by have := hrc.w_.il.lt ad e hn; omega), hrW.w_.cap, hrW.w_.few, hrW.w_.may, hrW.w_.lit, fun ad e hn => ⟨.inl (hrW.w_.lies ad e hn).1, (hrW.w_.lies ad e hn).2⟩⟩
      · exact ⟨hrW.s_.il.kept hk5 (fun ad e hn => by have := hrc.s_.il.lt ad e hn; omega), hrW.s_.cap, hrW.s_.few, hrW.s_.may, hrW.s_.lit, fun ad e hn => ⟨.inl (hrW.s_.lies ad e hn).1, (hrW.s_.lies ad e hn).2⟩⟩
      · exact ⟨hil', hcap, hmy.len, hmy.may, my_wl hmy, fun ad e hn => by have h1 := (hal ad e).1; exact ⟨.inr (by omega), by omega, by omega⟩⟩
    · exact ⟨_, f k, rfl, hk5, ⟨rfl, fun e => absurd e hz0⟩, fun e => absurd e hz0⟩
  clear e2 hm0 hm2 hsn hbn hsf hbf hlf hlt hil2
  go_enter Try.func12, Try.ntmps12
  go_wp2_with fail
  refine (call _ rfl).mono ?_
  rintro e w' ⟨x, r, rfl, hΦ, hk, hP⟩
  rw [HZ.out] at hP
  replace hΦ := Lib.hid hΦ
  replace hP := Lib.hid hP
  clear call
  go_wp2
  go_ret
  refine ⟨x, r, rfl, hΦ.out, (Keep.ofB (S := fun i => i = b) hb2).trans hk (fun i hi e => e), ?_⟩
  rcases hP.out with ⟨hz, hP⟩ | ⟨hne, hP⟩
  · exact .inl ⟨hz, hP.mono (fun i _ e => e.elim .inl (fun e => .inr (by omega)))⟩
  · exact .inr ⟨hne, hP.mono (fun i _ e => e.elim .inl (fun e => .inr (by omega)))⟩
end Go.Proofs.Ythccfmlfofdaeaa
