/- Moves: Come that is done, Len; told, and Move of nil. -/
import Derived.Test.YtligpmnpfdaknaaMvT
namespace Go.Proofs.Ytligpmnpfdaknaa
open Go.RowKit Go.Maps Go.Shelf Go.Sort
set_option linter.unusedVariables false
set_option linter.unusedSimpArgs false

set_option maxRecDepth 100000 in
set_option maxHeartbeats 6400000 in
theorem come_ok {F : Nat → Prop} {w : World} {p b N : Nat} {f : Int → Rec} {ks : List Int} (h : PS F w p b N f ks) (hN : N < maxLen) (k : Int) (hkw : (Lit.int .i64 k).wf = true) (g : k ∈ ks) (hc : (f k).c = false) :
    Calls Try.prog 11 #[.pointer (some ⟨p, 0, none⟩), .int .i64 k] w fun e w' => ∃ v, e = .returned (.tuple #[v, .int .i64 0]) ∧ OI w.heap.size w' v (f k).l.l ∧ PS F w' p b (N + 1) (fun i => if i = k then ⟨(f k).m, (f k).f, (f k).t, (f k).l, true⟩ else f i) ks ∧ Keep (fun i => i = b) w w' := by
  have hf := find_yes h k hkw g
  have hrc := h.ok k g
  have hkk : addK ks k = ks := if_pos g
  generalize hr : f k = r0 at *
  obtain ⟨rm, rf, rt, ⟨A0, n0, c0, l0⟩, rc⟩ := r0
  obtain rfl : rc = false := hc
  change Calls _ _ _ _ (fun e w' => e = .returned (.tuple #[.agg #[.int .i64 rm, .int .i64 rf, .int .i64 rt, .slice A0 n0 c0, .bool false], .int .i64 0]) ∧ Below w.heap.size w w') at hf
  dsimp only
  clear hr
  have HN := Lib.hid hN
  replace hkk := Lib.hid hkk
  go_enter Try.func11, Try.ntmps11
  go_wp2_with fail
  refine hf.mono ?_
  rintro e w1 ⟨rfl, hb⟩
  clear hf
  go_upto_region 7 with fail
  obtain ⟨rb, hrb⟩ : ∃ rb, w1.heap.size = rb := ⟨_, rfl⟩
  have hb2 := hb.alloc hb.size (.cells #[.int .i64 rm, .int .i64 rf, .int .i64 rt, .slice A0 n0 c0, .bool true] 42)
  have hB2 := Blk.new w1 42 #[.int .i64 rm, .int .i64 rf, .int .i64 rt, .slice A0 n0 c0, .bool true]
  have hP2 := h.below hb2
  have hrc2 := hrc.below hb2
  have hlt := h.lt
  have hz := hb.size
  rw [hrb] at hB2 hz ⊢
  have sd : (fun W => W.cell? ⟨p, 0, none⟩ = some (.map (some b)) ∧ W.cell? ⟨rb, 0, none⟩ = some (.int .i64 rm) ∧ W.cell? ⟨rb, 1, none⟩ = some (.int .i64 rf) ∧ W.cell? ⟨rb, 2, none⟩ = some (.int .i64 rt) ∧ W.cell? ⟨rb, 3, none⟩ = some (.slice A0 n0 c0) ∧ W.cell? ⟨rb, 4, none⟩ = some (.bool true)) (w1.alloc (.cells #[.int .i64 rm, .int .i64 rf, .int .i64 rt, .slice A0 n0 c0, .bool true] 42)).drew := by
    have p0 := hP2.pc.cell 0
    have z0 := hB2.cell 0
    have z1 := hB2.cell 1
    have z2 := hB2.cell 2
    have z3 := hB2.cell 3
    have z4 := hB2.cell 4
    simp only [List.getElem?_toArray, List.getElem?_cons_succ, List.getElem?_cons_zero] at p0 z0 z1 z2 z3 z4
    exact ⟨p0, z0, z1, z2, z3, z4⟩
  have hP3 := hP2.drew
  have hB3 := hB2.drew
  have hrc3 := hrc2.below (Below.refl _ (w1.alloc (.cells #[.int .i64 rm, .int .i64 rf, .int .i64 rt, .slice A0 n0 c0, .bool true] 42))).drew
  have hb3 := hb2.drew
  replace hN := HN.out
  refine wp_region_held_drew (S := (fun W => W.cell? ⟨p, 0, none⟩ = some (.map (some b)) ∧ W.cell? ⟨rb, 0, none⟩ = some (.int .i64 rm) ∧ W.cell? ⟨rb, 1, none⟩ = some (.int .i64 rf) ∧ W.cell? ⟨rb, 2, none⟩ = some (.int .i64 rt) ∧ W.cell? ⟨rb, 3, none⟩ = some (.slice A0 n0 c0) ∧ W.cell? ⟨rb, 4, none⟩ = some (.bool true))) (by kernel_rfl) sd (fun hHeld => ?_)
  generalize (w1.alloc (.cells #[.int .i64 rm, .int .i64 rf, .int .i64 rt, .slice A0 n0 c0, .bool true] 42)).drew = w3 at *
  (refine tkI 0 (by (simp only [List.getElem?_toArray, List.getElem?_cons_succ, List.getElem?_cons_zero]; rfl)) (by kernel_rfl) (by kernel_rfl) (by kernel_rfl) (by exact fun _ _ _ h => h) (by rfl) (by (intro w hSw; (try dsimp only at hSw); go_simp <;> with_reducible rfl)) (by assumption) ?_; try simp only [Act.put, List.setIfInBounds_toArray, List.set_cons_zero, List.set_cons_succ])
  (refine tkI 1 (by (simp only [List.getElem?_toArray, List.getElem?_cons_succ, List.getElem?_cons_zero]; rfl)) (by kernel_rfl) (by kernel_rfl) (by kernel_rfl) (by exact fun _ _ _ h => h) (by rfl) (by (intro w hSw; (try dsimp only at hSw); go_simp <;> with_reducible rfl)) (by assumption) ?_; try simp only [Act.put, List.setIfInBounds_toArray, List.set_cons_zero, List.set_cons_succ])
  (refine tkI 2 (by (simp only [List.getElem?_toArray, List.getElem?_cons_succ, List.getElem?_cons_zero]; rfl)) (by kernel_rfl) (by kernel_rfl) (by kernel_rfl) (by exact fun _ _ _ h => h) (by rfl) (by (intro w hSw; (try dsimp only at hSw); go_simp <;> with_reducible rfl)) (by assumption) ?_; try simp only [Act.put, List.setIfInBounds_toArray, List.set_cons_zero, List.set_cons_succ])
  (refine tkI 3 (by (simp only [List.getElem?_toArray, List.getElem?_cons_succ, List.getElem?_cons_zero]; rfl)) (by kernel_rfl) (by kernel_rfl) (by kernel_rfl) (by exact fun _ _ _ h => h) (by rfl) (by (intro w hSw; (try dsimp only at hSw); go_simp <;> with_reducible rfl)) (by assumption) ?_; try simp only [Act.put, List.setIfInBounds_toArray, List.set_cons_zero, List.set_cons_succ])
  (refine tkI 4 (by (simp only [List.getElem?_toArray, List.getElem?_cons_succ, List.getElem?_cons_zero]; rfl)) (by kernel_rfl) (by kernel_rfl) (by kernel_rfl) (by exact fun _ _ _ h => h) (by rfl) (by (intro w hSw; (try dsimp only at hSw); go_simp <;> with_reducible rfl)) (by assumption) ?_; try simp only [Act.put, List.setIfInBounds_toArray, List.set_cons_zero, List.set_cons_succ])
  (refine tkI 5 (by (simp only [List.getElem?_toArray, List.getElem?_cons_succ, List.getElem?_cons_zero]; rfl)) (by kernel_rfl) (by kernel_rfl) (by kernel_rfl) (by exact fun _ _ _ h => h) (by rfl) (by (intro w hSw; (try dsimp only at hSw); go_simp <;> with_reducible rfl)) (by assumption) ?_; try simp only [Act.put, List.setIfInBounds_toArray, List.set_cons_zero, List.set_cons_succ])
  refine wpAnyH_ready (rs := [6]) (by kernel_rfl) (by simp) ?_
  refine AllReadyH.cons (by (simp only [List.getElem?_toArray, List.getElem?_cons_succ, List.getElem?_cons_zero]; rfl)) (fun K hK => ?_) AllReadyH.nil
  skip
  obtain ⟨W9, hrun9, hPS9, hk9⟩ := hP3.upd hN hkw ⟨rm, rf, rt, ⟨A0, n0, c0, l0⟩, true⟩ ⟨⟨hrc3.l_.il, hrc3.l_.cap, hrc3.l_.few, hrc3.l_.may, hrc3.l_.lit, hrc3.l_.lies⟩⟩
  have hrun : (Instr.mapUpdate 59 (.map (some b)) (.int .i64 k) (.agg #[.int .i64 rm, .int .i64 rf, .int .i64 rt, .slice A0 n0 c0, .bool true])).run Try.prog w3 = .ok () W9 := hrun9
  go_simp
  have hB9 := hB3.kept hk9 (fun e => by have := hP3.lt; omega)
  have p9 := hPS9.pc.cell 0
  have z0 := hB9.cell 0
  have z1 := hB9.cell 1
  have z2 := hB9.cell 2
  have z3 := hB9.cell 3
  have z4 := hB9.cell 4
  simp at p9 z0 z1 z2 z3 z4
  refine hK.out _ _ ⟨p9, z0, z1, z2, z3, z4⟩ (fun hHeld2 => ?_)
  clear hK K hHeld
  have hHeld := hHeld2
  clear hHeld2
  try simp only [Act.put, List.setIfInBounds_toArray, List.set_cons_zero, List.set_cons_succ]
  refine wpAnyH_done (by kernel_rfl) ?_ _
  have hk9' := (Keep.ofB (S := fun i => i = b) hb3).trans hk9 (fun i hi e => e)
  have hil9 : IL W9 A0 n0 l0 := hrc3.l_.il.kept hk9 (fun ad e hn => by exact fun e2 => (hrc3.l_.lies ad e hn).2.2 e2)
  have hn16 : l0.length ≤ 16 := hrc3.l_.few
  have hnn : l0.length = n0 := hrc3.l_.il.len
  have hz9 := hk9'.size
  clear hrun hrun9 hHeld p9 z0 z1 z2 hrc3 hB3
  go_wp2_with fail
  refine (clone_any A0 n0 c0 l0 _ hil9 (by omega)).mono ?_
  rintro e W10 ⟨v10, rfl, ho10, hx10⟩
  have hPF := hPS9.below hx10
  go_wp2
  go_ret2
  rw [hkk.out] at hPF
  exact ⟨v10, rfl, ho10.mono hz9, hPF, hk9'.trans (Keep.ofB (S := fun i => i = b) hx10) (fun i hi e => e)⟩
theorem mlen_any {F : Nat → Prop} {w : World} {p b N : Nat} {f : Int → Rec} {ks : List Int} (h : PS F w p b N f ks) : Calls Try.prog 24 #[.pointer (some ⟨p, 0, none⟩)] w fun e w' => e = .returned (.int .i64 (ks.length : Nat)) ∧ w' = w := by
  have hl := h.len
  go_enter Try.func24, Try.ntmps24
  go_wp2_with fail
  refine (pall_any h).mono ?_
  rintro e w' ⟨rfl, hww⟩
  subst hww
  go_wp2
  go_ret
  exact ⟨rfl, rfl⟩
/-- What is told of a move: the list is another one. -/
def ToldW (base : Nat) (w : World) (r : Rec) (u : Value) : Prop := ∃ A c, u = .agg #[.int .i64 r.m, .int .i64 r.f, .int .i64 r.t, .slice A r.l.l.length c, .bool r.c] ∧ OI base w (.slice A r.l.l.length c) r.l.l
set_option maxRecDepth 100000 in
set_option maxHeartbeats 3200000 in
theorem told_any (r : Rec) (w : World) (hil : IL w r.l.A r.l.n r.l.l) (hn : r.l.n ≤ 1048576) : Calls Try.prog 33 #[r.v] w fun e w' => ∃ u, e = .returned u ∧ ToldW w.heap.size w' r u ∧ Below w.heap.size w w' := by
  obtain ⟨rm, rf, rt, ⟨A0, n0, c0, l0⟩, rc⟩ := r
  dsimp only at hil hn
  change Calls _ _ #[.agg #[.int .i64 rm, .int .i64 rf, .int .i64 rt, .slice A0 n0 c0, .bool rc]] _ _
  have hba := ((Below.refl w.heap.size w).alloc (Nat.le_refl _) (.cells #[.int .i64 rm, .int .i64 rf, .int .i64 rt, .slice A0 n0 c0, .bool rc] 42)).alloc (by simp) (.cells #[.int .i64 0, .int .i64 0, .int .i64 0, .slice none 0 0, .bool false] 42)
  have hgb := (Blk.new w 42 #[.int .i64 rm, .int .i64 rf, .int .i64 rt, .slice A0 n0 c0, .bool rc]).alloc (.cells #[.int .i64 0, .int .i64 0, .int .i64 0, .slice none 0 0, .bool false] 42)
  have hzb := Blk.new (w.alloc (.cells #[.int .i64 rm, .int .i64 rf, .int .i64 rt, .slice A0 n0 c0, .bool rc] 42)) 42 #[.int .i64 0, .int .i64 0, .int .i64 0, .slice none 0 0, .bool false]
  rw [World.size_alloc] at hzb
  have hil2 := hil.below hba
  have hz1 : ((w.alloc (.cells #[.int .i64 rm, .int .i64 rf, .int .i64 rt, .slice A0 n0 c0, .bool rc] 42)).alloc (.cells #[.int .i64 0, .int .i64 0, .int .i64 0, .slice none 0 0, .bool false] 42)).heap.size = w.heap.size + 2 := by simp
  replace hz1 := Lib.hid hz1
  have g3 := hgb.cell 3
  simp at g3
  have hcl := clone_any A0 n0 c0 l0 _ hil2 (by omega)
  go_enter Try.func33, Try.ntmps33
  go_wp2_with fail
  refine hcl.mono ?_
  rintro e w3 ⟨v3, rfl, ho3, hx3⟩
  obtain ⟨A3, c3, rfl, hfm⟩ := ho3.form
  clear hfm hcl g3
  have hb3 := hba.trans (hx3.mono hba.size)
  have hg3 := hgb.kept (Keep.of_below hx3) (Nat.not_le.2 hgb.lt)
  have hz3 := hzb.kept (Keep.of_below hx3) (Nat.not_le.2 hzb.lt)
  have hg4 := hg3.set_ 3 (.slice A3 l0.length c3)
  have hz4 := hz3.kept ((Keep.refl (fun k => k = w.heap.size) w3).setCell (p := ⟨w.heap.size, 3, none⟩) (fun _ => rfl) (.slice A3 l0.length c3)) (by omega)
  have k4 := (Keep.refl (fun k => k = w.heap.size) w3).setCell (p := ⟨w.heap.size, 3, none⟩) (fun _ => rfl) (.slice A3 l0.length c3)
  have q3 := hg3.cell 3
  have qf := hg3.frozen 3
  have ql := hg3.lt
  simp at q3 hg4
  clear hgb hzb hba hx3
  go_upto_region 2 with fail
  generalize hw4 : w3.setCell ⟨w.heap.size, 3, none⟩ (.slice A3 l0.length c3) = w4 at *
  have x0 := hg4.cell 0
  have x1 := hg4.cell 1
  have x2 := hg4.cell 2
  have x3 := hg4.cell 3
  have x4 := hg4.cell 4
  have z0 := hz4.cell 0
  have z1 := hz4.cell 1
  have z2 := hz4.cell 2
  have z3 := hz4.cell 3
  have z4 := hz4.cell 4
  have zf := fun i => hz4.frozen i
  have zl := hz4.lt
  simp at x0 x1 x2 x3 x4 z0 z1 z2 z3 z4
  clear q3 qf ql hw4
  go_wp2_with fail
  have zE := fill5 hz4 (.int .i64 rm) (.int .i64 rf) (.int .i64 rt) (.slice A3 l0.length c3) (.bool rc)
  have kE := keep5 w4 (w.heap.size + 1) (.int .i64 rm) (.int .i64 rf) (.int .i64 rt) (.slice A3 l0.length c3) (.bool rc)
  generalize ((((w4.setCell ⟨w.heap.size + 1, 0, none⟩ (.int .i64 rm)).setCell ⟨w.heap.size + 1, 1, none⟩ (.int .i64 rf)).setCell ⟨w.heap.size + 1, 2, none⟩ (.int .i64 rt)).setCell ⟨w.heap.size + 1, 3, none⟩ (.slice A3 l0.length c3)).setCell ⟨w.heap.size + 1, 4, none⟩ (.bool rc) = WE at zE kE ⊢
  have y0 := zE.cell 0
  have y1 := zE.cell 1
  have y2 := zE.cell 2
  have y3 := zE.cell 3
  have y4 := zE.cell 4
  simp at y0 y1 y2 y3 y4
  have hz9 := hb3.size
  have hb4 := hb3.trans (k4.below (B := w.heap.size) hz9 (fun i hi e => by omega))
  have hbE := hb4.trans (kE.below (B := w.heap.size) hb4.size (fun i hi e => by omega))
  rw [hz1.out] at ho3
  have ho4 := (ho3.kept k4 (fun g hg e => by have := (ho3.lt g hg).1; omega))
  have hoE := (ho4.kept kE (fun g hg e => by have := (ho4.lt g hg).1; omega)).mono (show w.heap.size ≤ w.heap.size + 2 by omega)
  refine bodyPost_ret (v := .agg #[.int .i64 rm, .int .i64 rf, .int .i64 rt, .slice A3 l0.length c3, .bool rc]) (by simp [results, Try.results33, go_sem, y0, y1, y2, y3, y4]) rfl ?_
  exact ⟨_, rfl, ⟨A3, c3, rfl, hoE⟩, hbE⟩
set_option maxRecDepth 100000 in
set_option maxHeartbeats 3200000 in
theorem move_nil (k : Int) (w : World) (hkw : (Lit.int .i64 k).wf = true) : Calls Try.prog 16 #[.pointer none, .int .i64 k] w fun e w' => ∃ u, e = .returned (.tuple #[u, .bool false]) ∧ ToldW w.heap.size w' rec0 u ∧ Below w.heap.size w w' := by
  have hlk := look_nilR (w.alloc (.cells #[.int .i64 0, .int .i64 0, .int .i64 0, .slice none 0 0, .bool false] 42)) hkw
  have hpa := pall_nil (w.alloc (.cells #[.int .i64 0, .int .i64 0, .int .i64 0, .slice none 0 0, .bool false] 42))
  have hb1 := (Below.refl w.heap.size w).alloc (Nat.le_refl _) (.cells #[.int .i64 0, .int .i64 0, .int .i64 0, .slice none 0 0, .bool false] 42)
  have hb2 := hb1.alloc hb1.size (.cells #[.int .i64 0, .int .i64 0, .int .i64 0, .slice none 0 0, .bool false] 42)
  have htd := told_any rec0 ((w.alloc (.cells #[.int .i64 0, .int .i64 0, .int .i64 0, .slice none 0 0, .bool false] 42)).alloc (.cells #[.int .i64 0, .int .i64 0, .int .i64 0, .slice none 0 0, .bool false] 42)) (IL.nil _ _) (by simp [rec0, ls0])
  change Calls _ _ #[.agg #[.int .i64 0, .int .i64 0, .int .i64 0, .slice none 0 0, .bool false]] _ _ at htd
  have hzb := (Blk.new w 42 #[.int .i64 0, .int .i64 0, .int .i64 0, .slice none 0 0, .bool false]).alloc (.cells #[.int .i64 0, .int .i64 0, .int .i64 0, .slice none 0 0, .bool false] 42)
  have hsz : ((w.alloc (.cells #[.int .i64 0, .int .i64 0, .int .i64 0, .slice none 0 0, .bool false] 42)).alloc (.cells #[.int .i64 0, .int .i64 0, .int .i64 0, .slice none 0 0, .bool false] 42)).heap.size = w.heap.size + 2 := by simp
  go_enter Try.func16, Try.ntmps16
  go_wp2_with fail
  refine hpa.mono ?_
  rintro e w' ⟨rfl, hww⟩
  subst hww
  go_wp2_with fail
  refine htd.mono ?_
  rintro e w3 ⟨u, rfl, ⟨A3, c3, rfl, ho3⟩, hx3⟩
  have hb3 := hb2.trans (hx3.mono hb2.size)
  have hz := hzb.kept (Keep.of_below hx3) (Nat.not_le.2 hzb.lt)
  have z0 := hz.cell 0
  have z1 := hz.cell 1
  have z2 := hz.cell 2
  have z3 := hz.cell 3
  have z4 := hz.cell 4
  have zf := fun i => hz.frozen i
  have zl := hz.lt
  simp at z0 z1 z2 z3 z4
  rw [hsz] at ho3
  clear htd hpa hlk hx3 hzb
  simp only [rec0, ls0, List.length_nil] at ho3 ⊢
  go_wp2_with fail
  have zE := fill5 hz (.int .i64 0) (.int .i64 0) (.int .i64 0) (.slice A3 0 c3) (.bool false)
  have kE := keep5 w3 w.heap.size (.int .i64 0) (.int .i64 0) (.int .i64 0) (.slice A3 0 c3) (.bool false)
  generalize ((((w3.setCell ⟨w.heap.size, 0, none⟩ (.int .i64 0)).setCell ⟨w.heap.size, 1, none⟩ (.int .i64 0)).setCell ⟨w.heap.size, 2, none⟩ (.int .i64 0)).setCell ⟨w.heap.size, 3, none⟩ (.slice A3 0 c3)).setCell ⟨w.heap.size, 4, none⟩ (.bool false) = WE at zE kE ⊢
  have y0 := zE.cell 0
  have y1 := zE.cell 1
  have y2 := zE.cell 2
  have y3 := zE.cell 3
  have y4 := zE.cell 4
  simp at y0 y1 y2 y3 y4
  have hbE := hb3.trans (kE.below (B := w.heap.size) hb3.size (fun i hi e => by omega))
  have hoE := (ho3.kept kE (fun g hg e => by have := (ho3.lt g hg).1; omega)).mono (show w.heap.size ≤ w.heap.size + 2 by omega)
  refine bodyPost_ret (v := .tuple #[.agg #[.int .i64 0, .int .i64 0, .int .i64 0, .slice A3 0 c3, .bool false], .bool false]) (by simp [results, Try.results16, go_sem, y0, y1, y2, y3, y4]) rfl ?_
  exact ⟨_, rfl, ⟨A3, c3, rfl, hoE⟩, hbE⟩
theorem mlen_nil (w : World) : Calls Try.prog 24 #[.pointer none] w fun e w' => e = .returned (.int .i64 0) ∧ w' = w := by
  go_enter Try.func24, Try.ntmps24
  go_wp2_with fail
  refine (pall_nil w).mono ?_
  rintro e w' ⟨rfl, hww⟩
  subst hww
  go_wp2
  go_ret
  exact ⟨rfl, rfl⟩
end Go.Proofs.Ytligpmnpfdaknaa
