/- A round of the four words, by the document's own text. No condition. -/
import Derived.Test.YtpendcaefjbomaaRound
namespace Go.Proofs.Ytpendcaefjbomaa
open Go.RowKit
set_option linter.unusedVariables false
set_option linter.unusedSimpArgs false

theorem Keep.put0 {w0 w : World} {g : Nat} (h : Keep (fun _ => False) w0 w) (hg : w0.heap.size ≤ g) (i : Nat) (u : Value) : Keep (fun _ => False) w0 (w.setCell ⟨g, i, none⟩ u) := h.setCell (fun hl => absurd hl (Nat.not_lt.2 hg)) u

theorem blk_cells {w : World} {g : Nat} {t : TypeId} {v : V4} (h : Blk w g t v.cells) : w.cell? ⟨g, 0, none⟩ = some (.int .u64 (v.a : Int)) ∧ w.cell? ⟨g, 1, none⟩ = some (.int .u64 (v.b : Int)) ∧ w.cell? ⟨g, 2, none⟩ = some (.int .u64 (v.c : Int)) ∧ w.cell? ⟨g, 3, none⟩ = some (.int .u64 (v.d : Int)) :=
  ⟨h.cell 0, h.cell 1, h.cell 2, h.cell 3⟩

theorem blk_fill {w : World} {g : Nat} {t : TypeId} {z0 z1 z2 z3 : Value} (h : Blk w g t #[z0, z1, z2, z3]) (x0 x1 x2 x3 : Value) : Blk ((((w.setCell ⟨g, 0, none⟩ x0).setCell ⟨g, 1, none⟩ x1).setCell ⟨g, 2, none⟩ x2).setCell ⟨g, 3, none⟩ x3) g t #[x0, x1, x2, x3] := by
  have := (((h.set_ 0 x0).set_ 1 x1).set_ 2 x2).set_ 3 x3
  simpa using this
theorem load_four (w : World) (g : Nat) (x0 x1 x2 x3 : Int) (k0 : w.cell? ⟨g, 0, none⟩ = some (.int .u64 x0)) (k1 : w.cell? ⟨g, 1, none⟩ = some (.int .u64 x1)) (k2 : w.cell? ⟨g, 2, none⟩ = some (.int .u64 x2)) (k3 : w.cell? ⟨g, 3, none⟩ = some (.int .u64 x3)) :
    ((Sem.run Try.prog (asAddr (Value.pointer (some ⟨g, 0, none⟩))) w).andThen fun a w' => Sem.run Try.prog (loadVar 109 a) w') = Result.ok (Value.agg #[.int .u64 x0, .int .u64 x1, .int .u64 x2, .int .u64 x3]) w := by
  simp [go_sem, k0, k1, k2, k3]
theorem mk_cells (a b c d : Nat) : (V4.mk a b c d).cells = #[.int .u64 (a : Int), .int .u64 (b : Int), .int .u64 (c : Int), .int .u64 (d : Int)] := rfl
theorem s10_cells (v : V4) : v.s10.cells = #[.int .u64 (v.a : Int), .int .u64 (v.b : Int), .int .u64 ((rot v.c 32 : Nat) : Int), .int .u64 (v.d : Int)] := mk_cells v.a v.b (rot v.c 32) v.d

/-- Behind so many steps of the document's round. -/
structure RS (W w : World) (v : V4) : Prop where
  wb : WB 109 w W.heap.size v
  res : Blk w (W.heap.size + 1) 109 #[.int .u64 0, .int .u64 0, .int .u64 0, .int .u64 0]
  keep : Keep (fun _ => False) W w
section
variable {W w w' : World} {v : V4}
theorem RS.drew (h : RS W w v) : RS W w.drew v := ⟨h.wb.drew, h.res.drew, h.keep.drew⟩
theorem RS.kept (h : RS W w v) (k : Keep (fun _ => False) w w') : RS W w' v := ⟨h.wb.kept k id, h.res.kept k id, h.keep.trans k fun _ _ h => h⟩
theorem RS.far (h : RS W w v) (i : Nat) (u : Value) : Blk (w.setCell ⟨W.heap.size, i, none⟩ u) (W.heap.size + 1) 109 #[.int .u64 0, .int .u64 0, .int .u64 0, .int .u64 0] :=
  h.res.kept ((Keep.refl (fun k => k = W.heap.size) w).put i u) (by omega)
theorem RS.set_a (h : RS W w v) {x : Nat} (hx : W64 x) : RS W (w.setCell ⟨W.heap.size, 0, none⟩ (.int .u64 (x : Int))) ⟨x, v.b, v.c, v.d⟩ := ⟨h.wb.set_a hx, h.far _ _, h.keep.put0 (Nat.le_refl _) _ _⟩
theorem RS.set_b (h : RS W w v) {x : Nat} (hx : W64 x) : RS W (w.setCell ⟨W.heap.size, 1, none⟩ (.int .u64 (x : Int))) ⟨v.a, x, v.c, v.d⟩ := ⟨h.wb.set_b hx, h.far _ _, h.keep.put0 (Nat.le_refl _) _ _⟩
theorem RS.set_c (h : RS W w v) {x : Nat} (hx : W64 x) : RS W (w.setCell ⟨W.heap.size, 2, none⟩ (.int .u64 (x : Int))) ⟨v.a, v.b, x, v.d⟩ := ⟨h.wb.set_c hx, h.far _ _, h.keep.put0 (Nat.le_refl _) _ _⟩
theorem RS.set_d (h : RS W w v) {x : Nat} (hx : W64 x) : RS W (w.setCell ⟨W.heap.size, 3, none⟩ (.int .u64 (x : Int))) ⟨v.a, v.b, v.c, x⟩ := ⟨h.wb.set_d hx, h.far _ _, h.keep.put0 (Nat.le_refl _) _ _⟩
end
theorem RS.begin_ {W : World} {v : V4} (h : v.Ok) : RS W ((W.alloc (.cells v.cells 109)).alloc (.cells #[.int .u64 0, .int .u64 0, .int .u64 0, .int .u64 0] 109)) v :=
  ⟨⟨h, (Blk.new W 109 v.cells).alloc _⟩, by have := Blk.new (W.alloc (.cells v.cells 109)) 109 #[.int .u64 0, .int .u64 0, .int .u64 0, .int .u64 0]; simpa using this, ((Keep.refl _ _).alloc _).alloc _⟩

set_option maxRecDepth 100000 in
set_option maxHeartbeats 6400000 in
theorem refRound_any (v0 : V4) (W : World) (hv0 : v0.Ok) :
    Calls Try.prog 50 #[.agg v0.cells] W fun e w' => e = .returned (.agg v0.rnd.cells) ∧ Keep (fun _ => False) W w' := by
  have hval := wrap_add v0.a v0.b
  unfold V4.cells
  go_enter Try.func50, Try.ntmps50
  go_wp2_with fail
  clear hval
  have hs1 : RS W _ v0.s1 := RS.begin_ ⟨W64.addw _ _, hv0.b, hv0.c, hv0.d⟩
  change Code.wp Try.prog _ _ _ ((W.alloc (.cells v0.s1.cells 109)).alloc (.cells #[.int .u64 0, .int .u64 0, .int .u64 0, .int .u64 0] 109))
  generalize (W.alloc (.cells v0.s1.cells 109)).alloc (.cells #[.int .u64 0, .int .u64 0, .int .u64 0, .int .u64 0] 109) = w1 at hs1 ⊢
  generalize hv1 : v0.s1 = v1 at hs1
  have HV1 := Lib.hid hv1
  clear hv1
  --STEP1
  obtain ⟨c0, c1, c2, c3⟩ := hs1.wb.cells
  obtain ⟨f0, f1, f2, f3⟩ := hs1.wb.free
  have hval := xor64 (hs1.wb.ok.b.rot 13) hs1.wb.ok.a
  refine wp_region_held_drew (S := (fun w' => w'.cell? ⟨W.heap.size, 0, none⟩ = some (.int .u64 (v1.a : Int)))) (by kernel_rfl) c0 (fun hHeld => ?_)
  refine wpAnyH_take (i := 0) (oi := ?oi100) (v := ?v100) ?hi100 (by kernel_rfl) (by kernel_rfl) (by kernel_rfl) ?hq100 (Or.inl ⟨?hw100, ?hy100⟩) (by assumption) ?rest100
  case hi100 => (simp only [List.getElem?_toArray, List.getElem?_cons_succ, List.getElem?_cons_zero]; rfl)
  case hq100 => exact fun _ _ _ h => h
  case hw100 => rfl
  case hy100 => (intro w hSw; (try dsimp only at hSw); go_simp <;> with_reducible rfl)
  try simp only [Act.put, List.setIfInBounds_toArray, List.set_cons_zero, List.set_cons_succ]
  refine wpAnyH_take (i := 3) (oi := ?oi103) (v := ?v103) ?hi103 (by kernel_rfl) (by kernel_rfl) (by kernel_rfl) ?hq103 (Or.inl ⟨?hw103, ?hy103⟩) (by assumption) ?rest103
  case hi103 => (simp only [List.getElem?_toArray, List.getElem?_cons_succ, List.getElem?_cons_zero]; rfl)
  case hq103 => exact fun _ _ _ h => h
  case hw103 => rfl
  case hy103 => (intro w hSw; (try dsimp only at hSw); go_simp <;> with_reducible rfl)
  try simp only [Act.put, List.setIfInBounds_toArray, List.set_cons_zero, List.set_cons_succ]
  refine wpAnyH_take (i := 4) (oi := ?oi104) (v := ?v104) ?hi104 (by kernel_rfl) (by kernel_rfl) (by kernel_rfl) ?hq104 (Or.inl ⟨?hw104, ?hy104⟩) (by assumption) ?rest104
  case hi104 => (simp only [List.getElem?_toArray, List.getElem?_cons_succ, List.getElem?_cons_zero]; rfl)
  case hq104 => exact fun _ _ _ h => h
  case hw104 => rfl
  case hy104 => (intro w hSw; (try dsimp only at hSw); go_simp <;> with_reducible rfl)
  try simp only [Act.put, List.setIfInBounds_toArray, List.set_cons_zero, List.set_cons_succ]
  refine wpAnyH_ready (rs := [1]) (by kernel_rfl) (by simp) ?_
  refine AllReadyH.cons (o := ?o101) ?hi101 (fun K hK => ?st101) AllReadyH.nil
  case hi101 => (simp only [List.getElem?_toArray, List.getElem?_cons_succ, List.getElem?_cons_zero]; rfl)
  go_simp
  refine hK.out _ _ c0 (fun hHeld2 => ?_)
  clear hK K hHeld
  have hHeld := hHeld2
  clear hHeld2
  try simp only [Act.put, List.setIfInBounds_toArray, List.set_cons_zero, List.set_cons_succ]
  refine wpAnyH_ready (rs := [2]) (by kernel_rfl) (by simp) ?_
  refine AllReadyH.cons (o := ?o102) ?hi102 (fun K hK => ?st102) AllReadyH.nil
  case hi102 => (simp only [List.getElem?_toArray, List.getElem?_cons_succ, List.getElem?_cons_zero]; rfl)
  go_simp
  refine (turn_word v1.b 13 _ hs1.wb.ok.b (by omega) (by omega)).mono ?_
  rintro e w ⟨rfl, hkt⟩
  have hs := (hs1.drew).kept hkt
  clear c0 c1 c2 c3 f0 f1 f2 f3 hkt
  obtain ⟨c0, c1, c2, c3⟩ := hs.wb.cells
  obtain ⟨f0, f1, f2, f3⟩ := hs.wb.free
  try go_simp
  refine hK.out _ _ c0 (fun hHeld2 => ?_)
  clear hK K hHeld
  have hHeld := hHeld2
  clear hHeld2
  try simp only [Act.put, List.setIfInBounds_toArray, List.set_cons_zero, List.set_cons_succ]
  refine wpAnyH_take (i := 5) (oi := ?oi105) (v := ?v105) ?hi105 (by kernel_rfl) (by kernel_rfl) (by kernel_rfl) ?hq105 (Or.inl ⟨?hw105, ?hy105⟩) (by assumption) ?rest105
  case hi105 => (simp only [List.getElem?_toArray, List.getElem?_cons_succ, List.getElem?_cons_zero]; rfl)
  case hq105 => exact fun _ _ _ h => h
  case hw105 => rfl
  case hy105 => (intro w hSw; (try dsimp only at hSw); go_simp <;> with_reducible rfl)
  try simp only [Act.put, List.setIfInBounds_toArray, List.set_cons_zero, List.set_cons_succ]
  refine wpAnyH_take (i := 6) (oi := ?oi106) (v := ?v106) ?hi106 (by kernel_rfl) (by kernel_rfl) (by kernel_rfl) ?hq106 (Or.inl ⟨?hw106, ?hy106⟩) (by assumption) ?rest106
  case hi106 => (simp only [List.getElem?_toArray, List.getElem?_cons_succ, List.getElem?_cons_zero]; rfl)
  case hq106 => exact fun _ _ _ h => h
  case hw106 => rfl
  case hy106 => (intro w hSw; (try dsimp only at hSw); go_simp <;> with_reducible rfl)
  try simp only [Act.put, List.setIfInBounds_toArray, List.set_cons_zero, List.set_cons_succ]
  refine wpAnyH_ready (rs := [7]) (by kernel_rfl) (by simp) ?_
  refine AllReadyH.cons (o := ?o107) ?hi107 (fun K hK => ?st107) AllReadyH.nil
  case hi107 => (simp only [List.getElem?_toArray, List.getElem?_cons_succ, List.getElem?_cons_zero]; rfl)
  go_simp
  have hs2 : RS W (w.setCell ⟨W.heap.size, 1, none⟩ (.int .u64 ((rot v1.b 13 ^^^ v1.a) : Int))) v1.s2 := hs.set_b ((hs.wb.ok.b.rot _).xor hs.wb.ok.a)
  refine hK.out _ _ ((World.cell?_setCell_other _ _ _ _ (by simp)).trans c0) (fun hHeld2 => ?_)
  clear hK K hHeld
  have hHeld := hHeld2
  clear hHeld2
  try simp only [Act.put, List.setIfInBounds_toArray, List.set_cons_zero, List.set_cons_succ]
  refine wpAnyH_done (by kernel_rfl) ?_ _
  clear hval hs hHeld c0 c1 c2 c3 f0 f1 f2 f3 hs1
  generalize w.setCell ⟨W.heap.size, 1, none⟩ (.int .u64 ((rot v1.b 13 ^^^ v1.a) : Int)) = w2 at hs2 ⊢
  --STEP2
  obtain ⟨c0, c1, c2, c3⟩ := hs2.wb.cells
  obtain ⟨f0, f1, f2, f3⟩ := hs2.wb.free
  go_wp2_with fail
  refine (turn_word v1.a 32 _ hs2.wb.ok.a (by omega) (by omega)).mono ?_
  rintro e w ⟨rfl, hkt⟩
  have hs := hs2.kept hkt
  clear c0 c1 c2 c3 f0 f1 f2 f3 hkt hs2
  obtain ⟨c0, c1, c2, c3⟩ := hs.wb.cells
  obtain ⟨f0, f1, f2, f3⟩ := hs.wb.free
  have hval := wrap_add v1.s2.c v1.s2.d
  --ROT
  go_wp2_with fail
  --RAN
  have hs3 : RS W (w.setCell ⟨W.heap.size, 0, none⟩ (.int .u64 ((rot v1.a 32) : Int))) v1.s2.s3 := hs.set_a (hs.wb.ok.a.rot _)
  have hs4 : RS W ((w.setCell ⟨W.heap.size, 0, none⟩ (.int .u64 (rot v1.a 32 : Int))).setCell ⟨W.heap.size, 2, none⟩ (.int .u64 ((addw v1.s2.c v1.s2.d) : Int))) v1.s2.s3.s4 := hs3.set_c (W64.addw _ _)
  clear hval hs hs3 c0 c1 c2 c3 f0 f1 f2 f3
  generalize (w.setCell ⟨W.heap.size, 0, none⟩ (.int .u64 (rot v1.a 32 : Int))).setCell ⟨W.heap.size, 2, none⟩ (.int .u64 ((addw v1.s2.c v1.s2.d) : Int)) = w4 at hs4 ⊢
  generalize hv4 : v1.s2.s3.s4 = v4 at hs4
  have HV4 := Lib.hid hv4
  clear hv4
  --STEP4
  as_aux_lemma =>
    obtain ⟨c0, c1, c2, c3⟩ := hs4.wb.cells
    obtain ⟨f0, f1, f2, f3⟩ := hs4.wb.free
    have hval := xor64 (hs4.wb.ok.d.rot 16) hs4.wb.ok.c
    refine wp_region_held_drew (S := (fun w' => w'.cell? ⟨W.heap.size, 2, none⟩ = some (.int .u64 (v4.c : Int)))) (by kernel_rfl) c2 (fun hHeld => ?_)
    refine wpAnyH_take (i := 0) (oi := ?oi400) (v := ?v400) ?hi400 (by kernel_rfl) (by kernel_rfl) (by kernel_rfl) ?hq400 (Or.inl ⟨?hw400, ?hy400⟩) (by assumption) ?rest400
    case hi400 => (simp only [List.getElem?_toArray, List.getElem?_cons_succ, List.getElem?_cons_zero]; rfl)
    case hq400 => exact fun _ _ _ h => h
    case hw400 => rfl
    case hy400 => (intro w hSw; (try dsimp only at hSw); go_simp <;> with_reducible rfl)
    try simp only [Act.put, List.setIfInBounds_toArray, List.set_cons_zero, List.set_cons_succ]
    refine wpAnyH_take (i := 3) (oi := ?oi403) (v := ?v403) ?hi403 (by kernel_rfl) (by kernel_rfl) (by kernel_rfl) ?hq403 (Or.inl ⟨?hw403, ?hy403⟩) (by assumption) ?rest403
    case hi403 => (simp only [List.getElem?_toArray, List.getElem?_cons_succ, List.getElem?_cons_zero]; rfl)
    case hq403 => exact fun _ _ _ h => h
    case hw403 => rfl
    case hy403 => (intro w hSw; (try dsimp only at hSw); go_simp <;> with_reducible rfl)
    try simp only [Act.put, List.setIfInBounds_toArray, List.set_cons_zero, List.set_cons_succ]
    refine wpAnyH_take (i := 4) (oi := ?oi404) (v := ?v404) ?hi404 (by kernel_rfl) (by kernel_rfl) (by kernel_rfl) ?hq404 (Or.inl ⟨?hw404, ?hy404⟩) (by assumption) ?rest404
    case hi404 => (simp only [List.getElem?_toArray, List.getElem?_cons_succ, List.getElem?_cons_zero]; rfl)
    case hq404 => exact fun _ _ _ h => h
    case hw404 => rfl
    case hy404 => (intro w hSw; (try dsimp only at hSw); go_simp <;> with_reducible rfl)
    try simp only [Act.put, List.setIfInBounds_toArray, List.set_cons_zero, List.set_cons_succ]
    refine wpAnyH_ready (rs := [1]) (by kernel_rfl) (by simp) ?_
    refine AllReadyH.cons (o := ?o401) ?hi401 (fun K hK => ?st401) AllReadyH.nil
    case hi401 => (simp only [List.getElem?_toArray, List.getElem?_cons_succ, List.getElem?_cons_zero]; rfl)
    go_simp
    refine hK.out _ _ c2 (fun hHeld2 => ?_)
    clear hK K hHeld
    have hHeld := hHeld2
    clear hHeld2
    try simp only [Act.put, List.setIfInBounds_toArray, List.set_cons_zero, List.set_cons_succ]
    refine wpAnyH_ready (rs := [2]) (by kernel_rfl) (by simp) ?_
    refine AllReadyH.cons (o := ?o402) ?hi402 (fun K hK => ?st402) AllReadyH.nil
    case hi402 => (simp only [List.getElem?_toArray, List.getElem?_cons_succ, List.getElem?_cons_zero]; rfl)
    go_simp
    refine (turn_word v4.d 16 _ hs4.wb.ok.d (by omega) (by omega)).mono ?_
    rintro e w ⟨rfl, hkt⟩
    have hs := (hs4.drew).kept hkt
    clear c0 c1 c2 c3 f0 f1 f2 f3 hkt
    obtain ⟨c0, c1, c2, c3⟩ := hs.wb.cells
    obtain ⟨f0, f1, f2, f3⟩ := hs.wb.free
    try go_simp
    refine hK.out _ _ c2 (fun hHeld2 => ?_)
    clear hK K hHeld
    have hHeld := hHeld2
    clear hHeld2
    try simp only [Act.put, List.setIfInBounds_toArray, List.set_cons_zero, List.set_cons_succ]
    refine wpAnyH_take (i := 5) (oi := ?oi405) (v := ?v405) ?hi405 (by kernel_rfl) (by kernel_rfl) (by kernel_rfl) ?hq405 (Or.inl ⟨?hw405, ?hy405⟩) (by assumption) ?rest405
    case hi405 => (simp only [List.getElem?_toArray, List.getElem?_cons_succ, List.getElem?_cons_zero]; rfl)
    case hq405 => exact fun _ _ _ h => h
    case hw405 => rfl
    case hy405 => (intro w hSw; (try dsimp only at hSw); go_simp <;> with_reducible rfl)
    try simp only [Act.put, List.setIfInBounds_toArray, List.set_cons_zero, List.set_cons_succ]
    refine wpAnyH_take (i := 6) (oi := ?oi406) (v := ?v406) ?hi406 (by kernel_rfl) (by kernel_rfl) (by kernel_rfl) ?hq406 (Or.inl ⟨?hw406, ?hy406⟩) (by assumption) ?rest406
    case hi406 => (simp only [List.getElem?_toArray, List.getElem?_cons_succ, List.getElem?_cons_zero]; rfl)
    case hq406 => exact fun _ _ _ h => h
    case hw406 => rfl
    case hy406 => (intro w hSw; (try dsimp only at hSw); go_simp <;> with_reducible rfl)
    try simp only [Act.put, List.setIfInBounds_toArray, List.set_cons_zero, List.set_cons_succ]
    refine wpAnyH_ready (rs := [7]) (by kernel_rfl) (by simp) ?_
    refine AllReadyH.cons (o := ?o407) ?hi407 (fun K hK => ?st407) AllReadyH.nil
    case hi407 => (simp only [List.getElem?_toArray, List.getElem?_cons_succ, List.getElem?_cons_zero]; rfl)
    go_simp
    have hs5 : RS W (w.setCell ⟨W.heap.size, 3, none⟩ (.int .u64 ((rot v4.d 16 ^^^ v4.c) : Int))) v4.s5 := hs.set_d ((hs.wb.ok.d.rot _).xor hs.wb.ok.c)
    refine hK.out _ _ ((World.cell?_setCell_other _ _ _ _ (by simp)).trans c2) (fun hHeld2 => ?_)
    clear hK K hHeld
    have hHeld := hHeld2
    clear hHeld2
    try simp only [Act.put, List.setIfInBounds_toArray, List.set_cons_zero, List.set_cons_succ]
    refine wpAnyH_done (by kernel_rfl) ?_ _
    clear hval hs hHeld c0 c1 c2 c3 f0 f1 f2 f3 hs4
    generalize w.setCell ⟨W.heap.size, 3, none⟩ (.int .u64 ((rot v4.d 16 ^^^ v4.c) : Int)) = w5 at hs5 ⊢
    generalize hv5 : v4.s5 = v5 at hs5
    have HV5 := Lib.hid hv5
    clear hv5
    --STEP5
    obtain ⟨c0, c1, c2, c3⟩ := hs5.wb.cells
    obtain ⟨f0, f1, f2, f3⟩ := hs5.wb.free
    have hval := wrap_add v5.a v5.d
    go_wp2_with fail
    have hs6 : RS W (w5.setCell ⟨W.heap.size, 0, none⟩ (.int .u64 ((addw v5.a v5.d) : Int))) v5.s6 := hs5.set_a (W64.addw _ _)
    clear hval hs5 c0 c1 c2 c3 f0 f1 f2 f3
    generalize w5.setCell ⟨W.heap.size, 0, none⟩ (.int .u64 ((addw v5.a v5.d) : Int)) = w6 at hs6 ⊢
    generalize hv6 : v5.s6 = v6 at hs6
    have HV6 := Lib.hid hv6
    clear hv6
    --STEP6
    as_aux_lemma =>
      obtain ⟨c0, c1, c2, c3⟩ := hs6.wb.cells
      obtain ⟨f0, f1, f2, f3⟩ := hs6.wb.free
      have hval := xor64 (hs6.wb.ok.d.rot 21) hs6.wb.ok.a
      refine wp_region_held_drew (S := (fun w' => w'.cell? ⟨W.heap.size, 0, none⟩ = some (.int .u64 (v6.a : Int)))) (by kernel_rfl) c0 (fun hHeld => ?_)
      refine wpAnyH_take (i := 0) (oi := ?oi600) (v := ?v600) ?hi600 (by kernel_rfl) (by kernel_rfl) (by kernel_rfl) ?hq600 (Or.inl ⟨?hw600, ?hy600⟩) (by assumption) ?rest600
      case hi600 => (simp only [List.getElem?_toArray, List.getElem?_cons_succ, List.getElem?_cons_zero]; rfl)
      case hq600 => exact fun _ _ _ h => h
      case hw600 => rfl
      case hy600 => (intro w hSw; (try dsimp only at hSw); go_simp <;> with_reducible rfl)
      try simp only [Act.put, List.setIfInBounds_toArray, List.set_cons_zero, List.set_cons_succ]
      refine wpAnyH_take (i := 3) (oi := ?oi603) (v := ?v603) ?hi603 (by kernel_rfl) (by kernel_rfl) (by kernel_rfl) ?hq603 (Or.inl ⟨?hw603, ?hy603⟩) (by assumption) ?rest603
      case hi603 => (simp only [List.getElem?_toArray, List.getElem?_cons_succ, List.getElem?_cons_zero]; rfl)
      case hq603 => exact fun _ _ _ h => h
      case hw603 => rfl
      case hy603 => (intro w hSw; (try dsimp only at hSw); go_simp <;> with_reducible rfl)
      try simp only [Act.put, List.setIfInBounds_toArray, List.set_cons_zero, List.set_cons_succ]
      refine wpAnyH_take (i := 4) (oi := ?oi604) (v := ?v604) ?hi604 (by kernel_rfl) (by kernel_rfl) (by kernel_rfl) ?hq604 (Or.inl ⟨?hw604, ?hy604⟩) (by assumption) ?rest604
      case hi604 => (simp only [List.getElem?_toArray, List.getElem?_cons_succ, List.getElem?_cons_zero]; rfl)
      case hq604 => exact fun _ _ _ h => h
      case hw604 => rfl
      case hy604 => (intro w hSw; (try dsimp only at hSw); go_simp <;> with_reducible rfl)
      try simp only [Act.put, List.setIfInBounds_toArray, List.set_cons_zero, List.set_cons_succ]
      refine wpAnyH_ready (rs := [1]) (by kernel_rfl) (by simp) ?_
      refine AllReadyH.cons (o := ?o601) ?hi601 (fun K hK => ?st601) AllReadyH.nil
      case hi601 => (simp only [List.getElem?_toArray, List.getElem?_cons_succ, List.getElem?_cons_zero]; rfl)
      go_simp
      refine hK.out _ _ c0 (fun hHeld2 => ?_)
      clear hK K hHeld
      have hHeld := hHeld2
      clear hHeld2
      try simp only [Act.put, List.setIfInBounds_toArray, List.set_cons_zero, List.set_cons_succ]
      refine wpAnyH_ready (rs := [2]) (by kernel_rfl) (by simp) ?_
      refine AllReadyH.cons (o := ?o602) ?hi602 (fun K hK => ?st602) AllReadyH.nil
      case hi602 => (simp only [List.getElem?_toArray, List.getElem?_cons_succ, List.getElem?_cons_zero]; rfl)
      go_simp
      refine (turn_word v6.d 21 _ hs6.wb.ok.d (by omega) (by omega)).mono ?_
      rintro e w ⟨rfl, hkt⟩
      have hs := (hs6.drew).kept hkt
      clear c0 c1 c2 c3 f0 f1 f2 f3 hkt
      obtain ⟨c0, c1, c2, c3⟩ := hs.wb.cells
      obtain ⟨f0, f1, f2, f3⟩ := hs.wb.free
      try go_simp
      refine hK.out _ _ c0 (fun hHeld2 => ?_)
      clear hK K hHeld
      have hHeld := hHeld2
      clear hHeld2
      try simp only [Act.put, List.setIfInBounds_toArray, List.set_cons_zero, List.set_cons_succ]
      refine wpAnyH_take (i := 5) (oi := ?oi605) (v := ?v605) ?hi605 (by kernel_rfl) (by kernel_rfl) (by kernel_rfl) ?hq605 (Or.inl ⟨?hw605, ?hy605⟩) (by assumption) ?rest605
      case hi605 => (simp only [List.getElem?_toArray, List.getElem?_cons_succ, List.getElem?_cons_zero]; rfl)
      case hq605 => exact fun _ _ _ h => h
      case hw605 => rfl
      case hy605 => (intro w hSw; (try dsimp only at hSw); go_simp <;> with_reducible rfl)
      try simp only [Act.put, List.setIfInBounds_toArray, List.set_cons_zero, List.set_cons_succ]
      refine wpAnyH_take (i := 6) (oi := ?oi606) (v := ?v606) ?hi606 (by kernel_rfl) (by kernel_rfl) (by kernel_rfl) ?hq606 (Or.inl ⟨?hw606, ?hy606⟩) (by assumption) ?rest606
      case hi606 => (simp only [List.getElem?_toArray, List.getElem?_cons_succ, List.getElem?_cons_zero]; rfl)
      case hq606 => exact fun _ _ _ h => h
      case hw606 => rfl
      case hy606 => (intro w hSw; (try dsimp only at hSw); go_simp <;> with_reducible rfl)
      try simp only [Act.put, List.setIfInBounds_toArray, List.set_cons_zero, List.set_cons_succ]
      refine wpAnyH_ready (rs := [7]) (by kernel_rfl) (by simp) ?_
      refine AllReadyH.cons (o := ?o607) ?hi607 (fun K hK => ?st607) AllReadyH.nil
      case hi607 => (simp only [List.getElem?_toArray, List.getElem?_cons_succ, List.getElem?_cons_zero]; rfl)
      go_simp
      have hs7 : RS W (w.setCell ⟨W.heap.size, 3, none⟩ (.int .u64 ((rot v6.d 21 ^^^ v6.a) : Int))) v6.s7 := hs.set_d ((hs.wb.ok.d.rot _).xor hs.wb.ok.a)
      refine hK.out _ _ ((World.cell?_setCell_other _ _ _ _ (by simp)).trans c0) (fun hHeld2 => ?_)
      clear hK K hHeld
      have hHeld := hHeld2
      clear hHeld2
      try simp only [Act.put, List.setIfInBounds_toArray, List.set_cons_zero, List.set_cons_succ]
      refine wpAnyH_done (by kernel_rfl) ?_ _
      clear hval hs hHeld c0 c1 c2 c3 f0 f1 f2 f3 hs6
      generalize w.setCell ⟨W.heap.size, 3, none⟩ (.int .u64 ((rot v6.d 21 ^^^ v6.a) : Int)) = w7 at hs7 ⊢
      generalize hv7 : v6.s7 = v7 at hs7
      have HV7 := Lib.hid hv7
      clear hv7
      --STEP7
      obtain ⟨c0, c1, c2, c3⟩ := hs7.wb.cells
      obtain ⟨f0, f1, f2, f3⟩ := hs7.wb.free
      have hval := wrap_add v7.c v7.b
      go_wp2_with fail
      have hs8 : RS W (w7.setCell ⟨W.heap.size, 2, none⟩ (.int .u64 ((addw v7.c v7.b) : Int))) v7.s8 := hs7.set_c (W64.addw _ _)
      clear hval hs7 c0 c1 c2 c3 f0 f1 f2 f3
      generalize w7.setCell ⟨W.heap.size, 2, none⟩ (.int .u64 ((addw v7.c v7.b) : Int)) = w8 at hs8 ⊢
      generalize hv8 : v7.s8 = v8 at hs8
      have HV8 := Lib.hid hv8
      clear hv8
      --STEP8
      as_aux_lemma =>
        obtain ⟨c0, c1, c2, c3⟩ := hs8.wb.cells
        obtain ⟨f0, f1, f2, f3⟩ := hs8.wb.free
        have hval := xor64 (hs8.wb.ok.b.rot 17) hs8.wb.ok.c
        refine wp_region_held_drew (S := (fun w' => w'.cell? ⟨W.heap.size, 2, none⟩ = some (.int .u64 (v8.c : Int)))) (by kernel_rfl) c2 (fun hHeld => ?_)
        refine wpAnyH_take (i := 0) (oi := ?oi800) (v := ?v800) ?hi800 (by kernel_rfl) (by kernel_rfl) (by kernel_rfl) ?hq800 (Or.inl ⟨?hw800, ?hy800⟩) (by assumption) ?rest800
        case hi800 => (simp only [List.getElem?_toArray, List.getElem?_cons_succ, List.getElem?_cons_zero]; rfl)
        case hq800 => exact fun _ _ _ h => h
        case hw800 => rfl
        case hy800 => (intro w hSw; (try dsimp only at hSw); go_simp <;> with_reducible rfl)
        try simp only [Act.put, List.setIfInBounds_toArray, List.set_cons_zero, List.set_cons_succ]
        refine wpAnyH_take (i := 3) (oi := ?oi803) (v := ?v803) ?hi803 (by kernel_rfl) (by kernel_rfl) (by kernel_rfl) ?hq803 (Or.inl ⟨?hw803, ?hy803⟩) (by assumption) ?rest803
        case hi803 => (simp only [List.getElem?_toArray, List.getElem?_cons_succ, List.getElem?_cons_zero]; rfl)
        case hq803 => exact fun _ _ _ h => h
        case hw803 => rfl
        case hy803 => (intro w hSw; (try dsimp only at hSw); go_simp <;> with_reducible rfl)
        try simp only [Act.put, List.setIfInBounds_toArray, List.set_cons_zero, List.set_cons_succ]
        refine wpAnyH_take (i := 4) (oi := ?oi804) (v := ?v804) ?hi804 (by kernel_rfl) (by kernel_rfl) (by kernel_rfl) ?hq804 (Or.inl ⟨?hw804, ?hy804⟩) (by assumption) ?rest804
        case hi804 => (simp only [List.getElem?_toArray, List.getElem?_cons_succ, List.getElem?_cons_zero]; rfl)
        case hq804 => exact fun _ _ _ h => h
        case hw804 => rfl
        case hy804 => (intro w hSw; (try dsimp only at hSw); go_simp <;> with_reducible rfl)
        try simp only [Act.put, List.setIfInBounds_toArray, List.set_cons_zero, List.set_cons_succ]
        refine wpAnyH_ready (rs := [1]) (by kernel_rfl) (by simp) ?_
        refine AllReadyH.cons (o := ?o801) ?hi801 (fun K hK => ?st801) AllReadyH.nil
        case hi801 => (simp only [List.getElem?_toArray, List.getElem?_cons_succ, List.getElem?_cons_zero]; rfl)
        go_simp
        refine hK.out _ _ c2 (fun hHeld2 => ?_)
        clear hK K hHeld
        have hHeld := hHeld2
        clear hHeld2
        try simp only [Act.put, List.setIfInBounds_toArray, List.set_cons_zero, List.set_cons_succ]
        refine wpAnyH_ready (rs := [2]) (by kernel_rfl) (by simp) ?_
        refine AllReadyH.cons (o := ?o802) ?hi802 (fun K hK => ?st802) AllReadyH.nil
        case hi802 => (simp only [List.getElem?_toArray, List.getElem?_cons_succ, List.getElem?_cons_zero]; rfl)
        go_simp
        refine (turn_word v8.b 17 _ hs8.wb.ok.b (by omega) (by omega)).mono ?_
        rintro e w ⟨rfl, hkt⟩
        have hs := (hs8.drew).kept hkt
        clear c0 c1 c2 c3 f0 f1 f2 f3 hkt
        obtain ⟨c0, c1, c2, c3⟩ := hs.wb.cells
        obtain ⟨f0, f1, f2, f3⟩ := hs.wb.free
        try go_simp
        refine hK.out _ _ c2 (fun hHeld2 => ?_)
        clear hK K hHeld
        have hHeld := hHeld2
        clear hHeld2
        try simp only [Act.put, List.setIfInBounds_toArray, List.set_cons_zero, List.set_cons_succ]
        refine wpAnyH_take (i := 5) (oi := ?oi805) (v := ?v805) ?hi805 (by kernel_rfl) (by kernel_rfl) (by kernel_rfl) ?hq805 (Or.inl ⟨?hw805, ?hy805⟩) (by assumption) ?rest805
        case hi805 => (simp only [List.getElem?_toArray, List.getElem?_cons_succ, List.getElem?_cons_zero]; rfl)
        case hq805 => exact fun _ _ _ h => h
        case hw805 => rfl
        case hy805 => (intro w hSw; (try dsimp only at hSw); go_simp <;> with_reducible rfl)
        try simp only [Act.put, List.setIfInBounds_toArray, List.set_cons_zero, List.set_cons_succ]
        refine wpAnyH_take (i := 6) (oi := ?oi806) (v := ?v806) ?hi806 (by kernel_rfl) (by kernel_rfl) (by kernel_rfl) ?hq806 (Or.inl ⟨?hw806, ?hy806⟩) (by assumption) ?rest806
        case hi806 => (simp only [List.getElem?_toArray, List.getElem?_cons_succ, List.getElem?_cons_zero]; rfl)
        case hq806 => exact fun _ _ _ h => h
        case hw806 => rfl
        case hy806 => (intro w hSw; (try dsimp only at hSw); go_simp <;> with_reducible rfl)
        try simp only [Act.put, List.setIfInBounds_toArray, List.set_cons_zero, List.set_cons_succ]
        refine wpAnyH_ready (rs := [7]) (by kernel_rfl) (by simp) ?_
        refine AllReadyH.cons (o := ?o807) ?hi807 (fun K hK => ?st807) AllReadyH.nil
        case hi807 => (simp only [List.getElem?_toArray, List.getElem?_cons_succ, List.getElem?_cons_zero]; rfl)
        go_simp
        have hs9 : RS W (w.setCell ⟨W.heap.size, 1, none⟩ (.int .u64 ((rot v8.b 17 ^^^ v8.c) : Int))) v8.s9 := hs.set_b ((hs.wb.ok.b.rot _).xor hs.wb.ok.c)
        refine hK.out _ _ ((World.cell?_setCell_other _ _ _ _ (by simp)).trans c2) (fun hHeld2 => ?_)
        clear hK K hHeld
        have hHeld := hHeld2
        clear hHeld2
        try simp only [Act.put, List.setIfInBounds_toArray, List.set_cons_zero, List.set_cons_succ]
        refine wpAnyH_done (by kernel_rfl) ?_ _
        clear hval hs hHeld c0 c1 c2 c3 f0 f1 f2 f3 hs8
        generalize w.setCell ⟨W.heap.size, 1, none⟩ (.int .u64 ((rot v8.b 17 ^^^ v8.c) : Int)) = w9 at hs9 ⊢
        --STEP9
        obtain ⟨c0, c1, c2, c3⟩ := hs9.wb.cells
        obtain ⟨f0, f1, f2, f3⟩ := hs9.wb.free
        go_wp2_with fail
        refine (turn_word v8.c 32 _ hs9.wb.ok.c (by omega) (by omega)).mono ?_
        rintro e w ⟨rfl, hkt⟩
        have hs := hs9.kept hkt
        clear c0 c1 c2 c3 f0 f1 f2 f3 hkt hs9
        obtain ⟨c0, c1, c2, c3⟩ := hs.wb.cells
        obtain ⟨f0, f1, f2, f3⟩ := hs.wb.free
        --LAST
        have hr := hs.res
        have r0 := hr.cell 0
        have q0 := hr.frozen 0
        have q1 := hr.frozen 1
        have q2 := hr.frozen 2
        have q3 := hr.frozen 3
        have r1 := hr.cell 1
        have r2 := hr.cell 2
        have r3 := hr.cell 3
        simp at r0 r1 r2 r3
        go_wp2_with fail
        --END
        have e10 : v0.rnd = v8.s9.s10 := by
          unfold V4.rnd
          rw [HV1.out, HV4.out, HV5.out, HV6.out, HV7.out, HV8.out]
        have hend : Blk (((((w.setCell ⟨W.heap.size, 2, none⟩ (.int .u64 (rot v8.c 32 : Int))).setCell ⟨W.heap.size + 1, 0, none⟩ (.int .u64 (v8.s9.a : Int))).setCell ⟨W.heap.size + 1, 1, none⟩ (.int .u64 (v8.s9.b : Int))).setCell ⟨W.heap.size + 1, 2, none⟩ (.int .u64 (rot v8.c 32 : Int))).setCell ⟨W.heap.size + 1, 3, none⟩ (.int .u64 (v8.s9.d : Int))) (W.heap.size + 1) 109 v8.s9.s10.cells := by
          rw [s10_cells]
          exact blk_fill (hs.far 2 _) _ _ _ _
        have hkeep : Keep (fun _ => False) W (((((w.setCell ⟨W.heap.size, 2, none⟩ (.int .u64 (rot v8.c 32 : Int))).setCell ⟨W.heap.size + 1, 0, none⟩ (.int .u64 (v8.s9.a : Int))).setCell ⟨W.heap.size + 1, 1, none⟩ (.int .u64 (v8.s9.b : Int))).setCell ⟨W.heap.size + 1, 2, none⟩ (.int .u64 (rot v8.c 32 : Int))).setCell ⟨W.heap.size + 1, 3, none⟩ (.int .u64 (v8.s9.d : Int))) := ((((hs.keep.put0 (Nat.le_refl _) _ _).put0 (Nat.le_succ _) _ _).put0 (Nat.le_succ _) _ _).put0 (Nat.le_succ _) _ _).put0 (Nat.le_succ _) _ _
        generalize ((((w.setCell ⟨W.heap.size, 2, none⟩ (.int .u64 (rot v8.c 32 : Int))).setCell ⟨W.heap.size + 1, 0, none⟩ (.int .u64 (v8.s9.a : Int))).setCell ⟨W.heap.size + 1, 1, none⟩ (.int .u64 (v8.s9.b : Int))).setCell ⟨W.heap.size + 1, 2, none⟩ (.int .u64 (rot v8.c 32 : Int))).setCell ⟨W.heap.size + 1, 3, none⟩ (.int .u64 (v8.s9.d : Int)) = w10 at hend hkeep ⊢
        clear c0 c1 c2 c3 f0 f1 f2 f3 r0 r1 r2 r3 q0 q1 q2 q3 hr hs
        rw [e10]
        generalize v8.s9.s10 = v10 at hend ⊢
        obtain ⟨k0, k1, k2, k3⟩ := blk_cells hend
        --FIN
        clear e10 HV1 HV4 HV5 HV6 HV7 HV8 hv0
        refine ⟨rfl, .agg #[.int .u64 (v10.a : Int), .int .u64 (v10.b : Int), .int .u64 (v10.c : Int), .int .u64 (v10.d : Int)], ?_, ⟨rfl, hkeep⟩⟩
        clear hkeep hend
        simp only [results, Try.results50]
        simp
        exact load_four _ _ _ _ _ _ k0 k1 k2 k3
end Go.Proofs.Ytpendcaefjbomaa
