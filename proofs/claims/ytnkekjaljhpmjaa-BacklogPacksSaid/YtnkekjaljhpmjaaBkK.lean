/- looks: a backlog beside the document's. No condition but that both lie in memory, and no order stands twice. -/
import Derived.Test.YtnkekjaljhpmjaaBkY
import Derived.Test.YtnkekjaljhpmjaaBkR
import Derived.Test.YtnkekjaljhpmjaaBkF
import Derived.Laws.StructEq
namespace Go.Proofs.Ytnkekjaljhpmjaa
open Go.RowKit Go.Shelf
set_option linter.unusedVariables false
set_option linter.unusedSimpArgs false
attribute [local go_sem] Oper.semAt_some

theorem run_row_neq (a c : Int) (b d : Bool) (z : Bool) (hz : ((a == c) && (b == d)) = z) (W : World) : (binOp .neq 62 (.agg #[.int .i64 a, .bool b]) (.agg #[.int .i64 c, .bool d])).run Try.prog W = .ok (.bool (!z)) W := by
  have hS : Try.prog.underlying 62 = some (.struct (Try.prog.fieldsOf 62)) := by kernel_rfl
  have hp : Try.prog.stoodInHeld 62 = false := by kernel_rfl
  have u3 := Try.underlying3
  have a3 := Try.isAgg3
  have z3 := Try.sizeOf3
  have u4 := Try.underlying4
  have a4 := Try.isAgg4
  have z4 := Try.sizeOf4
  rw [run_neq_struct, show (10000 : Nat) = 9999 + 1 from rfl, run_equalIn_agg W 9999 _ _ _ hS hp]
  simp only [Program.fieldsOf, Try.underlying62]
  subst hz
  go_simp
  by_cases h1 : a = c <;> by_cases h2 : b = d <;> simp [h1, h2]
theorem row_guard : Try.prog.eqGuardType Try.prog.depth 62 = false := by kernel_rfl
theorem prefix_nextW {pre x : List Wt} {u : Wt} (h : pre <+: x) (hu : x[pre.length]? = some u) : pre ++ [u] <+: x := by
  obtain ⟨r, rfl⟩ := h
  rw [List.getElem?_append_right (Nat.le_refl _), Nat.sub_self] at hu
  match r, hu with
  | y :: r, hu =>
    simp at hu
    subst hu
    exact ⟨r, by simp⟩
theorem prefix_getW {pre x : List Wt} {u : Wt} (h : pre ++ [u] <+: x) : x[pre.length]? = some u := by
  obtain ⟨r, rfl⟩ := h
  simp
theorem Blk.rowW {w W : World} {g : Nat} {t : TypeId} {cs : Array Value} {row : Option Nat} {n : Nat} (h : Blk w g t cs) (hg : w.grownBy W row) (hr : ∀ r, row = some r → n ≤ r ∧ ∃ o : Obj, w.heap[r]? = some o ∧ o.isCells = false) : Blk W g t cs :=
  h.kept (Keep.of_grown hg) (row_not hr h rfl)
theorem bel_rowW {n₀ B : Nat} {w A A' : World} {row : Option Nat} (h : RowKit.Below n₀ w A) (hg : A.grownBy A' row) (hn : n₀ ≤ A.heap.size) (hB : n₀ ≤ B) (hr : ∀ r, row = some r → B ≤ r ∧ ∃ o : Obj, A.heap[r]? = some o ∧ o.isCells = false) : RowKit.Below n₀ w A' :=
  h.grown hg hn fun k e => Nat.le_trans hB (hr k e).1

theorem wp_calm {c : Code} {Q : Exit → Act → World → Prop} {P : Program} {a : Act} {w : World} (h : c.wp P (Exit.then (Q .normal) (fun _ _ _ => False)) a w) : c.wp P Q a w :=
  wp_mono h fun e a w h => by cases e <;> first | exact h | exact h.elim
theorem then_normal {K : Act → World → Prop} {Q : Exit → Act → World → Prop} {a : Act} {w : World} : Exit.then K Q .normal a w = K a w := rfl
theorem KeepsFrom.ofDrew {B : Nat} {W X : World} (h : KeepsFrom B W.drew X) : KeepsFrom B W X := ⟨h.1, fun k o a b c => h.2 k o a b c⟩
theorem KeepsFrom.toDrew {B : Nat} {W X : World} (h : KeepsFrom B W X) : KeepsFrom B W X.drew := ⟨h.1, fun k o a b c => h.2 k o a b c⟩
theorem KT.set_box {W : World} {g : Nat} {t : TypeId} {cs : Array Value} (h : Blk W g t cs) (ht : t ≠ 60) (i : Nat) (v : Value) : KT W (W.setCell ⟨g, i, none⟩ v) :=
  KT.keep ((Keep.refl (fun k => k = g) W).setCell (p := ⟨g, i, none⟩) (fun _ => rfl) _) fun k cs' e hk => by
    subst e
    have h1 : W.heap[k]? = some (.cells cs t (0, 0)) := h
    rw [hk] at h1
    injection h1 with h1
    injection h1 with _ h1
    exact absurd h1.symm ht
set_option maxRecDepth 100000 in
set_option maxHeartbeats 6400000 in
theorem looks_any {F G : Nat → Prop} {w : World} {p q : Nat} {l : List Wt} {o : Int} (h : BK F w p l o) (hq : QK G w q l o) (hn : (l.map Wt.k).Nodup) (hl : l.length ≤ 1048576) :
    Calls Try.prog 22 #[.pointer (some ⟨p, 0, none⟩), .pointer (some ⟨q, 0, none⟩)] w fun e w' => e = .returned (.bool true) ∧ RowKit.Below w.heap.size w w' := by
  have hfn := func_eq_nilB
  have hg0 := row_guard
  obtain ⟨vx, hV⟩ := hq
  obtain ⟨Ax, cx, rfl, _⟩ := hV.own.form
  obtain ⟨N, hN⟩ : ∃ N, l.length = N := ⟨_, rfl⟩
  rw [hN] at hV hl
  have hql := hV.pc.lt
  refine (callsIn_wide (n := 9)).1 ?_
  refine callsIn_of_wp_marks Try.func22 rfl trivial ?_ rfl
  simp only [Try.ntmps22, List.size_toArray, List.length_cons, List.length_nil, Nat.reduceAdd, Nat.reduceSub, Array.replicate_succ, Array.replicate_zero, List.push_toArray, List.append_toArray, List.nil_append, List.cons_append]
  gi_wp2_with (refine ⟨trivial, ?_⟩; gi_at_call 25; refine (callsIn_wide.2 (ball_make (some ⟨p, 0, none⟩) _)).mono ?_; rintro e w2 ⟨rfl, rfl⟩)
  --A
  have e0 := (((Blk.new w 23 #[.pointer (some ⟨p, 0, none⟩)]).alloc (.cells #[.pointer (some ⟨q, 0, none⟩)] 25)).alloc (.cells #[.bool false] 4)).alloc (.cells #[.pointer (some ⟨p, 0, none⟩)] 23)
  have e1 := ((Blk.new (w.alloc (.cells #[.pointer (some ⟨p, 0, none⟩)] 23)) 25 #[.pointer (some ⟨q, 0, none⟩)]).alloc (.cells #[.bool false] 4)).alloc (.cells #[.pointer (some ⟨p, 0, none⟩)] 23)
  have e2 := (Blk.new ((w.alloc (.cells #[.pointer (some ⟨p, 0, none⟩)] 23)).alloc (.cells #[.pointer (some ⟨q, 0, none⟩)] 25)) 4 #[.bool false]).alloc (.cells #[.pointer (some ⟨p, 0, none⟩)] 23)
  have e3 := Blk.new (((w.alloc (.cells #[.pointer (some ⟨p, 0, none⟩)] 23)).alloc (.cells #[.pointer (some ⟨q, 0, none⟩)] 25)).alloc (.cells #[.bool false] 4)) 23 #[.pointer (some ⟨p, 0, none⟩)]
  rw [World.size_alloc] at e1
  rw [World.size_alloc, World.size_alloc] at e2
  rw [World.size_alloc, World.size_alloc, World.size_alloc] at e3
  have hb4 := ((((RowKit.Below.refl w.heap.size w).alloc (Nat.le_refl _) (.cells #[.pointer (some ⟨p, 0, none⟩)] 23)).alloc (by simp) (.cells #[.pointer (some ⟨q, 0, none⟩)] 25)).alloc (by simp; omega) (.cells #[.bool false] 4)).alloc (by simp; omega) (.cells #[.pointer (some ⟨p, 0, none⟩)] 23)
  have hz4 : ((((w.alloc (.cells #[.pointer (some ⟨p, 0, none⟩)] 23)).alloc (.cells #[.pointer (some ⟨q, 0, none⟩)] 25)).alloc (.cells #[.bool false] 4)).alloc (.cells #[.pointer (some ⟨p, 0, none⟩)] 23)).heap.size = w.heap.size + 4 := by simp
  generalize hW : (((w.alloc (.cells #[.pointer (some ⟨p, 0, none⟩)] 23)).alloc (.cells #[.pointer (some ⟨q, 0, none⟩)] 25)).alloc (.cells #[.bool false] 4)).alloc (.cells #[.pointer (some ⟨p, 0, none⟩)] 23) = W0 at *
  clear hW
  have hB0 := h.below hb4
  have hV0 := hV.below hb4
  have hout := bout_any hB0.drew
  have hlen := blen_any hB0.drew
  rw [hN] at hlen
  obtain ⟨x0, x1⟩ := hV0.fields
  have b0 := e0.cell 0
  have b1 := e1.cell 0
  have b3 := e3.cell 0
  simp at b0 b1 b3
  have hS4 : (fun W => W.cell? ⟨w.heap.size, 0, none⟩ = some (.pointer (some ⟨p, 0, none⟩)) ∧ W.cell? ⟨w.heap.size + 1, 0, none⟩ = some (.pointer (some ⟨q, 0, none⟩)) ∧ W.cell? ⟨q, 0, none⟩ = some (.slice Ax N cx) ∧ W.cell? ⟨q, 1, none⟩ = some (.int .i64 o)) W0.drew := ⟨b0, b1, x0, x1⟩
  refine wpIn_wide.2 (wp_calm ?_)
  refine wp_region_held_drew (S := (fun W => W.cell? ⟨w.heap.size, 0, none⟩ = some (.pointer (some ⟨p, 0, none⟩)) ∧ W.cell? ⟨w.heap.size + 1, 0, none⟩ = some (.pointer (some ⟨q, 0, none⟩)) ∧ W.cell? ⟨q, 0, none⟩ = some (.slice Ax N cx) ∧ W.cell? ⟨q, 1, none⟩ = some (.int .i64 o))) (by kernel_rfl) hS4 (fun hHeld => ?_)
  refine wpAnyH_take (i := 0) (oi := ?oi0a) (v := ?v0a) ?hi0a (by kernel_rfl) (by kernel_rfl) (by kernel_rfl) ?hq0a (Or.inl ⟨?hw0a, ?hy0a⟩) (by assumption) ?rest0a
  case hi0a => (simp only [List.getElem?_toArray, List.getElem?_cons_succ, List.getElem?_cons_zero]; rfl)
  case hq0a => exact fun _ _ _ h => h
  case hw0a => rfl
  case hy0a => (intro w hSw; (try dsimp only at hSw); go_simp <;> with_reducible rfl)
  try simp only [Act.put, List.setIfInBounds_toArray, List.set_cons_zero, List.set_cons_succ]
  refine wpAnyH_take (i := 1) (oi := ?oi1a) (v := ?v1a) ?hi1a (by kernel_rfl) (by kernel_rfl) (by kernel_rfl) ?hq1a (Or.inl ⟨?hw1a, ?hy1a⟩) (by assumption) ?rest1a
  case hi1a => (simp only [List.getElem?_toArray, List.getElem?_cons_succ, List.getElem?_cons_zero]; rfl)
  case hq1a => exact fun _ _ _ h => h
  case hw1a => rfl
  case hy1a => (intro w hSw; (try dsimp only at hSw); go_simp <;> with_reducible rfl)
  try simp only [Act.put, List.setIfInBounds_toArray, List.set_cons_zero, List.set_cons_succ]
  refine wpAnyH_take (i := 2) (oi := ?oi2a) (v := ?v2a) ?hi2a (by kernel_rfl) (by kernel_rfl) (by kernel_rfl) ?hq2a (Or.inl ⟨?hw2a, ?hy2a⟩) (by assumption) ?rest2a
  case hi2a => (simp only [List.getElem?_toArray, List.getElem?_cons_succ, List.getElem?_cons_zero]; rfl)
  case hq2a => exact fun _ _ _ h => h
  case hw2a => rfl
  case hy2a => (intro w hSw; (try dsimp only at hSw); go_simp <;> with_reducible rfl)
  try simp only [Act.put, List.setIfInBounds_toArray, List.set_cons_zero, List.set_cons_succ]
  refine wpAnyH_take (i := 3) (oi := ?oi3a) (v := ?v3a) ?hi3a (by kernel_rfl) (by kernel_rfl) (by kernel_rfl) ?hq3a (Or.inl ⟨?hw3a, ?hy3a⟩) (by assumption) ?rest3a
  case hi3a => (simp only [List.getElem?_toArray, List.getElem?_cons_succ, List.getElem?_cons_zero]; rfl)
  case hq3a => exact fun _ _ _ h => h
  case hw3a => rfl
  case hy3a => (intro w hSw; (try dsimp only at hSw); go_simp <;> with_reducible rfl)
  try simp only [Act.put, List.setIfInBounds_toArray, List.set_cons_zero, List.set_cons_succ]
  refine wpAnyH_take (i := 5) (oi := ?oi5a) (v := ?v5a) ?hi5a (by kernel_rfl) (by kernel_rfl) (by kernel_rfl) ?hq5a (Or.inl ⟨?hw5a, ?hy5a⟩) (by assumption) ?rest5a
  case hi5a => (simp only [List.getElem?_toArray, List.getElem?_cons_succ, List.getElem?_cons_zero]; rfl)
  case hq5a => exact fun _ _ _ h => h
  case hw5a => rfl
  case hy5a => (intro w hSw; (try dsimp only at hSw); go_simp <;> with_reducible rfl)
  try simp only [Act.put, List.setIfInBounds_toArray, List.set_cons_zero, List.set_cons_succ]
  refine wpAnyH_take (i := 6) (oi := ?oi6a) (v := ?v6a) ?hi6a (by kernel_rfl) (by kernel_rfl) (by kernel_rfl) ?hq6a (Or.inl ⟨?hw6a, ?hy6a⟩) (by assumption) ?rest6a
  case hi6a => (simp only [List.getElem?_toArray, List.getElem?_cons_succ, List.getElem?_cons_zero]; rfl)
  case hq6a => exact fun _ _ _ h => h
  case hw6a => rfl
  case hy6a => (intro w hSw; (try dsimp only at hSw); go_simp <;> with_reducible rfl)
  try simp only [Act.put, List.setIfInBounds_toArray, List.set_cons_zero, List.set_cons_succ]
  refine wpAnyH_take (i := 7) (oi := ?oi7a) (v := ?v7a) ?hi7a (by kernel_rfl) (by kernel_rfl) (by kernel_rfl) ?hq7a (Or.inl ⟨?hw7a, ?hy7a⟩) (by assumption) ?rest7a
  case hi7a => (simp only [List.getElem?_toArray, List.getElem?_cons_succ, List.getElem?_cons_zero]; rfl)
  case hq7a => exact fun _ _ _ h => h
  case hw7a => rfl
  case hy7a => (intro w hSw; (try dsimp only at hSw); go_simp <;> with_reducible rfl)
  try simp only [Act.put, List.setIfInBounds_toArray, List.set_cons_zero, List.set_cons_succ]
  refine wpAnyH_take (i := 8) (oi := ?oi8a) (v := ?v8a) ?hi8a (by kernel_rfl) (by kernel_rfl) (by kernel_rfl) ?hq8a (Or.inl ⟨?hw8a, ?hy8a⟩) (by assumption) ?rest8a
  case hi8a => (simp only [List.getElem?_toArray, List.getElem?_cons_succ, List.getElem?_cons_zero]; rfl)
  case hq8a => exact fun _ _ _ h => h
  case hw8a => rfl
  case hy8a => (intro w hSw; (try dsimp only at hSw); go_simp <;> with_reducible rfl)
  try simp only [Act.put, List.setIfInBounds_toArray, List.set_cons_zero, List.set_cons_succ]
  refine wpAnyH_ready (rs := [4]) (by kernel_rfl) (by simp) ?_
  refine AllReadyH.cons (o := ?o4a) ?hi4a (fun K hK => ?st4a) AllReadyH.nil
  case hi4a => (simp only [List.getElem?_toArray, List.getElem?_cons_succ, List.getElem?_cons_zero]; rfl)
  go_simp
  refine hout.mono ?_
  rintro e w' ⟨rfl, hww⟩
  subst w'
  refine hK.out _ _ hS4 (fun hHeld2 => ?_)
  clear hK K hHeld
  have hHeld := hHeld2
  clear hHeld2
  try simp only [Act.put, List.setIfInBounds_toArray, List.set_cons_zero, List.set_cons_succ]
  refine wpAnyH_take (i := 9) (oi := ?oi9a) (v := ?v9a) ?hi9a (by kernel_rfl) (by kernel_rfl) (by kernel_rfl) ?hq9a (Or.inl ⟨?hw9a, ?hy9a⟩) (by assumption) ?rest9a
  case hi9a => (simp only [List.getElem?_toArray, List.getElem?_cons_succ, List.getElem?_cons_zero]; rfl)
  case hq9a => exact fun _ _ _ h => h
  case hw9a => rfl
  case hy9a => (intro w hSw; (try dsimp only at hSw); go_simp <;> with_reducible rfl)
  try simp only [Act.put, List.setIfInBounds_toArray, List.set_cons_zero, List.set_cons_succ]
  refine wpAnyH_take (i := 10) (oi := ?oi10a) (v := ?v10a) ?hi10a (by kernel_rfl) (by kernel_rfl) (by kernel_rfl) ?hq10a (Or.inl ⟨?hw10a, ?hy10a⟩) (by assumption) ?rest10a
  case hi10a => (simp only [List.getElem?_toArray, List.getElem?_cons_succ, List.getElem?_cons_zero]; rfl)
  case hq10a => exact fun _ _ _ h => h
  case hw10a => rfl
  case hy10a => (intro w hSw; (try dsimp only at hSw); go_simp <;> with_reducible rfl)
  try simp only [Act.put, List.setIfInBounds_toArray, List.set_cons_zero, List.set_cons_succ]
  refine wpAnyH_take (i := 11) (oi := ?oi11a) (v := ?v11a) ?hi11a (by kernel_rfl) (by kernel_rfl) (by kernel_rfl) ?hq11a (Or.inl ⟨?hw11a, ?hy11a⟩) (by assumption) ?rest11a
  case hi11a => (simp only [List.getElem?_toArray, List.getElem?_cons_succ, List.getElem?_cons_zero]; rfl)
  case hq11a => exact fun _ _ _ h => h
  case hw11a => rfl
  case hy11a => (intro w hSw; (try dsimp only at hSw); go_simp <;> with_reducible rfl)
  try simp only [Act.put, List.setIfInBounds_toArray, List.set_cons_zero, List.set_cons_succ]
  refine wpAnyH_take (i := 12) (oi := ?oi12a) (v := ?v12a) ?hi12a (by kernel_rfl) (by kernel_rfl) (by kernel_rfl) ?hq12a (Or.inl ⟨?hw12a, ?hy12a⟩) (by assumption) ?rest12a
  case hi12a => (simp only [List.getElem?_toArray, List.getElem?_cons_succ, List.getElem?_cons_zero]; rfl)
  case hq12a => exact fun _ _ _ h => h
  case hw12a => rfl
  case hy12a => (intro w hSw; (try dsimp only at hSw); go_simp <;> with_reducible rfl)
  try simp only [Act.put, List.setIfInBounds_toArray, List.set_cons_zero, List.set_cons_succ]
  refine wpAnyH_take (i := 14) (oi := ?oi14a) (v := ?v14a) ?hi14a (by kernel_rfl) (by kernel_rfl) (by kernel_rfl) ?hq14a (Or.inl ⟨?hw14a, ?hy14a⟩) (by assumption) ?rest14a
  case hi14a => (simp only [List.getElem?_toArray, List.getElem?_cons_succ, List.getElem?_cons_zero]; rfl)
  case hq14a => exact fun _ _ _ h => h
  case hw14a => rfl
  case hy14a => (intro w hSw; (try dsimp only at hSw); go_simp <;> with_reducible rfl)
  try simp only [Act.put, List.setIfInBounds_toArray, List.set_cons_zero, List.set_cons_succ]
  refine wpAnyH_take (i := 15) (oi := ?oi15a) (v := ?v15a) ?hi15a (by kernel_rfl) (by kernel_rfl) (by kernel_rfl) ?hq15a (Or.inl ⟨?hw15a, ?hy15a⟩) (by assumption) ?rest15a
  case hi15a => (simp only [List.getElem?_toArray, List.getElem?_cons_succ, List.getElem?_cons_zero]; rfl)
  case hq15a => exact fun _ _ _ h => h
  case hw15a => rfl
  case hy15a => (intro w hSw; (try dsimp only at hSw); go_simp <;> with_reducible rfl)
  try simp only [Act.put, List.setIfInBounds_toArray, List.set_cons_zero, List.set_cons_succ]
  refine wpAnyH_take (i := 16) (oi := ?oi16a) (v := ?v16a) ?hi16a (by kernel_rfl) (by kernel_rfl) (by kernel_rfl) ?hq16a (Or.inl ⟨?hw16a, ?hy16a⟩) (by assumption) ?rest16a
  case hi16a => (simp only [List.getElem?_toArray, List.getElem?_cons_succ, List.getElem?_cons_zero]; rfl)
  case hq16a => exact fun _ _ _ h => h
  case hw16a => rfl
  case hy16a => (intro w hSw; (try dsimp only at hSw); go_simp <;> with_reducible rfl)
  try simp only [Act.put, List.setIfInBounds_toArray, List.set_cons_zero, List.set_cons_succ]
  refine wpAnyH_take (i := 17) (oi := ?oi17a) (v := ?v17a) ?hi17a (by kernel_rfl) (by kernel_rfl) (by kernel_rfl) ?hq17a (Or.inl ⟨?hw17a, ?hy17a⟩) (by assumption) ?rest17a
  case hi17a => (simp only [List.getElem?_toArray, List.getElem?_cons_succ, List.getElem?_cons_zero]; rfl)
  case hq17a => exact fun _ _ _ h => h
  case hw17a => rfl
  case hy17a => (intro w hSw; (try dsimp only at hSw); go_simp <;> with_reducible rfl)
  try simp only [Act.put, List.setIfInBounds_toArray, List.set_cons_zero, List.set_cons_succ]
  refine wpAnyH_take (i := 18) (oi := ?oi18a) (v := ?v18a) ?hi18a (by kernel_rfl) (by kernel_rfl) (by kernel_rfl) ?hq18a (Or.inl ⟨?hw18a, ?hy18a⟩) (by assumption) ?rest18a
  case hi18a => (simp only [List.getElem?_toArray, List.getElem?_cons_succ, List.getElem?_cons_zero]; rfl)
  case hq18a => exact fun _ _ _ h => h
  case hw18a => rfl
  case hy18a => (intro w hSw; (try dsimp only at hSw); go_simp <;> with_reducible rfl)
  try simp only [Act.put, List.setIfInBounds_toArray, List.set_cons_zero, List.set_cons_succ]
  refine wpAnyH_ready (rs := [13]) (by kernel_rfl) (by simp) ?_
  refine AllReadyH.cons (o := ?o13a) ?hi13a (fun K hK => ?st13a) AllReadyH.nil
  case hi13a => (simp only [List.getElem?_toArray, List.getElem?_cons_succ, List.getElem?_cons_zero]; rfl)
  go_simp
  refine hlen.mono ?_
  rintro e w' ⟨rfl, hww⟩
  subst w'
  refine hK.out _ _ hS4 (fun hHeld2 => ?_)
  clear hK K hHeld
  have hHeld := hHeld2
  clear hHeld2
  try simp only [Act.put, List.setIfInBounds_toArray, List.set_cons_zero, List.set_cons_succ]
  refine wpAnyH_take (i := 19) (oi := ?oi19a) (v := ?v19a) ?hi19a (by kernel_rfl) (by kernel_rfl) (by kernel_rfl) ?hq19a (Or.inl ⟨?hw19a, ?hy19a⟩) (by assumption) ?rest19a
  case hi19a => (simp only [List.getElem?_toArray, List.getElem?_cons_succ, List.getElem?_cons_zero]; rfl)
  case hq19a => exact fun _ _ _ h => h
  case hw19a => rfl
  case hy19a => (intro w hSw; (try dsimp only at hSw); go_simp <;> with_reducible rfl)
  try simp only [Act.put, List.setIfInBounds_toArray, List.set_cons_zero, List.set_cons_succ]
  refine wpAnyH_take (i := 20) (oi := ?oi20a) (v := ?v20a) ?hi20a (by kernel_rfl) (by kernel_rfl) (by kernel_rfl) ?hq20a (Or.inl ⟨?hw20a, ?hy20a⟩) (by assumption) ?rest20a
  case hi20a => (simp only [List.getElem?_toArray, List.getElem?_cons_succ, List.getElem?_cons_zero]; rfl)
  case hq20a => exact fun _ _ _ h => h
  case hw20a => rfl
  case hy20a => (intro w hSw; (try dsimp only at hSw); go_simp <;> with_reducible rfl)
  try simp only [Act.put, List.setIfInBounds_toArray, List.set_cons_zero, List.set_cons_succ]
  refine wpAnyH_done (by kernel_rfl) ?_ _
  --B
  rw [then_normal]
  gi_wp2
  have e4 := (Blk.new W0 3 #[.int .i64 0]).drew
  rw [hz4] at e4
  have e0' := (e0.alloc (.cells #[.int .i64 0] 3)).drew
  have e1' := (e1.alloc (.cells #[.int .i64 0] 3)).drew
  have e2' := (e2.alloc (.cells #[.int .i64 0] 3)).drew
  have b3' : (W0.alloc (.cells #[.int .i64 0] 3)).drew.cell? ⟨w.heap.size + 1 + 1 + 1, 0, none⟩ = some (.pointer (some ⟨p, 0, none⟩)) := by
    have := (e3.alloc (.cells #[.int .i64 0] 3)).drew.cell 0
    simpa using this
  have hb5 := (hb4.alloc (by omega) (.cells #[.int .i64 0] 3)).drew
  have hz5 : (W0.alloc (.cells #[.int .i64 0] 3)).drew.heap.size = w.heap.size + 5 := by
    show (W0.alloc (.cells #[.int .i64 0] 3)).heap.size = _
    rw [World.size_alloc, hz4]
  generalize hW5 : (W0.alloc (.cells #[.int .i64 0] 3)).drew = W5 at *
  clear hW5 e0 e1 e2 e3 hS4 hout hlen x0 x1 b0 b1 b3 hB0 hV0 hb4
  refine range_backlog p o l (w.heap.size + 1 + 1 + 1) (by first | rfl | simp [go_sem]) rfl b3' (h.below hb5) (by omega)
    (fun pre W => pre <+: l ∧ Blk W w.heap.size 23 #[.pointer (some ⟨p, 0, none⟩)] ∧ Blk W (w.heap.size + 1) 25 #[.pointer (some ⟨q, 0, none⟩)] ∧ Blk W (w.heap.size + 1 + 1) 4 #[.bool false] ∧ Blk W (w.heap.size + 4) 3 #[.int .i64 (pre.length : Int)] ∧ RowKit.Below w.heap.size w W)
    (fun c pre W => ¬ pre <+: l)
    (fun s X Y row h hg hr => ⟨h.1, h.2.1.rowW hg hr, h.2.2.1.rowW hg hr, h.2.2.2.1.rowW hg hr, h.2.2.2.2.1.rowW hg hr, bel_rowW h.2.2.2.2.2 hg (by have := h.2.1.lt; omega) (by omega) hr⟩)
    (fun c s X Y row h hg hr => h)
    ⟨List.nil_prefix, e0', e1', e2', e4, hb5⟩ ?round ?done ?stop
  case round =>
    apply Exists.intro
    constructor
    · intro l' u W K hx hK
      gi_wp2
      exact hK
    · rintro l' pre ⟨kk, kr⟩ W hx hzW ⟨hpre, hp0, hp1, hr1, hi, hb⟩ hlen
      dsimp only
      obtain ⟨j, hj⟩ : ∃ j, pre.length = j := ⟨_, rfl⟩
      rw [hj] at hi hlen
      have hjn : j < N := by omega
      have hjz : decide (N ≤ j) = false := decide_eq_false (by omega)
      have hjb : j ≤ 1048576 := by omega
      have hVW := hV.below hb
      obtain ⟨g, ⟨tk, tr⟩, rfl, hu, c0, c1⟩ := hVW.own.place hjn
      dsimp only at c0 c1
      obtain ⟨x0, x1⟩ := hVW.fields
      have v0 := hp0.cell 0
      have v1 := hp1.cell 0
      have r0 := hr1.cell 0
      have rf := hr1.frozen 0
      have n0 := hi.cell 0
      have nf := hi.frozen 0
      simp at v0 v1 r0 n0
      have hVw : ∀ W', RowKit.Below w.heap.size w W' → W'.cell? ⟨q, 0, none⟩ = some (.slice (some ⟨g, 0, none⟩) N cx) ∧ W'.cell? ⟨g, j * 2, none⟩ = some (.int .i64 tk) ∧ W'.cell? ⟨g, j * 2 + 1, none⟩ = some (.bool tr) := fun W' hb' => by
        have hV' := hV.below hb'
        obtain ⟨g', y, e, hu', d0, d1⟩ := hV'.own.place hjn
        cases e
        rw [hu] at hu'
        cases hu'
        exact ⟨hV'.fields.1, d0, d1⟩
      have hS8 : (fun W' => W'.cell? ⟨w.heap.size + 1 + 1 + 1 + 1, 0, none⟩ = some (.int .i64 (j : Int)) ∧ W'.cell? ⟨w.heap.size + 1, 0, none⟩ = some (.pointer (some ⟨q, 0, none⟩)) ∧ W'.cell? ⟨q, 0, none⟩ = some (.slice (some ⟨g, 0, none⟩) N cx) ∧ W'.cell? ⟨g, j * 2, none⟩ = some (.int .i64 tk) ∧ W'.cell? ⟨g, j * 2 + 1, none⟩ = some (.bool tr) ∧ W'.cell? ⟨w.heap.size, 0, none⟩ = some (.pointer (some ⟨p, 0, none⟩))) W.drew := ⟨n0, v1, x0, c0, c1, v0⟩
      by_cases he : tk = kk ∧ tr = kr
      · obtain ⟨rfl, rfl⟩ := he
        have hneq := run_row_neq tk tk tr tr true (by simp)
        have hnext : pre ++ [⟨tk, tr⟩] <+: l := prefix_nextW hpre (by rw [hj]; exact hu)
        have hlen2 : (pre ++ [(⟨tk, tr⟩ : Wt)]).length = j + 1 := by rw [List.length_append, hj]; try rfl
        have hpl := bplace_any tk (h.below hb).drew (by omega)
        have hpa : placeW l tk = (j : Int) := place_at (x := ⟨tk, tr⟩) hu hn
        rw [hpa] at hpl
        have hSB : ∀ W3, RowKit.Below W.drew.heap.size W.drew W3 → (fun W' => W'.cell? ⟨w.heap.size + 1 + 1 + 1 + 1, 0, none⟩ = some (.int .i64 (j : Int)) ∧ W'.cell? ⟨w.heap.size + 1, 0, none⟩ = some (.pointer (some ⟨q, 0, none⟩)) ∧ W'.cell? ⟨q, 0, none⟩ = some (.slice (some ⟨g, 0, none⟩) N cx) ∧ W'.cell? ⟨g, j * 2, none⟩ = some (.int .i64 tk) ∧ W'.cell? ⟨g, j * 2 + 1, none⟩ = some (.bool tr) ∧ W'.cell? ⟨w.heap.size, 0, none⟩ = some (.pointer (some ⟨p, 0, none⟩))) W3 := fun W3 hb3 => by
          have hb3' : RowKit.Below w.heap.size w W3 := hb.drew.trans (hb3.mono hb.size)
          obtain ⟨y0, y1, y2⟩ := hVw W3 hb3'
          have m0 := (hi.drew.kept (Keep.of_below hb3) (Nat.not_le.2 hi.drew.lt)).cell 0
          have m1 := (hp1.drew.kept (Keep.of_below hb3) (Nat.not_le.2 hp1.drew.lt)).cell 0
          have m2 := (hp0.drew.kept (Keep.of_below hb3) (Nat.not_le.2 hp0.drew.lt)).cell 0
          simp at m0 m1 m2
          exact ⟨m0, m1, y0, y1, y2, m2⟩
        clear hpa hVw
        gi_wp2
        refine wpIn_region_round (S := (fun W' => W'.cell? ⟨w.heap.size + 1 + 1 + 1 + 1, 0, none⟩ = some (.int .i64 (j : Int)) ∧ W'.cell? ⟨w.heap.size + 1, 0, none⟩ = some (.pointer (some ⟨q, 0, none⟩)) ∧ W'.cell? ⟨q, 0, none⟩ = some (.slice (some ⟨g, 0, none⟩) N cx) ∧ W'.cell? ⟨g, j * 2, none⟩ = some (.int .i64 tk) ∧ W'.cell? ⟨g, j * 2 + 1, none⟩ = some (.bool tr) ∧ W'.cell? ⟨w.heap.size, 0, none⟩ = some (.pointer (some ⟨p, 0, none⟩)))) (by kernel_rfl) (by kernel_rfl) (by rintro ⟨a, w, h⟩; exact h) hS8 (fun hHeld => ?_)
        refine wpAnyH_take (i := 0) (oi := ?oi0b) (v := ?v0b) ?hi0b (by kernel_rfl) (by kernel_rfl) (by kernel_rfl) ?hq0b (Or.inl ⟨?hw0b, ?hy0b⟩) (by assumption) ?rest0b
        case hi0b => (simp only [List.getElem?_toArray, List.getElem?_cons_succ, List.getElem?_cons_zero]; rfl)
        case hq0b => exact fun _ _ _ h => h
        case hw0b => rfl
        case hy0b => (intro w hSw; (try dsimp only at hSw); go_simp <;> with_reducible rfl)
        try simp only [Act.put, List.setIfInBounds_toArray, List.set_cons_zero, List.set_cons_succ]
        refine wpAnyH_take (i := 1) (oi := ?oi1b) (v := ?v1b) ?hi1b (by kernel_rfl) (by kernel_rfl) (by kernel_rfl) ?hq1b (Or.inl ⟨?hw1b, ?hy1b⟩) (by assumption) ?rest1b
        case hi1b => (simp only [List.getElem?_toArray, List.getElem?_cons_succ, List.getElem?_cons_zero]; rfl)
        case hq1b => exact fun _ _ _ h => h
        case hw1b => rfl
        case hy1b => (intro w hSw; (try dsimp only at hSw); go_simp <;> with_reducible rfl)
        try simp only [Act.put, List.setIfInBounds_toArray, List.set_cons_zero, List.set_cons_succ]
        refine wpAnyH_take (i := 2) (oi := ?oi2b) (v := ?v2b) ?hi2b (by kernel_rfl) (by kernel_rfl) (by kernel_rfl) ?hq2b (Or.inl ⟨?hw2b, ?hy2b⟩) (by assumption) ?rest2b
        case hi2b => (simp only [List.getElem?_toArray, List.getElem?_cons_succ, List.getElem?_cons_zero]; rfl)
        case hq2b => exact fun _ _ _ h => h
        case hw2b => rfl
        case hy2b => (intro w hSw; (try dsimp only at hSw); go_simp <;> with_reducible rfl)
        try simp only [Act.put, List.setIfInBounds_toArray, List.set_cons_zero, List.set_cons_succ]
        refine wpAnyH_take (i := 3) (oi := ?oi3b) (v := ?v3b) ?hi3b (by kernel_rfl) (by kernel_rfl) (by kernel_rfl) ?hq3b (Or.inl ⟨?hw3b, ?hy3b⟩) (by assumption) ?rest3b
        case hi3b => (simp only [List.getElem?_toArray, List.getElem?_cons_succ, List.getElem?_cons_zero]; rfl)
        case hq3b => exact fun _ _ _ h => h
        case hw3b => rfl
        case hy3b => (intro w hSw; (try dsimp only at hSw); go_simp <;> with_reducible rfl)
        try simp only [Act.put, List.setIfInBounds_toArray, List.set_cons_zero, List.set_cons_succ]
        refine wpAnyH_take (i := 4) (oi := ?oi4b) (v := ?v4b) ?hi4b (by kernel_rfl) (by kernel_rfl) (by kernel_rfl) ?hq4b (Or.inl ⟨?hw4b, ?hy4b⟩) (by assumption) ?rest4b
        case hi4b => (simp only [List.getElem?_toArray, List.getElem?_cons_succ, List.getElem?_cons_zero]; rfl)
        case hq4b => exact fun _ _ _ h => h
        case hw4b => rfl
        case hy4b => (intro w hSw; (try dsimp only at hSw); go_simp <;> with_reducible rfl)
        try simp only [Act.put, List.setIfInBounds_toArray, List.set_cons_zero, List.set_cons_succ]
        refine wpAnyH_take (i := 5) (oi := ?oi5b) (v := ?v5b) ?hi5b (by kernel_rfl) (by kernel_rfl) (by kernel_rfl) ?hq5b (Or.inl ⟨?hw5b, ?hy5b⟩) (by assumption) ?rest5b
        case hi5b => (simp only [List.getElem?_toArray, List.getElem?_cons_succ, List.getElem?_cons_zero]; rfl)
        case hq5b => exact fun _ _ _ h => h
        case hw5b => rfl
        case hy5b => (intro w hSw; (try dsimp only at hSw); go_simp <;> with_reducible rfl)
        try simp only [Act.put, List.setIfInBounds_toArray, List.set_cons_zero, List.set_cons_succ]
        refine wpAnyH_take (i := 6) (oi := ?oi6b) (v := ?v6b) ?hi6b (by kernel_rfl) (by kernel_rfl) (by kernel_rfl) ?hq6b (Or.inl ⟨?hw6b, ?hy6b⟩) (by assumption) ?rest6b
        case hi6b => (simp only [List.getElem?_toArray, List.getElem?_cons_succ, List.getElem?_cons_zero]; rfl)
        case hq6b => exact fun _ _ _ h => h
        case hw6b => rfl
        case hy6b => (intro w hSw; (try dsimp only at hSw); go_simp <;> with_reducible rfl)
        try simp only [Act.put, List.setIfInBounds_toArray, List.set_cons_zero, List.set_cons_succ]
        try simp only [hjz]
        refine wpAnyH_take (i := 7) (oi := ?oi7b) (v := ?v7b) ?hi7b (by kernel_rfl) (by kernel_rfl) (by kernel_rfl) ?hq7b (Or.inl ⟨?hw7b, ?hy7b⟩) (by assumption) ?rest7b
        case hi7b => (simp only [List.getElem?_toArray, List.getElem?_cons_succ, List.getElem?_cons_zero]; rfl)
        case hq7b => exact fun _ _ _ h => h
        case hw7b => rfl
        case hy7b => (intro w hSw; (try dsimp only at hSw); go_simp <;> with_reducible rfl)
        try simp only [Act.put, List.setIfInBounds_toArray, List.set_cons_zero, List.set_cons_succ]
        refine wpAnyH_take (i := 8) (oi := ?oi8b) (v := ?v8b) ?hi8b (by kernel_rfl) (by kernel_rfl) (by kernel_rfl) ?hq8b (Or.inl ⟨?hw8b, ?hy8b⟩) (by assumption) ?rest8b
        case hi8b => (simp only [List.getElem?_toArray, List.getElem?_cons_succ, List.getElem?_cons_zero]; rfl)
        case hq8b => exact fun _ _ _ h => h
        case hw8b => rfl
        case hy8b => (intro w hSw; (try dsimp only at hSw); go_simp <;> with_reducible rfl)
        try simp only [Act.put, List.setIfInBounds_toArray, List.set_cons_zero, List.set_cons_succ]
        refine wpAnyH_take (i := 9) (oi := ?oi9b) (v := ?v9b) ?hi9b (by kernel_rfl) (by kernel_rfl) (by kernel_rfl) ?hq9b (Or.inl ⟨?hw9b, ?hy9b⟩) (by assumption) ?rest9b
        case hi9b => (simp only [List.getElem?_toArray, List.getElem?_cons_succ, List.getElem?_cons_zero]; rfl)
        case hq9b => exact fun _ _ _ h => h
        case hw9b => rfl
        case hy9b => (intro w hSw; (try dsimp only at hSw); go_simp <;> with_reducible rfl)
        try simp only [Act.put, List.setIfInBounds_toArray, List.set_cons_zero, List.set_cons_succ]
        refine wpAnyH_take (i := 10) (oi := ?oi10b) (v := ?v10b) ?hi10b (by kernel_rfl) (by kernel_rfl) (by kernel_rfl) ?hq10b (Or.inl ⟨?hw10b, ?hy10b⟩) (by assumption) ?rest10b
        case hi10b => (simp only [List.getElem?_toArray, List.getElem?_cons_succ, List.getElem?_cons_zero]; rfl)
        case hq10b => exact fun _ _ _ h => h
        case hw10b => rfl
        case hy10b => (intro w hSw; (try dsimp only at hSw); go_simp <;> with_reducible rfl)
        try simp only [Act.put, List.setIfInBounds_toArray, List.set_cons_zero, List.set_cons_succ]
        refine wpAnyH_take (i := 11) (oi := ?oi11b) (v := ?v11b) ?hi11b (by kernel_rfl) (by kernel_rfl) (by kernel_rfl) ?hq11b (Or.inl ⟨?hw11b, ?hy11b⟩) (by assumption) ?rest11b
        case hi11b => (simp only [List.getElem?_toArray, List.getElem?_cons_succ, List.getElem?_cons_zero]; rfl)
        case hq11b => exact fun _ _ _ h => h
        case hw11b => rfl
        case hy11b => (intro w hSw; (try dsimp only at hSw); go_simp <;> with_reducible rfl)
        try simp only [Act.put, List.setIfInBounds_toArray, List.set_cons_zero, List.set_cons_succ]
        refine wpAnyH_take (i := 12) (oi := ?oi12b) (v := ?v12b) ?hi12b (by kernel_rfl) (by kernel_rfl) (by kernel_rfl) ?hq12b (Or.inl ⟨?hw12b, ?hy12b⟩) (by assumption) ?rest12b
        case hi12b => (simp only [List.getElem?_toArray, List.getElem?_cons_succ, List.getElem?_cons_zero]; rfl)
        case hq12b => exact fun _ _ _ h => h
        case hw12b => rfl
        case hy12b => (intro w hSw; (try dsimp only at hSw); go_simp <;> with_reducible rfl)
        try simp only [Act.put, List.setIfInBounds_toArray, List.set_cons_zero, List.set_cons_succ]
        refine wpAnyH_take (i := 13) (oi := ?oi13b) (v := ?v13b) ?hi13b (by kernel_rfl) (by kernel_rfl) (by kernel_rfl) ?hq13b (Or.inl ⟨?hw13b, ?hy13b⟩) (by assumption) ?rest13b
        case hi13b => (simp only [List.getElem?_toArray, List.getElem?_cons_succ, List.getElem?_cons_zero]; rfl)
        case hq13b => exact fun _ _ _ h => h
        case hw13b => rfl
        case hy13b => (intro w hSw; (try dsimp only at hSw); go_simp <;> with_reducible rfl)
        try simp only [Act.put, List.setIfInBounds_toArray, List.set_cons_zero, List.set_cons_succ]
        refine wpAnyH_take (i := 14) (oi := ?oi14b) (v := ?v14b) ?hi14b (by kernel_rfl) (by kernel_rfl) (by kernel_rfl) ?hq14b (Or.inl ⟨?hw14b, ?hy14b⟩) (by assumption) ?rest14b
        case hi14b => (simp only [List.getElem?_toArray, List.getElem?_cons_succ, List.getElem?_cons_zero]; rfl)
        case hq14b => exact fun _ _ _ h => h
        case hw14b => rfl
        case hy14b => (intro w hSw; (try dsimp only at hSw); go_simp <;> with_reducible rfl)
        try simp only [Act.put, List.setIfInBounds_toArray, List.set_cons_zero, List.set_cons_succ]
        refine wpAnyH_take (i := 15) (oi := ?oi15b) (v := ?v15b) ?hi15b (by kernel_rfl) (by kernel_rfl) (by kernel_rfl) ?hq15b (Or.inl ⟨?hw15b, ?hy15b⟩) (by assumption) ?rest15b
        case hi15b => (simp only [List.getElem?_toArray, List.getElem?_cons_succ, List.getElem?_cons_zero]; rfl)
        case hq15b => exact fun _ _ _ h => h
        case hw15b => rfl
        case hy15b => (intro w hSw; (try dsimp only at hSw); go_simp <;> with_reducible rfl)
        try simp only [Act.put, List.setIfInBounds_toArray, List.set_cons_zero, List.set_cons_succ]
        refine wpAnyH_take (i := 16) (oi := ?oi16b) (v := ?v16b) ?hi16b (by kernel_rfl) (by kernel_rfl) (by kernel_rfl) ?hq16b (Or.inl ⟨?hw16b, ?hy16b⟩) (by assumption) ?rest16b
        case hi16b => (simp only [List.getElem?_toArray, List.getElem?_cons_succ, List.getElem?_cons_zero]; rfl)
        case hq16b => exact fun _ _ _ h => h
        case hw16b => rfl
        case hy16b => (intro w hSw; (try dsimp only at hSw); go_simp <;> with_reducible rfl)
        try simp only [Act.put, List.setIfInBounds_toArray, List.set_cons_zero, List.set_cons_succ]
        refine wpAnyH_take (i := 17) (oi := ?oi17b) (v := ?v17b) ?hi17b (by kernel_rfl) (by kernel_rfl) (by kernel_rfl) ?hq17b (Or.inl ⟨?hw17b, ?hy17b⟩) (by assumption) ?rest17b
        case hi17b => (simp only [List.getElem?_toArray, List.getElem?_cons_succ, List.getElem?_cons_zero]; rfl)
        case hq17b => exact fun _ _ _ h => h
        case hw17b => rfl
        case hy17b => (intro w hSw; (try dsimp only at hSw); go_simp <;> with_reducible rfl)
        try simp only [Act.put, List.setIfInBounds_toArray, List.set_cons_zero, List.set_cons_succ]
        refine wpAnyH_take (i := 18) (oi := ?oi18b) (v := ?v18b) ?hi18b (by kernel_rfl) (by kernel_rfl) (by kernel_rfl) ?hq18b (Or.inl ⟨?hw18b, ?hy18b⟩) (by assumption) ?rest18b
        case hi18b => (simp only [List.getElem?_toArray, List.getElem?_cons_succ, List.getElem?_cons_zero]; rfl)
        case hq18b => exact fun _ _ _ h => h
        case hw18b => rfl
        case hy18b => (intro w hSw; (try dsimp only at hSw); go_simp <;> with_reducible rfl)
        try simp only [Act.put, List.setIfInBounds_toArray, List.set_cons_zero, List.set_cons_succ]
        refine wpAnyH_take (i := 19) (oi := ?oi19b) (v := ?v19b) ?hi19b (by kernel_rfl) (by kernel_rfl) (by kernel_rfl) ?hq19b (Or.inl ⟨?hw19b, ?hy19b⟩) (by assumption) ?rest19b
        case hi19b => (simp only [List.getElem?_toArray, List.getElem?_cons_succ, List.getElem?_cons_zero]; rfl)
        case hq19b => exact fun _ _ _ h => h
        case hw19b => rfl
        case hy19b => (intro w hSw; (try dsimp only at hSw); go_simp <;> with_reducible rfl)
        try simp only [Act.put, List.setIfInBounds_toArray, List.set_cons_zero, List.set_cons_succ]
        refine wpAnyH_take (i := 20) (oi := ?oi20b) (v := ?v20b) ?hi20b (by kernel_rfl) (by kernel_rfl) (by kernel_rfl) ?hq20b (Or.inl ⟨?hw20b, ?hy20b⟩) (by assumption) ?rest20b
        case hi20b => (simp only [List.getElem?_toArray, List.getElem?_cons_succ, List.getElem?_cons_zero]; rfl)
        case hq20b => exact fun _ _ _ h => h
        case hw20b => rfl
        case hy20b => (intro w hSw; (try dsimp only at hSw); go_simp <;> with_reducible rfl)
        try simp only [Act.put, List.setIfInBounds_toArray, List.set_cons_zero, List.set_cons_succ]
        refine wpAnyH_take (i := 21) (oi := ?oi21b) (v := ?v21b) ?hi21b (by kernel_rfl) (by kernel_rfl) (by kernel_rfl) ?hq21b (Or.inl ⟨?hw21b, ?hy21b⟩) (by assumption) ?rest21b
        case hi21b => (simp only [List.getElem?_toArray, List.getElem?_cons_succ, List.getElem?_cons_zero]; rfl)
        case hq21b => exact fun _ _ _ h => h
        case hw21b => rfl
        case hy21b => (intro w hSw; (try dsimp only at hSw); go_simp <;> with_reducible rfl)
        try simp only [Act.put, List.setIfInBounds_toArray, List.set_cons_zero, List.set_cons_succ]
        refine wpAnyH_take (i := 22) (oi := ?oi22b) (v := ?v22b) ?hi22b (by kernel_rfl) (by kernel_rfl) (by kernel_rfl) ?hq22b (Or.inl ⟨?hw22b, ?hy22b⟩) (by assumption) ?rest22b
        case hi22b => (simp only [List.getElem?_toArray, List.getElem?_cons_succ, List.getElem?_cons_zero]; rfl)
        case hq22b => exact fun _ _ _ h => h
        case hw22b => rfl
        case hy22b => (intro w hSw; (try dsimp only at hSw); go_simp <;> with_reducible rfl)
        try simp only [Act.put, List.setIfInBounds_toArray, List.set_cons_zero, List.set_cons_succ]
        refine wpAnyH_take (i := 24) (oi := ?oi24b) (v := ?v24b) ?hi24b (by kernel_rfl) (by kernel_rfl) (by kernel_rfl) ?hq24b (Or.inl ⟨?hw24b, ?hy24b⟩) (by assumption) ?rest24b
        case hi24b => (simp only [List.getElem?_toArray, List.getElem?_cons_succ, List.getElem?_cons_zero]; rfl)
        case hq24b => exact fun _ _ _ h => h
        case hw24b => rfl
        case hy24b => (intro w hSw; (try dsimp only at hSw); go_simp <;> with_reducible rfl)
        try simp only [Act.put, List.setIfInBounds_toArray, List.set_cons_zero, List.set_cons_succ]
        refine wpAnyH_ready (rs := [23]) (by kernel_rfl) (by simp) ?_
        refine AllReadyH.cons (o := ?o23b) ?hi23b (fun K hK => ?st23b) AllReadyH.nil
        case hi23b => (simp only [List.getElem?_toArray, List.getElem?_cons_succ, List.getElem?_cons_zero]; rfl)
        go_simp
        refine hpl.mono ?_
        rintro e W3 ⟨rfl, hb3⟩
        have hS3 := hSB W3 hb3
        refine hK.out _ _ hS3 (fun hHeld2 => ?_)
        clear hK K hHeld
        have hHeld := hHeld2
        clear hHeld2
        try simp only [Act.put, List.setIfInBounds_toArray, List.set_cons_zero, List.set_cons_succ]
        refine wpAnyH_take (i := 25) (oi := ?oi25b) (v := ?v25b) ?hi25b (by kernel_rfl) (by kernel_rfl) (by kernel_rfl) ?hq25b (Or.inl ⟨?hw25b, ?hy25b⟩) (by assumption) ?rest25b
        case hi25b => (simp only [List.getElem?_toArray, List.getElem?_cons_succ, List.getElem?_cons_zero]; rfl)
        case hq25b => exact fun _ _ _ h => h
        case hw25b => rfl
        case hy25b => (intro w hSw; (try dsimp only at hSw); go_simp <;> with_reducible rfl)
        try simp only [Act.put, List.setIfInBounds_toArray, List.set_cons_zero, List.set_cons_succ]
        refine wpAnyH_take (i := 26) (oi := ?oi26b) (v := ?v26b) ?hi26b (by kernel_rfl) (by kernel_rfl) (by kernel_rfl) ?hq26b (Or.inl ⟨?hw26b, ?hy26b⟩) (by assumption) ?rest26b
        case hi26b => (simp only [List.getElem?_toArray, List.getElem?_cons_succ, List.getElem?_cons_zero]; rfl)
        case hq26b => exact fun _ _ _ h => h
        case hw26b => rfl
        case hy26b => (intro w hSw; (try dsimp only at hSw); go_simp <;> with_reducible rfl)
        try simp only [Act.put, List.setIfInBounds_toArray, List.set_cons_zero, List.set_cons_succ]
        refine wpAnyH_done (by kernel_rfl) ?_ _
        have hb3' : RowKit.Below w.heap.size w W3 := hb.drew.trans (hb3.mono hb.size)
        have hi3 := hi.drew.kept (Keep.of_below hb3) (Nat.not_le.2 hi.drew.lt)
        have hp03 := hp0.drew.kept (Keep.of_below hb3) (Nat.not_le.2 hp0.drew.lt)
        have hp13 := hp1.drew.kept (Keep.of_below hb3) (Nat.not_le.2 hp1.drew.lt)
        have hr3 := hr1.drew.kept (Keep.of_below hb3) (Nat.not_le.2 hr1.drew.lt)
        have kS : Keep (fun k => k = w.heap.size + 4) W3 (W3.setCell ⟨w.heap.size + 4, 0, none⟩ (.int .i64 ((j : Int) + 1))) := (Keep.refl (fun k => k = w.heap.size + 4) W3).setCell (p := ⟨w.heap.size + 4, 0, none⟩) (fun _ => rfl) _
        have hiS := hi3.set_ 0 (.int .i64 ((j : Int) + 1))
        simp only [List.setIfInBounds_toArray, List.set_cons_zero] at hiS
        have hp0S := hp03.kept kS (by omega)
        have hp1S := hp13.kept kS (by omega)
        have hrS := hr3.kept kS (by omega)
        have hbS := hb3'.setCell (p := ⟨w.heap.size + 4, 0, none⟩) (by dsimp only; omega) (.int .i64 ((j : Int) + 1))
        have hkd : KT W W.drew := ⟨Nat.le_refl _, fun k cs h => h⟩
        have hkt : KT W (W3.setCell ⟨w.heap.size + 4, 0, none⟩ (.int .i64 ((j : Int) + 1))) := hkd.trans ((KT.below (n₀ := 0) hb3).trans (KT.set_box hi3 (by decide) 0 _))
        have hkf : KeepsFrom W5.heap.size W (W3.setCell ⟨w.heap.size + 4, 0, none⟩ (.int .i64 ((j : Int) + 1))) := KeepsFrom.trans (KeepsFrom.ofDrew (Keep.from_below hb3)) ((KeepsOthers.setCell W3 _ _).from _)
        have n3 := hi3.cell 0
        have n3f := hi3.frozen 0
        simp at n3
        clear hS8 hHeld hS3 hSB hpl hn
        gi_wp2
        exact ⟨hkf, hkt, hnext, hp0S, hp1S, hrS, by rw [hlen2]; exact hiS, hbS⟩
      · have hneq := run_row_neq tk kk tr kr false (by
          by_cases h1 : tk = kk
          · have h2 : ¬ tr = kr := fun h2 => he ⟨h1, h2⟩
            simp [h1, h2]
          · simp [h1])
        have hnot : ¬ pre ++ [(⟨kk, kr⟩ : Wt)] <+: l := fun hp => by
          have := prefix_getW hp
          rw [hj, hu] at this
          injection this with this
          injection this with h1 h2
          exact he ⟨h1, h2⟩
        gi_wp2
        refine wpIn_region_round (S := (fun W' => W'.cell? ⟨w.heap.size + 1 + 1 + 1 + 1, 0, none⟩ = some (.int .i64 (j : Int)) ∧ W'.cell? ⟨w.heap.size + 1, 0, none⟩ = some (.pointer (some ⟨q, 0, none⟩)) ∧ W'.cell? ⟨q, 0, none⟩ = some (.slice (some ⟨g, 0, none⟩) N cx) ∧ W'.cell? ⟨g, j * 2, none⟩ = some (.int .i64 tk) ∧ W'.cell? ⟨g, j * 2 + 1, none⟩ = some (.bool tr) ∧ W'.cell? ⟨w.heap.size, 0, none⟩ = some (.pointer (some ⟨p, 0, none⟩)))) (by kernel_rfl) (by kernel_rfl) (by rintro ⟨a, w, h⟩; exact h) hS8 (fun hHeld => ?_)
        refine wpAnyH_take (i := 0) (oi := ?oi0d) (v := ?v0d) ?hi0d (by kernel_rfl) (by kernel_rfl) (by kernel_rfl) ?hq0d (Or.inl ⟨?hw0d, ?hy0d⟩) (by assumption) ?rest0d
        case hi0d => (simp only [List.getElem?_toArray, List.getElem?_cons_succ, List.getElem?_cons_zero]; rfl)
        case hq0d => exact fun _ _ _ h => h
        case hw0d => rfl
        case hy0d => (intro w hSw; (try dsimp only at hSw); go_simp <;> with_reducible rfl)
        try simp only [Act.put, List.setIfInBounds_toArray, List.set_cons_zero, List.set_cons_succ]
        refine wpAnyH_take (i := 1) (oi := ?oi1d) (v := ?v1d) ?hi1d (by kernel_rfl) (by kernel_rfl) (by kernel_rfl) ?hq1d (Or.inl ⟨?hw1d, ?hy1d⟩) (by assumption) ?rest1d
        case hi1d => (simp only [List.getElem?_toArray, List.getElem?_cons_succ, List.getElem?_cons_zero]; rfl)
        case hq1d => exact fun _ _ _ h => h
        case hw1d => rfl
        case hy1d => (intro w hSw; (try dsimp only at hSw); go_simp <;> with_reducible rfl)
        try simp only [Act.put, List.setIfInBounds_toArray, List.set_cons_zero, List.set_cons_succ]
        refine wpAnyH_take (i := 2) (oi := ?oi2d) (v := ?v2d) ?hi2d (by kernel_rfl) (by kernel_rfl) (by kernel_rfl) ?hq2d (Or.inl ⟨?hw2d, ?hy2d⟩) (by assumption) ?rest2d
        case hi2d => (simp only [List.getElem?_toArray, List.getElem?_cons_succ, List.getElem?_cons_zero]; rfl)
        case hq2d => exact fun _ _ _ h => h
        case hw2d => rfl
        case hy2d => (intro w hSw; (try dsimp only at hSw); go_simp <;> with_reducible rfl)
        try simp only [Act.put, List.setIfInBounds_toArray, List.set_cons_zero, List.set_cons_succ]
        refine wpAnyH_take (i := 3) (oi := ?oi3d) (v := ?v3d) ?hi3d (by kernel_rfl) (by kernel_rfl) (by kernel_rfl) ?hq3d (Or.inl ⟨?hw3d, ?hy3d⟩) (by assumption) ?rest3d
        case hi3d => (simp only [List.getElem?_toArray, List.getElem?_cons_succ, List.getElem?_cons_zero]; rfl)
        case hq3d => exact fun _ _ _ h => h
        case hw3d => rfl
        case hy3d => (intro w hSw; (try dsimp only at hSw); go_simp <;> with_reducible rfl)
        try simp only [Act.put, List.setIfInBounds_toArray, List.set_cons_zero, List.set_cons_succ]
        refine wpAnyH_take (i := 4) (oi := ?oi4d) (v := ?v4d) ?hi4d (by kernel_rfl) (by kernel_rfl) (by kernel_rfl) ?hq4d (Or.inl ⟨?hw4d, ?hy4d⟩) (by assumption) ?rest4d
        case hi4d => (simp only [List.getElem?_toArray, List.getElem?_cons_succ, List.getElem?_cons_zero]; rfl)
        case hq4d => exact fun _ _ _ h => h
        case hw4d => rfl
        case hy4d => (intro w hSw; (try dsimp only at hSw); go_simp <;> with_reducible rfl)
        try simp only [Act.put, List.setIfInBounds_toArray, List.set_cons_zero, List.set_cons_succ]
        refine wpAnyH_take (i := 5) (oi := ?oi5d) (v := ?v5d) ?hi5d (by kernel_rfl) (by kernel_rfl) (by kernel_rfl) ?hq5d (Or.inl ⟨?hw5d, ?hy5d⟩) (by assumption) ?rest5d
        case hi5d => (simp only [List.getElem?_toArray, List.getElem?_cons_succ, List.getElem?_cons_zero]; rfl)
        case hq5d => exact fun _ _ _ h => h
        case hw5d => rfl
        case hy5d => (intro w hSw; (try dsimp only at hSw); go_simp <;> with_reducible rfl)
        try simp only [Act.put, List.setIfInBounds_toArray, List.set_cons_zero, List.set_cons_succ]
        refine wpAnyH_take (i := 6) (oi := ?oi6d) (v := ?v6d) ?hi6d (by kernel_rfl) (by kernel_rfl) (by kernel_rfl) ?hq6d (Or.inl ⟨?hw6d, ?hy6d⟩) (by assumption) ?rest6d
        case hi6d => (simp only [List.getElem?_toArray, List.getElem?_cons_succ, List.getElem?_cons_zero]; rfl)
        case hq6d => exact fun _ _ _ h => h
        case hw6d => rfl
        case hy6d => (intro w hSw; (try dsimp only at hSw); go_simp <;> with_reducible rfl)
        try simp only [Act.put, List.setIfInBounds_toArray, List.set_cons_zero, List.set_cons_succ]
        try simp only [hjz]
        refine wpAnyH_take (i := 7) (oi := ?oi7d) (v := ?v7d) ?hi7d (by kernel_rfl) (by kernel_rfl) (by kernel_rfl) ?hq7d (Or.inl ⟨?hw7d, ?hy7d⟩) (by assumption) ?rest7d
        case hi7d => (simp only [List.getElem?_toArray, List.getElem?_cons_succ, List.getElem?_cons_zero]; rfl)
        case hq7d => exact fun _ _ _ h => h
        case hw7d => rfl
        case hy7d => (intro w hSw; (try dsimp only at hSw); go_simp <;> with_reducible rfl)
        try simp only [Act.put, List.setIfInBounds_toArray, List.set_cons_zero, List.set_cons_succ]
        refine wpAnyH_take (i := 8) (oi := ?oi8d) (v := ?v8d) ?hi8d (by kernel_rfl) (by kernel_rfl) (by kernel_rfl) ?hq8d (Or.inl ⟨?hw8d, ?hy8d⟩) (by assumption) ?rest8d
        case hi8d => (simp only [List.getElem?_toArray, List.getElem?_cons_succ, List.getElem?_cons_zero]; rfl)
        case hq8d => exact fun _ _ _ h => h
        case hw8d => rfl
        case hy8d => (intro w hSw; (try dsimp only at hSw); go_simp <;> with_reducible rfl)
        try simp only [Act.put, List.setIfInBounds_toArray, List.set_cons_zero, List.set_cons_succ]
        refine wpAnyH_take (i := 9) (oi := ?oi9d) (v := ?v9d) ?hi9d (by kernel_rfl) (by kernel_rfl) (by kernel_rfl) ?hq9d (Or.inl ⟨?hw9d, ?hy9d⟩) (by assumption) ?rest9d
        case hi9d => (simp only [List.getElem?_toArray, List.getElem?_cons_succ, List.getElem?_cons_zero]; rfl)
        case hq9d => exact fun _ _ _ h => h
        case hw9d => rfl
        case hy9d => (intro w hSw; (try dsimp only at hSw); go_simp <;> with_reducible rfl)
        try simp only [Act.put, List.setIfInBounds_toArray, List.set_cons_zero, List.set_cons_succ]
        refine wpAnyH_take (i := 10) (oi := ?oi10d) (v := ?v10d) ?hi10d (by kernel_rfl) (by kernel_rfl) (by kernel_rfl) ?hq10d (Or.inl ⟨?hw10d, ?hy10d⟩) (by assumption) ?rest10d
        case hi10d => (simp only [List.getElem?_toArray, List.getElem?_cons_succ, List.getElem?_cons_zero]; rfl)
        case hq10d => exact fun _ _ _ h => h
        case hw10d => rfl
        case hy10d => (intro w hSw; (try dsimp only at hSw); go_simp <;> with_reducible rfl)
        try simp only [Act.put, List.setIfInBounds_toArray, List.set_cons_zero, List.set_cons_succ]
        refine wpAnyH_take (i := 11) (oi := ?oi11d) (v := ?v11d) ?hi11d (by kernel_rfl) (by kernel_rfl) (by kernel_rfl) ?hq11d (Or.inl ⟨?hw11d, ?hy11d⟩) (by assumption) ?rest11d
        case hi11d => (simp only [List.getElem?_toArray, List.getElem?_cons_succ, List.getElem?_cons_zero]; rfl)
        case hq11d => exact fun _ _ _ h => h
        case hw11d => rfl
        case hy11d => (intro w hSw; (try dsimp only at hSw); go_simp <;> with_reducible rfl)
        try simp only [Act.put, List.setIfInBounds_toArray, List.set_cons_zero, List.set_cons_succ]
        refine wpAnyH_take (i := 12) (oi := ?oi12d) (v := ?v12d) ?hi12d (by kernel_rfl) (by kernel_rfl) (by kernel_rfl) ?hq12d (Or.inl ⟨?hw12d, ?hy12d⟩) (by assumption) ?rest12d
        case hi12d => (simp only [List.getElem?_toArray, List.getElem?_cons_succ, List.getElem?_cons_zero]; rfl)
        case hq12d => exact fun _ _ _ h => h
        case hw12d => rfl
        case hy12d => (intro w hSw; (try dsimp only at hSw); go_simp <;> with_reducible rfl)
        try simp only [Act.put, List.setIfInBounds_toArray, List.set_cons_zero, List.set_cons_succ]
        refine wpAnyH_take (i := 13) (oi := ?oi13d) (v := ?v13d) ?hi13d (by kernel_rfl) (by kernel_rfl) (by kernel_rfl) ?hq13d (Or.inl ⟨?hw13d, ?hy13d⟩) (by assumption) ?rest13d
        case hi13d => (simp only [List.getElem?_toArray, List.getElem?_cons_succ, List.getElem?_cons_zero]; rfl)
        case hq13d => exact fun _ _ _ h => h
        case hw13d => rfl
        case hy13d => (intro w hSw; (try dsimp only at hSw); go_simp <;> with_reducible rfl)
        try simp only [Act.put, List.setIfInBounds_toArray, List.set_cons_zero, List.set_cons_succ]
        refine wpAnyH_take (i := 14) (oi := ?oi14d) (v := ?v14d) ?hi14d (by kernel_rfl) (by kernel_rfl) (by kernel_rfl) ?hq14d (Or.inl ⟨?hw14d, ?hy14d⟩) (by assumption) ?rest14d
        case hi14d => (simp only [List.getElem?_toArray, List.getElem?_cons_succ, List.getElem?_cons_zero]; rfl)
        case hq14d => exact fun _ _ _ h => h
        case hw14d => rfl
        case hy14d => (intro w hSw; (try dsimp only at hSw); go_simp <;> with_reducible rfl)
        try simp only [Act.put, List.setIfInBounds_toArray, List.set_cons_zero, List.set_cons_succ]
        refine wpAnyH_take (i := 15) (oi := ?oi15d) (v := ?v15d) ?hi15d (by kernel_rfl) (by kernel_rfl) (by kernel_rfl) ?hq15d (Or.inl ⟨?hw15d, ?hy15d⟩) (by assumption) ?rest15d
        case hi15d => (simp only [List.getElem?_toArray, List.getElem?_cons_succ, List.getElem?_cons_zero]; rfl)
        case hq15d => exact fun _ _ _ h => h
        case hw15d => rfl
        case hy15d => (intro w hSw; (try dsimp only at hSw); go_simp <;> with_reducible rfl)
        try simp only [Act.put, List.setIfInBounds_toArray, List.set_cons_zero, List.set_cons_succ]
        refine wpAnyH_take (i := 16) (oi := ?oi16d) (v := ?v16d) ?hi16d (by kernel_rfl) (by kernel_rfl) (by kernel_rfl) ?hq16d (Or.inl ⟨?hw16d, ?hy16d⟩) (by assumption) ?rest16d
        case hi16d => (simp only [List.getElem?_toArray, List.getElem?_cons_succ, List.getElem?_cons_zero]; rfl)
        case hq16d => exact fun _ _ _ h => h
        case hw16d => rfl
        case hy16d => (intro w hSw; (try dsimp only at hSw); go_simp <;> with_reducible rfl)
        try simp only [Act.put, List.setIfInBounds_toArray, List.set_cons_zero, List.set_cons_succ]
        refine wpAnyH_take (i := 17) (oi := ?oi17d) (v := ?v17d) ?hi17d (by kernel_rfl) (by kernel_rfl) (by kernel_rfl) ?hq17d (Or.inl ⟨?hw17d, ?hy17d⟩) (by assumption) ?rest17d
        case hi17d => (simp only [List.getElem?_toArray, List.getElem?_cons_succ, List.getElem?_cons_zero]; rfl)
        case hq17d => exact fun _ _ _ h => h
        case hw17d => rfl
        case hy17d => (intro w hSw; (try dsimp only at hSw); go_simp <;> with_reducible rfl)
        try simp only [Act.put, List.setIfInBounds_toArray, List.set_cons_zero, List.set_cons_succ]
        refine wpAnyH_take (i := 18) (oi := ?oi18d) (v := ?v18d) ?hi18d (by kernel_rfl) (by kernel_rfl) (by kernel_rfl) ?hq18d (Or.inl ⟨?hw18d, ?hy18d⟩) (by assumption) ?rest18d
        case hi18d => (simp only [List.getElem?_toArray, List.getElem?_cons_succ, List.getElem?_cons_zero]; rfl)
        case hq18d => exact fun _ _ _ h => h
        case hw18d => rfl
        case hy18d => (intro w hSw; (try dsimp only at hSw); go_simp <;> with_reducible rfl)
        try simp only [Act.put, List.setIfInBounds_toArray, List.set_cons_zero, List.set_cons_succ]
        refine wpAnyH_take (i := 19) (oi := ?oi19d) (v := ?v19d) ?hi19d (by kernel_rfl) (by kernel_rfl) (by kernel_rfl) ?hq19d (Or.inl ⟨?hw19d, ?hy19d⟩) (by assumption) ?rest19d
        case hi19d => (simp only [List.getElem?_toArray, List.getElem?_cons_succ, List.getElem?_cons_zero]; rfl)
        case hq19d => exact fun _ _ _ h => h
        case hw19d => rfl
        case hy19d => (intro w hSw; (try dsimp only at hSw); go_simp <;> with_reducible rfl)
        try simp only [Act.put, List.setIfInBounds_toArray, List.set_cons_zero, List.set_cons_succ]
        refine wpAnyH_take (i := 20) (oi := ?oi20d) (v := ?v20d) ?hi20d (by kernel_rfl) (by kernel_rfl) (by kernel_rfl) ?hq20d (Or.inl ⟨?hw20d, ?hy20d⟩) (by assumption) ?rest20d
        case hi20d => (simp only [List.getElem?_toArray, List.getElem?_cons_succ, List.getElem?_cons_zero]; rfl)
        case hq20d => exact fun _ _ _ h => h
        case hw20d => rfl
        case hy20d => (intro w hSw; (try dsimp only at hSw); go_simp <;> with_reducible rfl)
        try simp only [Act.put, List.setIfInBounds_toArray, List.set_cons_zero, List.set_cons_succ]
        refine wpAnyH_take (i := 21) (oi := ?oi21d) (v := undef) ?hi21d (by kernel_rfl) (by kernel_rfl) (by kernel_rfl) ?hq21d (Or.inr ⟨?hw21d, rfl⟩) (by assumption) ?rest21d
        case hi21d => (simp only [List.getElem?_toArray, List.getElem?_cons_succ, List.getElem?_cons_zero]; rfl)
        case hq21d => exact fun _ _ _ h => h
        case hw21d => rfl
        try simp only [Act.put, List.setIfInBounds_toArray, List.set_cons_zero, List.set_cons_succ]
        refine wpAnyH_take (i := 22) (oi := ?oi22d) (v := undef) ?hi22d (by kernel_rfl) (by kernel_rfl) (by kernel_rfl) ?hq22d (Or.inr ⟨?hw22d, rfl⟩) (by assumption) ?rest22d
        case hi22d => (simp only [List.getElem?_toArray, List.getElem?_cons_succ, List.getElem?_cons_zero]; rfl)
        case hq22d => exact fun _ _ _ h => h
        case hw22d => rfl
        try simp only [Act.put, List.setIfInBounds_toArray, List.set_cons_zero, List.set_cons_succ]
        refine wpAnyH_take (i := 24) (oi := ?oi24d) (v := undef) ?hi24d (by kernel_rfl) (by kernel_rfl) (by kernel_rfl) ?hq24d (Or.inr ⟨?hw24d, rfl⟩) (by assumption) ?rest24d
        case hi24d => (simp only [List.getElem?_toArray, List.getElem?_cons_succ, List.getElem?_cons_zero]; rfl)
        case hq24d => exact fun _ _ _ h => h
        case hw24d => rfl
        try simp only [Act.put, List.setIfInBounds_toArray, List.set_cons_zero, List.set_cons_succ]
        refine wpAnyH_take (i := 23) (oi := ?oi23d) (v := undef) ?hi23d (by kernel_rfl) (by kernel_rfl) (by kernel_rfl) ?hq23d (Or.inr ⟨?hw23d, rfl⟩) (by assumption) ?rest23d
        case hi23d => (simp only [List.getElem?_toArray, List.getElem?_cons_succ, List.getElem?_cons_zero]; rfl)
        case hq23d => exact fun _ _ _ h => h
        case hw23d => rfl
        try simp only [Act.put, List.setIfInBounds_toArray, List.set_cons_zero, List.set_cons_succ]
        refine wpAnyH_take (i := 25) (oi := ?oi25d) (v := undef) ?hi25d (by kernel_rfl) (by kernel_rfl) (by kernel_rfl) ?hq25d (Or.inr ⟨?hw25d, rfl⟩) (by assumption) ?rest25d
        case hi25d => (simp only [List.getElem?_toArray, List.getElem?_cons_succ, List.getElem?_cons_zero]; rfl)
        case hq25d => exact fun _ _ _ h => h
        case hw25d => rfl
        try simp only [Act.put, List.setIfInBounds_toArray, List.set_cons_zero, List.set_cons_succ]
        refine wpAnyH_take (i := 26) (oi := ?oi26d) (v := ?v26d) ?hi26d (by kernel_rfl) (by kernel_rfl) (by kernel_rfl) ?hq26d (Or.inl ⟨?hw26d, ?hy26d⟩) (by assumption) ?rest26d
        case hi26d => (simp only [List.getElem?_toArray, List.getElem?_cons_succ, List.getElem?_cons_zero]; rfl)
        case hq26d => exact fun _ _ _ h => h
        case hw26d => rfl
        case hy26d => (intro w hSw; (try dsimp only at hSw); go_simp <;> with_reducible rfl)
        try simp only [Act.put, List.setIfInBounds_toArray, List.set_cons_zero, List.set_cons_succ]
        refine wpAnyH_done (by kernel_rfl) ?_ _
        gi_wp2
        exact ⟨KeepsFrom.toDrew ((KeepsOthers.setCell W ⟨w.heap.size + 1 + 1, 0, none⟩ (.bool false)).from _), hnot⟩
  case done =>
    rintro D W hD ⟨hpre, hp0, hp1, hr1, hi, hb⟩ hDf
    rw [hN] at hi
    have hVW := hV.below hb
    obtain ⟨x0, x1⟩ := hVW.fields
    have v1 := hp1.cell 0
    have r0 := hr1.cell 0
    have rf := hr1.frozen 0
    have n0 := hi.cell 0
    simp at v1 r0 n0
    have hrl := hr1.lt
    have hrE := (hr1.set_ 0 (.bool true)).drew
    simp only [List.setIfInBounds_toArray, List.set_cons_zero] at hrE
    clear hVW hp0 hp1 hpre hi hn
    gi_wp2
    refine wpIn_wide.2 (wp_calm ?_)
    go_region
    rw [then_normal]
    have hbE := (hb.setCell (p := ⟨w.heap.size + 1 + 1, 0, none⟩) (by dsimp only; omega) (.bool true)).drew
    have kE : Keep (fun k => k = w.heap.size + 1 + 1) W (W.setCell ⟨w.heap.size + 1 + 1, 0, none⟩ (.bool true)).drew := ((Keep.refl (fun k => k = w.heap.size + 1 + 1) W).setCell (p := ⟨w.heap.size + 1 + 1, 0, none⟩) (fun _ => rfl) _).drew
    have hDE := (kE.block D (Array.getElem?_eq_some_iff.1 hDf).1 (by omega)).trans hDf
    generalize (W.setCell ⟨w.heap.size + 1 + 1, 0, none⟩ (.bool true)).drew = WE at *
    gi_wp2
    have hrD : Blk (WE.putObj D (.deferred none)) (w.heap.size + 1 + 1) 4 #[.bool true] := hrE.rowW (n := 0) (grownBy_putObj' WE D _) (fun r e => by cases e; exact ⟨Nat.zero_le _, _, hDE, rfl⟩)
    have E0 := hrD.cell 0
    simp at E0
    refine ⟨by simp, .inl ⟨_, _, rfl, run_takeDeferred hDE, ?_⟩⟩
    exact ⟨.bool true, by simp [results, Try.results22, go_sem, E0], rfl, bel_putD hbE (by omega) hDE⟩
  case stop =>
    rintro D c pre W hD hpre hno hDf
    exact absurd hpre hno
end Go.Proofs.Ytnkekjaljhpmjaa
