/- Read done, on a live device: what was written last, or else what is sure. -/
import Derived.Test.YtakgmddmlcngoaaWrite
import Derived.Deep.WholeRow
namespace Go.Proofs.Ytakgmddmlcngoaa
open Go.RowKit Go.Maps
set_option linter.unusedVariables false
set_option linter.unusedSimpArgs false

def zeroBlock : Value := .agg (List.replicate 64 (Value.int .u8 0)).toArray
theorem zero_block (w : World) : (zeroValue 92).run Try.prog w = .ok zeroBlock w := by
  obtain ⟨i, hi, hz, hs, hb1⟩ := info_parts block_info
  rw [zeroBlock, List.toArray_replicate]
  simp only [zeroValue, typeInfo, Sem.run_bind]
  simp [hi, hz]

set_option maxRecDepth 100000 in
theorem read_dirty (g n bm gs N : Nat) (left wr fl i : Int) (sure : List (List UInt8)) (D : DataW Value) (l : List UInt8) (w : World) (hd : DEV w g n bm gs left wr fl sure D N) (hn : n ≤ 16384) (hi : inRange n i = true) (hl : left ≠ 0) (hll : l.length = 64)
    (hat : D.atKey (.int .i64 i) (.held zeroBlock) = .held (.agg (l.map bv).toArray)) (hhas : Maps.has D (.int .i64 i) = true) :
    Calls Try.prog 26 #[.pointer (some ⟨g, 0, none⟩), .int .i64 i] w fun e w' => ∃ b, e = .returned (.tuple #[.slice (some ⟨b, 0, none⟩) 64 64, .int .i64 0]) ∧ w.heap.size ≤ b ∧ Below w.heap.size w w' ∧ RB w' (some ⟨b, 0, none⟩) 64 l := by
  have h := hd.db
  have hwf : (Lit.int .i64 i).wf = true := by
    simp [inRange] at hi
    simp [Lit.wf, IntKind.min, IntKind.max, IntKind.signed, IntKind.bits]
    omega
  obtain ⟨h0, h1, h2, h3, h4⟩ := h.cells
  have hi' : (decide (0 ≤ i) && decide (i < (n : Int))) = true := hi
  have hl' : (left == 0) = false := by simpa using hl
  have HAT := Lib.hid hat
  clear hat
  go_enter Try.func26, Try.ntmps26
  go_wp2_with (first | (go_at_call 49; refine (has_any g n n bm (some ⟨gs, 0, none⟩) left wr fl i _ h).mono ?_; rw [hi']; rintro e w' ⟨rfl, rfl⟩) | (go_at_call 30; refine (off_any g n n bm (some ⟨gs, 0, none⟩) left wr fl _ h).mono ?_; rw [hl']; rintro e w' ⟨rfl, rfl⟩) | (refine wpList_stop (o := ⟨some 25, _, _, _, _, _⟩) ?_))
  refine Stop.out' ?_
  refine wpList_lookup_own_ok (o := ⟨some 25, _, _, _, _, _⟩) w rfl (.tmp 23) (.tmp 24) 79 rfl 3 92 (int_keyed Try.underlying3) Try.underlying79 bR (zero_block w) (.held zeroBlock) [] rfl bm N D rfl hd.mp (.int .i64 i) (.int .i64 i) rfl (keyOf_int_mk Try.underlying3 hwf) ?_
  intro v ps hv
  have hv' := bR_inv hv
  rw [HAT.out] at hv'
  obtain rfl : v = .agg (l.map bv).toArray := by injection hv' with e; exact e.symm
  rw [hhas]
  clear hv hv'
  have hst0 : (storeCells ⟨w.heap.size, 0, none⟩ (l.map bv)).run Try.prog (w.alloc (.cells (List.replicate 64 (Value.int .u8 0)).toArray 92)) = .ok () (w.alloc (.cells (l.map bv).toArray 92)) :=
    run_storeCells_new (P := Try.prog) w 92 (List.replicate 64 (Value.int .u8 0)).toArray (l.map bv).toArray (by rw [show (l.map bv).toArray.size = 64 by simp [hll]]; kernel_rfl) (by simp [hll]) (by simp [bv, Value.oneCell'])
  simp only [List.reduceReplicate] at hst0
  simp only [Act.put, List.setIfInBounds_toArray, List.set_cons_zero, List.set_cons_succ]
  go_wp2_with fail
  go_ret2
  have hB := Blk.new w 92 (l.map bv).toArray
  refine ⟨w.heap.size, rfl, Nat.le_refl _, (Below.refl w.heap.size w).alloc (Nat.le_refl _) _, ⟨hll, fun _ => ⟨w.heap.size, 0, rfl, fun j x hx => ?_⟩⟩⟩
  rw [hB.cell]
  simp [hx]

theorem run_loadVar_at {P : Program} (w : World) (ad : Addr) (ty : TypeId) (vs : List Value) (d : TypeDesc) (hu : P.underlying ty = some d) (hd : (match d with | .struct _ | .array _ _ => true | _ => false) = true) (hi : (P.info? ty).map (·.size) = some vs.length)
    (hl : (loadCells ad vs.length).run P w = .ok vs.toArray w) : (loadVar ty ad).run P w = .ok (.agg vs.toArray) w := by
  cases hq : P.info? ty with
  | none => simp [hq] at hi
  | some i =>
    have hs : i.size = vs.length := by simpa [hq] using hi
    have hagg : (isAgg ty).run P w = .ok true w := by
      unfold isAgg
      rw [Sem.run_bind, run_underlying hu w]
      cases d <;> simp_all
    simp [loadVar, Sem.run_bind, hagg, sizeOf, typeInfo, hq, hs, hl]
theorem wpList_load_at {P : Program} {ops : Array Oper} {rest : List Oper} {o : Oper} {a : Act} {w : World} {Q : Exit → Act → World → Prop} (hgd : o.guard = none) (ty : TypeId) (x : Operand) (ho : o.op = .load ty x) (ad : Addr) (hx : a.eval x = .pointer (some ad)) (v : Value)
    (hl : (loadVar ty ad).run P w = .ok v w) (h : wpList P ops Q rest (a.put o.dst v) w) : wpList P ops Q (o :: rest) a w :=
  wpList_plain hgd fun K hK => by
    unfold Oper.wp execOp
    simp only [ho, hx, Instr.loadAt, Instr.sureAddr, Sem.run_bind, Sem.run_pure, Result.andThen_ok, hl]
    exact hK _ _ h
theorem flat64 (bs : List (List UInt8)) (h : ∀ b ∈ bs, b.length = 64) (k j : Nat) (l : List UInt8) (hk : bs[k]? = some l) (hj : j < 64) : bs.flatten[k * 64 + j]? = l[j]? := by
  induction bs generalizing k with
  | nil => simp at hk
  | cons b bs ih =>
    have hb := h b (List.mem_cons_self ..)
    rw [List.flatten_cons]
    cases k with
    | zero =>
      simp at hk
      subst hk
      rw [Nat.zero_mul, Nat.zero_add, List.getElem?_append_left (by omega)]
    | succ k =>
      rw [List.getElem?_append_right (by omega), hb, show (k + 1) * 64 + j - 64 = k * 64 + j by omega]
      exact ih (fun x hx => h x (List.mem_cons_of_mem _ hx)) k (by simpa using hk)
theorem DEV.sector {w : World} {g n bm gs N : Nat} {left wr fl : Int} {sure : List (List UInt8)} {D : DataW Value} (h : DEV w g n bm gs left wr fl sure D N) (k j : Nat) (l : List UInt8) (hk : sure[k]? = some l) (x : UInt8) (hx : l[j]? = some x) : w.cell? ⟨gs, k * 64 + j, none⟩ = some (bv x) := by
  have hl := h.each l (List.mem_of_getElem? hk)
  have hj : j < 64 := by
    have := (List.getElem?_eq_some_iff.1 hx).1
    omega
  have hf := flat64 sure h.each k j l hk hj
  rw [h.row.cell, List.getElem?_toArray, List.getElem?_map, hf, hx]
  rfl

set_option maxRecDepth 100000 in
theorem read_sure (g n bm gs N k : Nat) (left wr fl : Int) (sure : List (List UInt8)) (D : DataW Value) (l : List UInt8) (w : World) (hd : DEV w g n bm gs left wr fl sure D N) (hn : n ≤ 16384) (hk : k < n) (hl : left ≠ 0) (hsk : sure[k]? = some l)
    (hat : D.atKey (.int .i64 (k : Int)) (.held zeroBlock) = .held zeroBlock) (hhas : Maps.has D (.int .i64 (k : Int)) = false) :
    Calls Try.prog 26 #[.pointer (some ⟨g, 0, none⟩), .int .i64 (k : Int)] w fun e w' => ∃ b, e = .returned (.tuple #[.slice (some ⟨b, 0, none⟩) 64 64, .int .i64 0]) ∧ w.heap.size ≤ b ∧ Below w.heap.size w w' ∧ RB w' (some ⟨b, 0, none⟩) 64 l := by
  have h := hd.db
  have hll := hd.each l (List.mem_of_getElem? hsk)
  have hgl := hd.lt
  have hwf : (Lit.int .i64 (k : Int)).wf = true := by
    simp [Lit.wf, IntKind.min, IntKind.max, IntKind.signed, IntKind.bits]
    omega
  obtain ⟨h0, h1, h2, h3, h4⟩ := h.cells
  have hi' : (decide (0 ≤ (k : Int)) && decide ((k : Int) < (n : Int))) = true := by simp; omega
  have hkz : (k : Int) < (n : Int) := by omega
  have hl' : (left == 0) = false := by simpa using hl
  have HAT := Lib.hid hat
  clear hat
  go_enter Try.func26, Try.ntmps26
  go_wp2_with (first | (go_at_call 49; refine (has_any g n n bm (some ⟨gs, 0, none⟩) left wr fl _ _ h).mono ?_; rw [hi']; rintro e w' ⟨rfl, rfl⟩) | (go_at_call 30; refine (off_any g n n bm (some ⟨gs, 0, none⟩) left wr fl _ h).mono ?_; rw [hl']; rintro e w' ⟨rfl, rfl⟩) | (refine wpList_stop (o := ⟨some 25, _, _, _, _, _⟩) ?_))
  refine Stop.out' ?_
  refine wpList_lookup_own_ok (o := ⟨some 25, _, _, _, _, _⟩) w rfl (.tmp 23) (.tmp 24) 79 rfl 3 92 (int_keyed Try.underlying3) Try.underlying79 bR (zero_block w) (.held zeroBlock) [] rfl bm N D rfl hd.mp (.int .i64 (k : Int)) (.int .i64 (k : Int)) rfl (keyOf_int_mk Try.underlying3 hwf) ?_
  intro v ps hv
  have hv' := bR_inv hv
  rw [HAT.out] at hv'
  obtain ⟨z, hzl, hz⟩ : ∃ z : List UInt8, z.length = 64 ∧ zeroBlock = .agg (z.map bv).toArray := ⟨zero64, by simp [zero64], by unfold zeroBlock zero64; rw [List.map_replicate]; rfl⟩
  obtain rfl : v = .agg (z.map bv).toArray := by rw [hz] at hv'; injection hv' with e; exact e.symm
  rw [hhas]
  clear hv hv' HAT hz
  have hst0 : (storeCells ⟨w.heap.size, 0, none⟩ (z.map bv)).run Try.prog (w.alloc (.cells (List.replicate 64 (Value.int .u8 0)).toArray 92)) = .ok () (w.alloc (.cells (z.map bv).toArray 92)) :=
    run_storeCells_new (P := Try.prog) w 92 (List.replicate 64 (Value.int .u8 0)).toArray (z.map bv).toArray (by rw [show (z.map bv).toArray.size = 64 by simp [hzl]]; kernel_rfl) (by simp [hzl]) (by simp [bv, Value.oneCell'])
  simp only [List.reduceReplicate] at hst0
  have hst1 : (storeCells ⟨w.heap.size, 0, none⟩ (l.map bv)).run Try.prog (w.alloc (.cells (z.map bv).toArray 92)) = .ok () (w.alloc (.cells (l.map bv).toArray 92)) :=
    run_storeCells_new (P := Try.prog) w 92 (z.map bv).toArray (l.map bv).toArray (by rw [show (l.map bv).toArray.size = 64 by simp [hll]]; kernel_rfl) (by simp [hll, hzl]) (by simp [bv, Value.oneCell'])
  have hd1 := hd.below ((Below.refl w.heap.size w).alloc (Nat.le_refl _) (.cells (z.map bv).toArray 92))
  have hlc : (loadCells ⟨gs, k * 64, none⟩ (l.map bv).length).run Try.prog (w.alloc (.cells (z.map bv).toArray 92)) = .ok (l.map bv).toArray (w.alloc (.cells (z.map bv).toArray 92)) :=
    run_loadCells_list (P := Try.prog) _ ⟨gs, k * 64, none⟩ (l.map bv) (fun j v hv => by
      rw [Addr.add_lit]
      rw [List.getElem?_map] at hv
      cases hx : l[j]? with
      | none => rw [hx] at hv; cases hv
      | some x => rw [hx] at hv; cases hv; exact hd1.sector k j l hsk x hx)
  have hld := run_loadVar_at _ ⟨gs, k * 64, none⟩ 92 (l.map bv) _ Try.underlying92 rfl (by rw [show (l.map bv).length = 64 by simp [hll]]; kernel_rfl) hlc
  clear hlc
  simp only [Act.put, List.setIfInBounds_toArray, List.set_cons_zero, List.set_cons_succ]
  go_wp2_with (refine wpList_stop (o := ⟨some 36, _, _, _, _, _⟩) ?_)
  refine Stop.out' ?_
  refine wpList_load_at (o := ⟨some 36, _, _, _, _, _⟩) rfl 92 (.tmp 35) rfl ⟨gs, k * 64, none⟩ rfl _ hld ?_
  simp only [Act.put, List.setIfInBounds_toArray, List.set_cons_zero, List.set_cons_succ]
  clear hld
  go_wp2_with fail
  go_ret2
  have hB := Blk.new w 92 (l.map bv).toArray
  refine ⟨w.heap.size, rfl, Nat.le_refl _, (Below.refl w.heap.size w).alloc (Nat.le_refl _) _, ⟨hll, fun _ => ⟨w.heap.size, 0, rfl, fun j x hx => ?_⟩⟩⟩
  rw [hB.cell]
  simp [hx]
end Go.Proofs.Ytakgmddmlcngoaa
