/- settle: of a dirty sector so many bytes become sure; of another one nothing. -/
import Derived.Test.YtakgmddmlcngoaaRead
namespace Go.Proofs.Ytakgmddmlcngoaa
open Go.RowKit Go.Maps
set_option linter.unusedVariables false
set_option linter.unusedSimpArgs false

theorem keep_setRow (w : World) (g : Nat) (cs : Array Value) : Keep (fun k => k = g) w (w.setRow g cs) :=
  ⟨rfl, rfl, rfl, by simp [World.setRow], fun k hk hn => setRow_other w g k cs hn⟩
theorem wpList_copy_keep {P : Program} {w : World} {ops : Array Oper} {rest : List Oper} {o : Oper} {a : Act} {Q : Exit → Act → World → Prop} (hgd : o.guard = none) (d s : Operand) (dT sT : TypeId)
    (ho : o.op = .call { callee := .builtin .copy, args := #[d, s], argTypes := #[dT, sT] }) (elem : TypeId) (hu : P.underlying dT = some (.slice elem)) (hsz : (P.info? elem).map (·.size) = some 1)
    (dp sp : Option Addr) (dLen dCap sLen sCap : Nat) (hd : a.eval d = .slice dp dLen dCap) (hs : a.eval s = .slice sp sLen sCap)
    (g off : Nat) (cur : List Value) (t : TypeId) (hg : w.heap[g]? = some (.cells cur.toArray t (0, 0))) (cs : List Value) (hn : cs.length = Nat.min sLen dLen)
    (hpos : 0 < cs.length → dp = some ⟨g, off, none⟩ ∧ ∃ ad, sp = some ad ∧ ∀ j v, cs[j]? = some v → w.cell? (ad.add j) = some v)
    (hfit : off + cs.length ≤ cur.length) (h1 : ∀ v ∈ cs, v.oneCell' = true)
    (h : ∀ w', w'.heap[g]? = some (.cells (cur.take off ++ (cs ++ cur.drop (off + cs.length))).toArray t (0, 0)) → Keep (fun k => k = g) w w' → wpList P ops Q rest (a.put o.dst (goInt cs.length)) w') :
    wpList P ops Q (o :: rest) a w := by
  by_cases h0 : cs.length = 0
  · obtain rfl : cs = [] := List.eq_nil_of_length_eq_zero h0
    refine wpList_copy_nothing hgd d s dT sT ho elem hu hsz dp sp dLen dCap sLen sCap hd hs (by simpa using hn.symm) ?_
    exact h w (by simpa using hg) (Keep.refl _ _)
  · obtain ⟨rfl, ad, rfl, hsrc⟩ := hpos (by omega)
    refine wpList_copy_own hgd d s dT sT ho elem hu hsz g off dLen dCap ad sLen sCap hd hs cur.toArray t hg cs hn hsrc (by simpa using hfit) h1 ?_
    exact h _ (by simpa using setRow_heap w g _ _ t _ hg) (keep_setRow _ _ _)

set_option maxRecDepth 100000 in
theorem settle_no (g n bm gs N : Nat) (left wr fl i m : Int) (sure : List (List UInt8)) (D : DataW Value) (w : World) (hd : DEV w g n bm gs left wr fl sure D N) (hwf : (Lit.int .i64 i).wf = true)
    (hat : D.atKey (.int .i64 i) (.held zeroBlock) = .held zeroBlock) (hhas : Maps.has D (.int .i64 i) = false) :
    Calls Try.prog 52 #[.pointer (some ⟨g, 0, none⟩), .int .i64 i, .int .i64 m] w fun e w' => e = .returned (.tuple #[]) ∧ Below w.heap.size w w' := by
  have h := hd.db
  obtain ⟨h0, h1, h2, h3, h4⟩ := h.cells
  have HAT := Lib.hid hat
  clear hat
  go_enter Try.func52, Try.ntmps52
  go_wp2_with (refine wpList_stop (o := ⟨some 14, _, _, _, _, _⟩) ?_)
  refine Stop.out' ?_
  refine wpList_lookup_own_ok (o := ⟨some 14, _, _, _, _, _⟩) w rfl (.tmp 12) (.tmp 13) 79 rfl 3 92 (int_keyed Try.underlying3) Try.underlying79 bR (zero_block w) (.held zeroBlock) [] rfl bm N D rfl hd.mp (.int .i64 i) (.int .i64 i) rfl (keyOf_int_mk Try.underlying3 hwf) ?_
  intro v ps hv
  have hv' := bR_inv hv
  rw [HAT.out] at hv'
  obtain ⟨z, hzl, hz⟩ : ∃ z : List UInt8, z.length = 64 ∧ zeroBlock = .agg (z.map bv).toArray := ⟨zero64, by simp [zero64], by unfold zeroBlock zero64; rw [List.map_replicate]; rfl⟩
  obtain rfl : v = .agg (z.map bv).toArray := by rw [hz] at hv'; injection hv' with e; exact e.symm
  rw [hhas]
  clear hv hv' HAT hz
  have hst0 : (storeCells ⟨w.heap.size, 0, none⟩ (z.map bv)).run Try.prog (w.alloc (.cells (List.replicate 64 (Value.int .u8 0)).toArray 92)) = .ok () (w.alloc (.cells (z.map bv).toArray 92)) :=
    run_storeCells_new (P := Try.prog) w 92 (List.replicate 64 (Value.int .u8 0)).toArray (z.map bv).toArray (by rw [show (z.map bv).toArray.size = 64 by simp [hzl]]; kernel_rfl) (by simp [hzl]) (by simp [bv, Value.oneCell'])
  simp only [List.reduceReplicate] at hst0
  simp only [Act.put, List.setIfInBounds_toArray, List.set_cons_zero, List.set_cons_succ]
  go_wp2
  go_end0
  exact ⟨rfl, (Below.refl w.heap.size w).alloc (Nat.le_refl _) _⟩

theorem flat_len (bs : List (List UInt8)) (h : ∀ b ∈ bs, b.length = 64) : bs.flatten.length = bs.length * 64 := by
  induction bs with
  | nil => rfl
  | cons b bs ih =>
    rw [List.flatten_cons, List.length_append, h b (List.mem_cons_self ..), ih (fun x hx => h x (List.mem_cons_of_mem _ hx)), List.length_cons]
    omega
theorem flat_set (bs : List (List UInt8)) (h : ∀ b ∈ bs, b.length = 64) (k m : Nat) (s0 t : List UInt8) (hk : bs[k]? = some s0) (hm : m ≤ 64) (ht : t.length = m) :
    (bs.set k (t ++ s0.drop m)).flatten = bs.flatten.take (k * 64) ++ (t ++ bs.flatten.drop (k * 64 + m)) := by
  induction bs generalizing k with
  | nil => simp at hk
  | cons b bs ih =>
    have hb := h b (List.mem_cons_self ..)
    cases k with
    | zero =>
      simp at hk
      subst hk
      rw [List.set_cons_zero, List.flatten_cons, List.flatten_cons, Nat.zero_mul, List.take_zero, List.nil_append, Nat.zero_add, List.append_assoc, List.drop_append_of_le_length (by omega)]
    | succ k =>
      rw [List.set_cons_succ, List.flatten_cons, List.flatten_cons, ih (fun x hx => h x (List.mem_cons_of_mem _ hx)) k (by simpa using hk)]
      rw [show (k + 1) * 64 = b.length + k * 64 by omega, List.take_length_add_append, show b.length + k * 64 + m = b.length + (k * 64 + m) by omega, List.drop_length_add_append, List.append_assoc]

set_option maxRecDepth 100000 in
theorem settle_yes (g n bm gs N k m : Nat) (left wr fl : Int) (sure : List (List UInt8)) (D : DataW Value) (l s0 : List UInt8) (w : World) (hd : DEV w g n bm gs left wr fl sure D N) (hn : n ≤ 16384) (hk : k < n) (hm : m ≤ 64) (hll : l.length = 64) (hsk : sure[k]? = some s0)
    (hat : D.atKey (.int .i64 (k : Int)) (.held zeroBlock) = .held (.agg (l.map bv).toArray)) (hhas : Maps.has D (.int .i64 (k : Int)) = true) :
    Calls Try.prog 52 #[.pointer (some ⟨g, 0, none⟩), .int .i64 (k : Int), .int .i64 (m : Int)] w fun e w' => e = .returned (.tuple #[]) ∧ Keep (fun i => i = gs) w w' ∧ DEV w' g n bm gs left wr fl (sure.set k (l.take m ++ s0.drop m)) D N := by
  have h := hd.db
  have hwf : (Lit.int .i64 (k : Int)).wf = true := by
    simp [Lit.wf, IntKind.min, IntKind.max, IntKind.signed, IntKind.bits]
    omega
  obtain ⟨h0, h1, h2, h3, h4⟩ := h.cells
  have hkz : (k : Int) < (n : Int) := by omega
  have hmz : (m : Int) ≤ 64 := by omega
  have HAT := Lib.hid hat
  clear hat
  go_enter Try.func52, Try.ntmps52
  go_wp2_with (refine wpList_stop (o := ⟨some 14, _, _, _, _, _⟩) ?_)
  refine Stop.out' ?_
  refine wpList_lookup_own_ok (o := ⟨some 14, _, _, _, _, _⟩) w rfl (.tmp 12) (.tmp 13) 79 rfl 3 92 (int_keyed Try.underlying3) Try.underlying79 bR (zero_block w) (.held zeroBlock) [] rfl bm N D rfl hd.mp (.int .i64 (k : Int)) (.int .i64 (k : Int)) rfl (keyOf_int_mk Try.underlying3 hwf) ?_
  intro v ps hv
  have hv' := bR_inv hv
  rw [HAT.out] at hv'
  obtain rfl : v = .agg (l.map bv).toArray := by injection hv' with e; exact e.symm
  rw [hhas]
  clear hv hv' HAT
  have hst0 : (storeCells ⟨w.heap.size, 0, none⟩ (l.map bv)).run Try.prog (w.alloc (.cells (List.replicate 64 (Value.int .u8 0)).toArray 92)) = .ok () (w.alloc (.cells (l.map bv).toArray 92)) :=
    run_storeCells_new (P := Try.prog) w 92 (List.replicate 64 (Value.int .u8 0)).toArray (l.map bv).toArray (by rw [show (l.map bv).toArray.size = 64 by simp [hll]]; kernel_rfl) (by simp [hll]) (by simp [bv, Value.oneCell'])
  simp only [List.reduceReplicate] at hst0
  have hd1 := hd.below ((Below.refl w.heap.size w).alloc (Nat.le_refl _) (.cells (l.map bv).toArray 92))
  have hk1 := (Keep.refl (fun i => i = gs) w).alloc (.cells (l.map bv).toArray 92)
  have hB1 := Blk.new w 92 (l.map bv).toArray
  simp only [Act.put, List.setIfInBounds_toArray, List.set_cons_zero, List.set_cons_succ]
  go_wp2_with fail
  generalize w.alloc (.cells (l.map bv).toArray 92) = w1 at hd1 hk1 hB1 ⊢
  obtain ⟨j0, j1, j2, j3, j4⟩ := hd1.db.cells
  go_still_tail 9, (by kernel_rfl)
  change wpList _ _ _ _ _ w1.drew
  have hd2 := hd1.kept (Keep.refl (fun _ => False) w1).drew id id id
  have hk2 := hk1.drew
  have hB2 := hB1.drew
  clear hd1 hk1 hB1 hst0 j0 j1 j2 j3 j4
  generalize w1.drew = w2 at hd2 hk2 hB2 ⊢
  have hfl := flat_len sure hd.each
  rw [hd.len] at hfl
  refine wpList_copy_keep (o := ⟨some 27, _, _, _, _, _⟩) rfl (.tmp 25) (.tmp 26) 32 32 rfl 5 Try.underlying32 (by kernel_rfl) (some ⟨gs, k * 64, none⟩) (some ⟨w.heap.size, 0, none⟩) m 64 64 64 rfl rfl gs (k * 64) (sure.flatten.map bv) 92 hd2.row ((l.take m).map bv) (by rw [List.length_map, List.length_take, hll]; exact Nat.min_comm m 64) (fun _ => ⟨rfl, _, rfl, fun j v hv => ?_⟩) (by rw [List.length_map, List.length_map, List.length_take, hll, hfl, Nat.min_eq_left hm]; omega) (by intro v hv; obtain ⟨x, _, rfl⟩ := List.mem_map.1 hv; rfl) ?_
  · rw [Addr.add_lit, Nat.zero_add]
    rw [List.getElem?_map] at hv
    cases hx : (l.take m)[j]? with
    | none => rw [hx] at hv; cases hv
    | some x =>
      rw [hx] at hv
      cases hv
      have hj : j < m := by
        have := (List.getElem?_eq_some_iff.1 hx).1
        simp at this
        omega
      rw [List.getElem?_take_of_lt hj] at hx
      rw [hB2.cell, List.getElem?_toArray, List.getElem?_map, hx]
      rfl
  · intro w4 hrow4 hk4
    have hflat := flat_set sure hd.each k m s0 (l.take m) hsk hm (by simp [hll]; omega)
    have hrow : Blk w4 gs 92 ((sure.set k (l.take m ++ s0.drop m)).flatten.map bv).toArray := by
      rw [hflat]
      unfold Blk
      rw [hrow4]
      simp [hll, Nat.min_eq_left hm]
    have hs0 := hd.each s0 (List.mem_of_getElem? hsk)
    go_wp2
    go_end0
    refine ⟨rfl, hk2.trans hk4 fun i hi e => e, ⟨hd2.db.kept hk4 hd.gg, by simp [hd.len], fun b hb => ?_, hrow, ownsMap_kept hd2.mp hk4 hd.bg, hd.gb, hd.gg, hd.bg⟩⟩
    rcases List.mem_or_eq_of_mem_set hb with hb | rfl
    · exact hd.each b hb
    · simp [hll, hs0]
      omega
end Go.Proofs.Ytakgmddmlcngoaa
