/- Flush done, on a live device: whatever order the map's entries come in. -/
import Derived.Test.YtakgmddmlcngoaaLives3
import Derived.Maps.RangeWalk
import Derived.Laws.CopyRow
namespace Go.Proofs.Ytakgmddmlcngoaa
open Go.RowKit Go.Maps Go.MapKept
set_option linter.unusedVariables false
set_option linter.unusedSimpArgs false

theorem grown_of_keep {w w' : World} {b : Nat} (h : Keep (fun k => k = b) w w') : w.grownBy w' (some b) := ⟨h.os, h.tape, h.output, h.size, fun k hk hn => h.block k hk fun e => hn (by rw [e])⟩
theorem run_storeVar_at {P : Program} (w : World) (g o : Nat) (ty t : TypeId) (vs cur : List Value) (hg : w.heap[g]? = some (.cells cur.toArray t (0, 0))) (hf : o + vs.length ≤ cur.length) (h1 : ∀ v ∈ vs, v.oneCell' = true) (hi : (P.info? ty).map (·.size) = some vs.length) :
    (storeVar ty ⟨g, o, none⟩ (.agg vs.toArray)).run P w = .ok () (w.setRow g (cur.take o ++ (vs ++ cur.drop (o + vs.length))).toArray) := by
  have h := run_storeCells_at (P := P) g o t vs 0 cur.toArray w hg (by simpa using hf) h1
  cases hq : P.info? ty with
  | none => simp [hq] at hi
  | some i =>
    have hs : i.size = vs.length := by simpa [hq] using hi
    simpa [storeVar, sizeOf, typeInfo, hq, Value.cells, hs] using h
theorem wpList_store_at {P : Program} {ops : Array Oper} {rest : List Oper} {o : Oper} {a : Act} {w w' : World} {Q : Exit → Act → World → Prop} (hgd : o.guard = none) (ty : TypeId) (x y : Operand) (ho : o.op = .store ty x y) (ad : Addr) (hx : a.eval x = .pointer (some ad)) (v : Value) (hy : a.eval y = v)
    (hl : (storeVar ty ad v).run P w = .ok () w') (h : wpList P ops Q rest (a.put o.dst undef) w') : wpList P ops Q (o :: rest) a w :=
  wpList_plain hgd fun K hK => by
    unfold Oper.wp execOp
    simp only [ho, hx, hy, Instr.storeAt, Instr.sureAddr, Sem.run_bind, Sem.run_pure, Result.andThen_ok, hl]
    exact hK _ _ h

/-- What is sure, where those that are still to come are as they were. -/
def fs (dm : Nat → Option (List UInt8)) (sure : List (List UInt8)) (left : Lit → Bool) : List (List UInt8) :=
  sure.mapIdx fun k s0 => match dm k with
    | some l => if left (.int .i64 (k : Int)) = true then s0 else l
    | none => s0
/-- What is sure behind a flush. -/
def flushS (dm : Nat → Option (List UInt8)) (sure : List (List UInt8)) : List (List UInt8) := sure.mapIdx fun k s0 => (dm k).getD s0
theorem fs_start (n : Nat) (D : DataW Value) (dm : Nat → Option (List UInt8)) (sure : List (List UInt8)) (h : REP n D dm) : fs dm sure (Maps.has D) = sure := by
  apply List.ext_getElem?
  intro k
  unfold fs
  rw [List.getElem?_mapIdx]
  cases hs : sure[k]? with
  | none => rfl
  | some s0 =>
    cases hk : dm k with
    | none => simp [hk]
    | some l => simp [hk, (h.yes k l hk).2.2.2]
theorem fs_end (dm : Nat → Option (List UInt8)) (sure : List (List UInt8)) (left : Lit → Bool) (h : ∀ kl, left kl = false) : fs dm sure left = flushS dm sure := by
  unfold fs flushS
  congr 1
  funext k s0
  cases dm k with
  | none => rfl
  | some l => simp [h]
theorem fs_step (dm : Nat → Option (List UInt8)) (sure : List (List UInt8)) (left : Lit → Bool) (k : Nat) (l : List UInt8) (hk : dm k = some l) :
    fs dm sure (fun z => left z && !z.sameKey (.int .i64 (k : Int))) = (fs dm sure left).set k l := by
  apply List.ext_getElem?
  intro j
  unfold fs
  rw [List.getElem?_set, List.getElem?_mapIdx, List.getElem?_mapIdx, List.length_mapIdx]
  by_cases e : k = j
  · subst e
    rw [if_pos rfl]
    have hself : (Lit.int .i64 (k : Int)).sameKey (.int .i64 (k : Int)) = true := by simp [Lit.sameKey]
    by_cases hlt : k < sure.length
    · rw [if_pos hlt, List.getElem?_eq_getElem hlt]
      simp [hk, hself]
    · rw [if_neg hlt, List.getElem?_eq_none (by omega)]
      rfl
  · rw [if_neg e]
    have hne : (Lit.int .i64 (j : Int)).sameKey (.int .i64 (k : Int)) = false := sameKey_ne (by intro h; injection h with _ h; omega)
    simp only [hne, Bool.not_false, Bool.and_true]
theorem fs_len (dm : Nat → Option (List UInt8)) (sure : List (List UInt8)) (left : Lit → Bool) : (fs dm sure left).length = sure.length := by simp [fs]
theorem fs_each (n : Nat) (D : DataW Value) (dm : Nat → Option (List UInt8)) (sure : List (List UInt8)) (left : Lit → Bool) (h : REP n D dm) (he : ∀ b ∈ sure, b.length = 64) : ∀ b ∈ fs dm sure left, b.length = 64 := by
  intro b hb
  unfold fs at hb
  obtain ⟨k, hk, rfl⟩ := List.mem_mapIdx.1 hb
  cases hd : dm k with
  | none => simpa [hd] using he _ (List.getElem_mem hk)
  | some l =>
    simp only
    split
    · exact he _ (List.getElem_mem hk)
    · exact (h.yes k l hd).2.1
/-- Which sector has come. -/
theorem came {n : Nat} {D : DataW Value} {dm : Nat → Option (List UInt8)} (h : REP n D dm) (x : Int) (v : Value) (hat : ∀ zd, D.atKey (.int .i64 x) zd = .held v) : ∃ (k : Nat) (l : List UInt8), x = (k : Int) ∧ dm k = some l ∧ k < n ∧ l.length = 64 ∧ v = .agg (l.map bv).toArray := by
  by_cases hno : ∀ k : Nat, x = (k : Int) → dm k = none
  · have hf := h.no x hno
    have h1 := hat (.held .nilFunc)
    have h2 := hat (.held (.bool true))
    rw [atKey_of_not_has hf] at h1 h2
    rw [← h1] at h2
    injection h2 with h2
    cases h2
  · obtain ⟨k, hk⟩ := Classical.not_forall.1 hno
    obtain ⟨rfl, hk⟩ := Classical.not_imp.1 hk
    cases hd : dm k with
    | none => exact absurd (fun _ => hd) hk
    | some l =>
      obtain ⟨h1, h2, h3, h4⟩ := h.yes k l hd
      rw [hat] at h3
      injection h3 with h3
      exact ⟨k, l, rfl, hd, h1, h2, h3⟩

set_option maxRecDepth 100000 in
set_option maxHeartbeats 1600000 in
theorem flush_ok (g n bm gs N : Nat) (lf wt fl s : Int) (sure : List (List UInt8)) (D : DataW Value) (dm : Nat → Option (List UInt8)) (w : World) (hd : DEV w g n bm gs lf wt fl sure D N) (hr : REP n D dm) (hn : n ≤ 16384) (hl : lf ≠ 0) (hs : IntKind.i64.wrap (fl + 1) = s) :
    Calls Try.prog 20 #[.pointer (some ⟨g, 0, none⟩)] w fun e w' => e = .returned (.int .i64 0) ∧ Keep (fun i => i = g ∨ i = bm ∨ i = gs) w w' ∧ DEV w' g n bm gs (spent lf) wt s (flushS dm sure) (.map []) 0 := by
  have h := hd.db
  obtain ⟨h0, h1, h2, h3, h4⟩ := h.cells
  have hl' : (lf == 0) = false := by simpa using hl
  obtain ⟨hlg, hlgs, hlbm⟩ := hd.lt
  have K3 := int_keyed (P := Try.prog) Try.underlying3
  go_enter Try.func20, Try.ntmps20
  go_wp2_with (first | (go_at_call 30; refine (off_any g n n bm (some ⟨gs, 0, none⟩) lf wt fl _ h).mono ?_; rw [hl']; rintro e w' ⟨rfl, rfl⟩) | (at_range; refine wpList_range_own _ rfl _ 79 rfl 3 92 K3 Try.underlying79 bR bm N D rfl hd.mp ?_; intro w0 hrg0 hg0 hs0))
  go_frame
  have hk0 : Keep (fun i => i = g ∨ i = bm ∨ i = gs) w w0 := (Keep.of_grown hg0).mono fun k _ e => by cases e
  have hdb0 := hd.db.kept (Keep.of_grown hg0) (fun e => by cases e)
  have hrow0 := hd.row.kept (Keep.of_grown hg0) (fun e => by cases e)
  go_loopw [3] (fun _ wr => ∃ (left : Lit → Bool) (cnt : Nat), wr.ranges Try.prog 3 bR bm w.heap.size N D left cnt ∧ DB wr g (some ⟨gs, 0, none⟩) n n bm lf wt fl ∧ Blk wr gs 92 ((fs dm sure left).flatten.map bv).toArray ∧ Keep (fun i => i = g ∨ i = bm ∨ i = gs) w wr) (fun _ wr => wr.rangeLeft bm w.heap.size)
  case atStart => exact ⟨_, _, hrg0, hdb0, by rw [fs_start n D dm sure hr]; exact hrow0, hk0⟩
  case round =>
    obtain ⟨left, cnt, hrg, hdb, hrow, hK⟩ := hrel
    clear hrg0 hdb0 hrow0 hk0 hg0 hs0
    go_wp2_with (at_next; refine wpList_next_ranges _ rfl _ rfl 3 K3 bR (Value.int .i64) id (fun key kl hkey => by obtain ⟨x, rfl, _⟩ := Maps.keyOf_int_inv Try.underlying3 hkey; exact ⟨x, rfl⟩) (fun v y hv => ⟨v, rfl⟩) bm w.heap.size N _ _ _ rfl hrg ?_ ?_)
    · intro hc0 hl0
      have hown := hrg.owns
      rw [fs_end dm sure left hl0] at hrow
      have heach := fs_each n D dm sure (fun _ => false) hr hd.each
      rw [fs_end dm sure _ (fun _ => rfl)] at heach
      obtain ⟨j0, j1, j2, j3, j4⟩ := hdb.cells
      obtain ⟨w3, hcl, hk3, hmp3⟩ := run_clear wr bm N D hown 0
      have hdb3 := hdb.kept hk3 hd.gb
      have hrow3 := hrow.kept hk3 (fun e => hd.bg e.symm)
      clear hrg hown h0 h1 h2 h3 h4 hdb
      go_wp2_with (go_at_call 50; refine (spend_fl g n n bm (some ⟨gs, 0, none⟩) lf wt fl s _ hdb3 hs).mono ?_; rintro e w5 ⟨rfl, hk5, hd5⟩)
      go_ret
      have k3 : Keep (fun i => i = g ∨ i = bm ∨ i = gs) w w3 := hK.trans hk3 fun i _ e => .inr (.inl e)
      exact ⟨rfl, k3.trans hk5 fun i _ e => .inl e, ⟨hd5, by simp [flushS, hd.len], heach, hrow3.kept hk5 (fun e => hd.gg e.symm), ownsMap_kept hmp3 hk5 (fun e => hd.gb e.symm), hd.gb, hd.gg, hd.bg⟩⟩
    · intro x v kl yd yp w1 cnt1 hkey hlx hv hat hrg1 hlt hg1 hs1 hen
      obtain ⟨x', ex, rfl, hwx⟩ := Maps.keyOf_int_inv Try.underlying3 hkey
      cases ex
      have hy : yd = .held v := by
        unfold bR at hv
        injection hv with hv
        injection hv with hv _
        exact hv.symm
      subst hy
      obtain ⟨k, l, rfl, hdm, hkn, hll, hve⟩ := came hr x v hat
      have hk1 : Keep (fun i => i = w.heap.size) wr w1 := (Keep.of_grown hg1).mono fun i _ e => by injection e with e; exact e.symm
      have hdb1 := hdb.kept hk1 (by omega)
      have hrow1 := hrow.kept hk1 (by omega)
      have hK1 : Keep (fun i => i = g ∨ i = bm ∨ i = gs) w w1 := hK.trans hk1 fun i hi e => absurd e (by omega)
      have hlen := fs_len dm sure left
      have heach := fs_each n D dm sure left hr hd.each
      have hrlt := hrg1.lt
      have hst0 : (storeCells ⟨w1.heap.size, 0, none⟩ (l.map bv)).run Try.prog (w1.alloc (.cells (List.replicate 64 (Value.int .u8 0)).toArray 92)) = .ok () (w1.alloc (.cells (l.map bv).toArray 92)) :=
        run_storeCells_new (P := Try.prog) w1 92 (List.replicate 64 (Value.int .u8 0)).toArray (l.map bv).toArray (by rw [show (l.map bv).toArray.size = 64 by simp [hll]]; kernel_rfl) (by simp [hll]) (by simp [bv, Value.oneCell'])
      simp only [List.reduceReplicate] at hst0
      subst hve
      try simp only [id] at hen ⊢
      have hwz : w.heap.size < wr.heap.size := hrg.lt
      have hmeas := hrg.left_eq
      have hgB := Blk.new w1 92 (l.map bv).toArray
      have hdb2 := hdb1.kept ((Keep.refl (fun _ => False) w1).alloc (.cells (l.map bv).toArray 92)) id
      have hrow2 := hrow1.alloc (.cells (l.map bv).toArray 92)
      have hrg2 := hrg1.alloc (.cells (l.map bv).toArray 92)
      have hK2 := hK1.alloc (.cells (l.map bv).toArray 92)
      have hkz : (k : Int) < (n : Int) := by omega
      have HS1 := Lib.hid hs1
      clear hrg hs1 h0 h1 h2 h3 h4 hdb hrow hat hv hkey hg1 hk1 hlx hK hdb1 hrow1
      go_wp2_with fail
      clear hst0 hen
      generalize hbl : w1.heap.size = bl at *
      generalize w1.alloc (.cells (l.map bv).toArray 92) = w2 at *
      obtain ⟨j0, j1, j2, j3, j4⟩ := hdb2.cells
      have hld : (loadVar 92 ⟨bl, 0, none⟩).run Try.prog { heap := w2.heap, tape := w2.tape, drawn := w2.drawn + 1, os := w2.os, output := w2.output } = .ok (.agg (l.map bv).toArray) { heap := w2.heap, tape := w2.tape, drawn := w2.drawn + 1, os := w2.os, output := w2.output } :=
        run_loadVar_row _ bl _ 92 _ (0, 0) _ hgB Try.underlying92 rfl (by rw [show (l.map bv).toArray.size = 64 by simp [hll]]; kernel_rfl)
      go_still_tail 7, (by kernel_rfl)
      refine wpStill_step fun K hKK => ?_
      rw [if_pos (by rfl)]
      refine still_load_row (o := ⟨some 26, _, _, _, _, _⟩) 92 (.tmp 4) rfl bl rfl hld ?_
      simp only [Act.put, List.setIfInBounds_toArray, List.set_cons_zero, List.set_cons_succ]
      refine hKK _ ?_
      repeat still_step
      refine wpStill_nil ?_
      change wpList _ _ _ _ _ w2.drew
      clear hld
      have hdb3 := hdb2.kept (Keep.refl (fun _ => False) w2).drew id
      have hrow3 := hrow2.drew
      have hrg3 := hrg2.kept (w' := w2.drew) (row := none) ⟨rfl, rfl, rfl, Nat.le_refl _, fun _ _ _ => rfl⟩ (by simp) (by simp)
      have hK3 := hK2.drew
      clear hdb2 hrow2 hrg2 hK2 hgB j0 j1 j2 j3 j4
      generalize w2.drew = w3 at hdb3 hrow3 hrg3 hK3 ⊢
      have hfl := flat_len (fs dm sure left) heach
      rw [hlen, hd.len] at hfl
      have hks : k < (fs dm sure left).length := by rw [hlen, hd.len]; exact hkn
      have hs0 := heach _ (List.getElem_mem hks)
      have hst := run_storeVar_at (P := Try.prog) w3 gs (k * 64) 92 92 (l.map bv) ((fs dm sure left).flatten.map bv) hrow3 (by rw [List.length_map, List.length_map, hfl, hll]; omega) (by intro v hv; obtain ⟨x, _, rfl⟩ := List.mem_map.1 hv; rfl) (by rw [List.length_map, hll]; kernel_rfl)
      refine wpList_store_at (o := ⟨none, _, _, _, _, _⟩) rfl 92 (.tmp 27) (.tmp 26) rfl ⟨gs, k * 64, none⟩ rfl _ rfl hst ?_
      have hk4 := keep_setRow w3 gs ((((fs dm sure left).flatten.map bv).take (k * 64) ++ (l.map bv ++ ((fs dm sure left).flatten.map bv).drop (k * 64 + (l.map bv).length)))).toArray
      have hrow4 : Blk (w3.setRow gs ((((fs dm sure left).flatten.map bv).take (k * 64) ++ (l.map bv ++ ((fs dm sure left).flatten.map bv).drop (k * 64 + (l.map bv).length)))).toArray) gs 92 ((fs dm sure (fun z => left z && !z.sameKey (.int .i64 (k : Int)))).flatten.map bv).toArray := by
        have hfs := flat_set (fs dm sure left) heach k 64 (fs dm sure left)[k] l (List.getElem?_eq_getElem hks) (Nat.le_refl _) hll
        rw [List.drop_of_length_le (by omega), List.append_nil] at hfs
        rw [fs_step dm sure left k l hdm, hfs]
        unfold Blk
        rw [setRow_heap w3 gs _ _ _ _ hrow3]
        simp [hll]
      generalize w3.setRow gs ((((fs dm sure left).flatten.map bv).take (k * 64) ++ (l.map bv ++ ((fs dm sure left).flatten.map bv).drop (k * 64 + (l.map bv).length)))).toArray = w4 at hk4 hrow4 ⊢
      have hrg4 := hrg3.kept (grown_of_keep hk4) (by intro e; injection e with e; exact hd.bg e) (by intro e; injection e with e; omega)
      go_frame
      go_roundw
      case measure => rw [hrg4.left_eq, hmeas]; exact hlt
      case rel =>
        (repeat apply Exists.intro)
        exact ⟨⟨_, cnt1, hrg4, hdb3.kept hk4 hd.gg, hrow4, hK3.trans hk4 fun i _ e => .inr (.inr e)⟩, rfl⟩
end Go.Proofs.Ytakgmddmlcngoaa
