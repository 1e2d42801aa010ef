/- Write done, on a live device. No condition but the bounds of what is counted. -/
import Derived.Test.YtakgmddmlcngoaaKeep
import Derived.Laws.CopyOwn
import Derived.Laws.Rows
import Derived.StillTailTactics
namespace Go.Proofs.Ytakgmddmlcngoaa
open Go.RowKit Go.Maps
set_option linter.unusedVariables false
set_option linter.unusedSimpArgs false

theorem still_load_row {P : Program} {o : Oper} {a : Act} {w : World} {K : Act → Prop} (ty : TypeId) (x : Operand) (ho : o.op = .load ty x) (g : Nat) (hx : a.eval x = .pointer (some ⟨g, 0, none⟩)) {v : Value}
    (hl : (loadVar ty ⟨g, 0, none⟩).run P w = .ok v w) (h : K (a.put o.dst v)) : o.still P a w K := by
  unfold Oper.still execOp
  simp only [ho, hx, Instr.loadAt, Instr.sureAddr, Sem.run_bind, Sem.run_pure, Result.andThen_ok, hl]
  rw [Oper.stillUpon_value]
  exact h

structure Stop (p : Prop) : Prop where
  out : p
theorem Stop.out' {p : Prop} (h : p) : Stop p := ⟨h⟩
/-- Stand still at this operation. -/
theorem wpList_stop {P : Program} {w : World} {ops : Array Oper} {rest : List Oper} {o : Oper} {a : Act} {Q : Exit → Act → World → Prop} (h : Stop (wpList P ops Q (o :: rest) a w)) : wpList P ops Q (o :: rest) a w := h.out

set_option maxRecDepth 100000 in
theorem write_ok (g n bm gs N : Nat) (B : Addr) (lc : Nat) (left wr fl i s : Int) (sure : List (List UInt8)) (D : DataW Value) (l : List UInt8) (w : World) (hd : DEV w g n bm gs left wr fl sure D N) (hn : n ≤ 16384) (hi : inRange n i = true) (hl : left ≠ 0) (hb : RB w (some B) 64 l) (hN : N < maxLen) (hs : IntKind.i64.wrap (wr + 1) = s) :
    Calls Try.prog 17 #[.pointer (some ⟨g, 0, none⟩), .int .i64 i, .slice (some B) 64 lc] w fun e w' => e = .returned (.int .i64 0) ∧ Keep (fun k => k = g ∨ k = bm) w w' ∧ DEV w' g n bm gs (spent left) s fl sure (D.put (.int .i64 i) (.held (.agg (l.map bv).toArray))) (N + 1) := by
  have h := hd.db
  have hwf : (Lit.int .i64 i).wf = true := by
    simp [inRange] at hi
    simp [Lit.wf, IntKind.min, IntKind.max, IntKind.signed, IntKind.bits]
    omega
  obtain ⟨h0, h1, h2, h3, h4⟩ := h.cells
  have hi' : (decide (0 ≤ i) && decide (i < (n : Int))) = true := hi
  have hl' : (left == 0) = false := by simpa using hl
  have hsrc : ∀ j v, (l.map bv)[j]? = some v → w.cell? (B.add j) = some v := by
    intro j v hv
    obtain ⟨b, off, e, hc⟩ := hb.2 (by omega)
    cases e
    rw [List.getElem?_map] at hv
    cases hx : l[j]? with
    | none => rw [hx] at hv; cases hv
    | some x => rw [hx] at hv; cases hv; rw [Addr.add_lit]; exact hc j x hx
  have hlen : (l.map bv).length = Nat.min 64 64 := by simp [hb.1]
  have hone : ∀ v ∈ l.map bv, v.oneCell' = true := by intro v hv; obtain ⟨x, _, rfl⟩ := List.mem_map.1 hv; rfl
  have hsrc1 : ∀ j v, (l.map bv)[j]? = some v → (w.alloc (.cells (List.replicate 64 (Value.int .u8 0)).toArray 92 (0, 0))).cell? (B.add j) = some v := fun j v hv => ((Keep.refl (fun _ => False) w).alloc _).cell (hsrc j v hv) id
  go_enter Try.func17, Try.ntmps17
  go_wp2_with (first | (go_at_call 49; refine (has_any g n n bm (some ⟨gs, 0, none⟩) left wr fl i _ h).mono ?_; rw [hi']; rintro e w' ⟨rfl, rfl⟩) | (go_at_call 30; refine (off_any g n n bm (some ⟨gs, 0, none⟩) left wr fl _ h).mono ?_; rw [hl']; rintro e w' ⟨rfl, rfl⟩) | (refine wpList_stop (o := ⟨some 26, _, _, _, _, _⟩) ?_))
  refine Stop.out' ?_
  change wpList _ _ _ _ _ (w.alloc (.cells (List.replicate 64 (Value.int .u8 0)).toArray 92))
  generalize hW : w.alloc (.cells (List.replicate 64 (Value.int .u8 0)).toArray 92) = w1
  rw [hW] at hsrc1
  have hg1 : w1.heap[w.heap.size]? = some (.cells (List.replicate 64 (Value.int .u8 0)).toArray 92 (0, 0)) := by rw [← hW]; exact heap_alloc_new _ _
  have hb1 : Below w.heap.size w w1 := by rw [← hW]; exact (Below.refl _ _).alloc (Nat.le_refl _) _
  have step := fun ops rest o a Q => @wpList_copy_splice Try.prog w1 ops rest o a Q
  refine step _ _ ⟨some 26, _, _, _, _, _⟩ _ _ ?c0 (.tmp 24) (.tmp 25) 32 32 ?c1 5 ?c2 ?c3 (some ⟨w.heap.size, 0, none⟩) (some B) 64 64 64 lc ?c4 ?c5 w.heap.size 0 (List.replicate 64 (Value.int .u8 0)) 92 hg1 (l.map bv) hlen ?c6 ?c7 hone w.heap.size w hb1 (Nat.le_refl _) ?c8
  case c0 => rfl
  case c1 => rfl
  case c2 => exact Try.underlying32
  case c3 => kernel_rfl
  case c4 => rfl
  case c5 => rfl
  case c6 => exact fun _ => ⟨rfl, B, rfl, hsrc1⟩
  case c7 => simp [hb.1]
  intro w2 hh2 hb2
  have hcs : (splice (List.replicate 64 (Value.int .u8 0)) 0 (l.map bv)) = l.map bv := by simp [splice, hb.1]
  have hB2 : w2.heap[w.heap.size]? = some (.cells (l.map bv).toArray 92 (0, 0)) := by rw [← hcs]; exact hh2
  clear hh2 hcs hsrc1 hg1 hb1 hW step
  have hgw : g < w.heap.size := World.block_lt_of_cell? w _ h0
  have hd2 : DB w2 g (some ⟨gs, 0, none⟩) n n bm left wr fl := h.kept (Keep.of_below hb2) (by omega)
  obtain ⟨j0, j1, j2, j3, j4⟩ := hd2.cells
  have hl64 : (l.map bv).toArray.size = 64 := by simp [hb.1]
  have hldr : ∀ W : World, W.heap[w.heap.size]? = some (.cells (l.map bv).toArray 92 (0, 0)) → (loadVar 92 ⟨w.heap.size, 0, none⟩).run Try.prog W = .ok (.agg (l.map bv).toArray) W := fun W hW =>
    run_loadVar_row W w.heap.size _ 92 _ (0, 0) _ hW Try.underlying92 rfl (by rw [hl64]; kernel_rfl)
  have hld0 := hldr w2 hB2
  have hld1 := hldr w2.drew hB2
  have hld2 := fun q => hldr (w2.drewN q) hB2
  have hld3 := hldr { heap := w2.heap, tape := w2.tape, drawn := w2.drawn + 1, os := w2.os, output := w2.output } hB2
  simp only [Act.put, List.setIfInBounds_toArray, List.set_cons_zero, List.set_cons_succ]
  go_wp2_with fail
  go_still_tail 6, (by kernel_rfl)
  refine wpStill_step fun K hK => ?_
  rw [if_pos (by rfl)]
  refine still_load_row (o := ⟨some 32, _, _, _, _, _⟩) 92 (.tmp 7) rfl w.heap.size rfl hld3 ?_
  simp only [Act.put, List.setIfInBounds_toArray, List.set_cons_zero, List.set_cons_succ]
  refine hK _ (wpStill_nil ?_)
  change wpList _ _ _ _ _ w2.drew
  have hdv : DEV w2.drew g n bm gs left wr fl sure D N := (hd.below hb2).kept (Keep.refl (fun _ => False) w2).drew id id id
  have hbd : Below w.heap.size w w2.drew := Below.drew hb2
  clear hld0 hld1 hld2 hld3 hldr hB2 j0 j1 j2 j3 j4 hd2
  generalize w2.drew = w3 at hdv hbd ⊢
  refine wpList_mapUpdate_own (o := ⟨none, _, _, _, _, _⟩) w3 rfl (.tmp 30) (.tmp 31) (.tmp 32) 79 rfl 3 92 (int_keyed Try.underlying3) Try.underlying79 bR bm N D rfl hdv.mp hN (.int .i64 i) (.agg (l.map bv).toArray) (.int .i64 i) rfl rfl (keyOf_int_mk Try.underlying3 hwf) _ [] rfl ?_
  intro w4 hmp4 hgr4
  have hk4 : Keep (fun k => k = bm) w3 w4 := (Keep.of_grown hgr4).mono fun k _ e => by injection e with e; exact e.symm
  have hdb4 := hdv.db.kept hk4 hdv.gb
  have hrow4 := hdv.row.kept hk4 (fun e => hdv.bg e.symm)
  go_wp2_with (go_at_call 50; refine (spend_wr g n n bm (some ⟨gs, 0, none⟩) left wr fl s _ hdb4 hs).mono ?_; rintro e w5 ⟨rfl, hk5, hd5⟩)
  go_ret
  have hk35 : Keep (fun k => k = g ∨ k = bm) w3 w5 := (hk4.mono fun k _ e => Or.inr e).trans hk5 (fun k _ e => Or.inl e)
  have hk03 : Keep (fun k => k = g ∨ k = bm) w w3 := (Keep.of_below hbd).mono fun k hk e => absurd hk (by omega)
  refine ⟨rfl, hk03.trans hk35 (fun k hk e => e), ⟨hd5, hd.len, hd.each, hrow4.kept hk5 (fun e => hd.gg e.symm), ownsMap_kept hmp4 hk5 (fun e => hd.gb e.symm), hd.gb, hd.gg, hd.bg⟩⟩
end Go.Proofs.Ytakgmddmlcngoaa
