/- What the laws' rows take of a list of the sector's calls that came in: three ints, a byte, a list of ints, bytes. No condition. -/
import Derived.Test.YtakgmddmlcngoaaAny3
import Derived.ChangeArms
import Derived.Deep.Slices
import Derived.Deep.LoopGhost
import Derived.Deep.CutBlock
import Derived.Deep.CutRange
namespace Go.Proofs.Ytakgmddmlcngoaa
open Go.RowKit
set_option linter.unusedVariables false

theorem cells_int : Try.prog.cellsOf 3 = 1 := by kernel_rfl
theorem cells_u8 : Try.prog.cellsOf 5 = 1 := by kernel_rfl
theorem cells_ints : Try.prog.cellsOf 31 = 1 := by kernel_rfl
theorem cells_bytes : Try.prog.cellsOf 32 = 1 := by kernel_rfl
theorem cells_op : Try.prog.cellsOf 34 = 6 := by kernel_rfl

open Go.ChangeShapes Go.WideShapes in
theorem keep_open {H : Type} {enc : TypeId × Value → H} {W : World} {fuel : Nat} {c4 : Value} {y : DataW H × List MemPlace}
    (hf : DataW.trod enc Try.prog W 0 (fun _ => true) true fuel 31 [c4] = some y) :
    ∃ A q c l, c4 = .slice A q c ∧ IR W A q l ∧ (∀ x ∈ l, (Lit.int .i64 x).wf = true) ∧ q ≤ 9223372036854775807 ∧ (∀ ad, A = some ad → 0 < q → ad.block < W.heap.size) := by
  rcases open_ints Try.underlying31 Try.underlying3 (by kernel_rfl) hf with ⟨hcs, hx⟩ | ⟨x, l, c, zs, hcs, _, hl, hm, hz, hx, hcell, hwz⟩
  · simp only [List.cons.injEq, and_true] at hcs
    exact ⟨none, 0, 0, [], hcs, IR.nil _ _, by simp, by omega, fun ad h _ => nomatch h⟩
  · simp only [List.cons.injEq, and_true] at hcs
    simp at hz
    have hm' : l ≤ 9223372036854775807 := by unfold maxLen at hm; omega
    refine ⟨some x, l, c, zs.take l, hcs, ⟨by simp; omega, fun j y hy => ?_⟩, fun n hn => hwz n (List.mem_of_mem_take hn), hm', fun ad h hp => ?_⟩
    · have hj : j < l := by
        have := (List.getElem?_eq_some_iff.1 hy).1
        simp at this
        omega
      obtain ⟨b, off, spot⟩ := x
      have hspot : spot = none := by
        have := World.cell?_spot (hcell 0 (by omega))
        simpa [Addr.add] using this
      subst hspot
      have hc := hcell j (by omega)
      rw [Addr.add_lit] at hc
      refine ⟨b, off, rfl, ?_⟩
      rw [hc]
      rw [List.getElem?_take_of_lt hj, List.getElem?_eq_getElem (by omega)] at hy
      simp only [List.getD, List.getElem?_eq_getElem (show j < zs.length by omega), Option.getD_some]
      simp at hy
      rw [hy]
    · cases h
      exact World.block_lt_of_cell? _ _ (hcell 0 (by omega))

/-- A call of the sector's laws. -/
structure OpV3 where
  k : Int
  i : Int
  n : Int
  b : UInt8
  A : Option Addr
  q : Nat
  c : Nat
  keep : List Int
  B : Option Addr
  bl : Nat
  bc : Nat

/-- Its six cells, at off in block g; and what its list of ints reads as. -/
structure OpAt (w : World) (g off : Nat) (o : OpV3) : Prop where
  c0 : w.cell? ⟨g, off, none⟩ = some (.int .i64 o.k)
  c1 : w.cell? ⟨g, off + 1, none⟩ = some (.int .i64 o.i)
  c2 : w.cell? ⟨g, off + 2, none⟩ = some (.int .i64 o.n)
  c3 : w.cell? ⟨g, off + 3, none⟩ = some (.int .u8 (o.b.toNat : Int))
  c4 : w.cell? ⟨g, off + 4, none⟩ = some (.slice o.A o.q o.c)
  c5 : w.cell? ⟨g, off + 5, none⟩ = some (.slice o.B o.bl o.bc)
  ir : IR w o.A o.q o.keep
  wk : ∀ x ∈ o.keep, (Lit.int .i64 x).wf = true
  wi : (Lit.int .i64 o.i).wf = true
  lq : o.q ≤ 9223372036854775807
  al : ∀ ad, o.A = some ad → 0 < o.q → ad.block < w.heap.size

theorem OpAt.below {w w' : World} {g off : Nat} {o : OpV3} (h : OpAt w g off o) (hb : Below w.heap.size w w') : OpAt w' g off o := by
  have hlt : g < w.heap.size := World.block_lt_of_cell? _ _ h.c0
  exact ⟨(hb.cell (p := ⟨g, off, none⟩) hlt).trans h.c0, (hb.cell (p := ⟨g, off + 1, none⟩) hlt).trans h.c1, (hb.cell (p := ⟨g, off + 2, none⟩) hlt).trans h.c2, (hb.cell (p := ⟨g, off + 3, none⟩) hlt).trans h.c3, (hb.cell (p := ⟨g, off + 4, none⟩) hlt).trans h.c4, (hb.cell (p := ⟨g, off + 5, none⟩) hlt).trans h.c5,
    h.ir.below hb, h.wk, h.wi, h.lq, fun ad e hp => Nat.lt_of_lt_of_le (h.al ad e hp) hb.size⟩

/-- The slice reads as these calls. -/
def OPS (w : World) (A : Option Addr) (len : Nat) (f : Nat → OpV3) : Prop :=
  0 < len → ∃ b off, A = some ⟨b, off, none⟩ ∧ b < w.heap.size ∧ ∀ i, i < len → OpAt w b (off + i * 6) (f i)
theorem OPS.below {w w' : World} {A : Option Addr} {len : Nat} {f : Nat → OpV3} (h : OPS w A len f) (hb : Below w.heap.size w w') : OPS w' A len f := fun hl => by
  obtain ⟨b, off, e, hlt, h2⟩ := h hl
  exact ⟨b, off, e, Nat.lt_of_lt_of_le hlt hb.size, fun i hi => (h2 i hi).below hb⟩

set_option maxRecDepth 100000 in
open Go.ChangeShapes Go.WideShapes in
theorem op_cells {H : Type} {enc : TypeId × Value → H} {w : World} {fuel : Nat} {c0 c1 c2 c3 c4 c5 : Value} {x : DataW H × List MemPlace}
    (h : DataW.trod enc Try.prog w 0 (fun _ => true) true fuel 34 [c0, c1, c2, c3, c4, c5] = some x) :
    ∃ o : OpV3, c0 = .int .i64 o.k ∧ c1 = .int .i64 o.i ∧ c2 = .int .i64 o.n ∧ c3 = .int .u8 (o.b.toNat : Int) ∧ c4 = .slice o.A o.q o.c ∧ c5 = .slice o.B o.bl o.bc ∧
      IR w o.A o.q o.keep ∧ (∀ x ∈ o.keep, (Lit.int .i64 x).wf = true) ∧ (Lit.int .i64 o.i).wf = true ∧ o.q ≤ 9223372036854775807 ∧ (∀ ad, o.A = some ad → 0 < o.q → ad.block < w.heap.size) := by
  obtain ⟨xs, m, _, hx, _, hlen, hg⟩ := DataW.trod_struct Try.underlying34 h
  have h0 : DataW.trod enc Try.prog w 0 (fun _ => true) true m 3 (([c0, c1, c2, c3, c4, c5].drop 0).take (Try.prog.cellsOf 3)) = xs[0]? := hg 0 _ rfl
  have h1 : DataW.trod enc Try.prog w 0 (fun _ => true) true m 3 (([c0, c1, c2, c3, c4, c5].drop 1).take (Try.prog.cellsOf 3)) = xs[1]? := hg 1 _ rfl
  have h2 : DataW.trod enc Try.prog w 0 (fun _ => true) true m 3 (([c0, c1, c2, c3, c4, c5].drop 2).take (Try.prog.cellsOf 3)) = xs[2]? := hg 2 _ rfl
  have h3 : DataW.trod enc Try.prog w 0 (fun _ => true) true m 5 (([c0, c1, c2, c3, c4, c5].drop 3).take (Try.prog.cellsOf 5)) = xs[3]? := hg 3 _ rfl
  have h4 : DataW.trod enc Try.prog w 0 (fun _ => true) true m 31 (([c0, c1, c2, c3, c4, c5].drop 4).take (Try.prog.cellsOf 31)) = xs[4]? := hg 4 _ rfl
  have h5 : DataW.trod enc Try.prog w 0 (fun _ => true) true m 32 (([c0, c1, c2, c3, c4, c5].drop 5).take (Try.prog.cellsOf 32)) = xs[5]? := hg 5 _ rfl
  match xs, hlen with
  | [y0, y1, y2, y3, y4, y5], _ =>
    rw [cells_int] at h0 h1 h2
    rw [cells_u8] at h3
    rw [cells_ints] at h4
    rw [cells_bytes] at h5
    simp at h0 h1 h2 h3 h4 h5
    obtain ⟨k, e0, x0, w0⟩ := DataW.trod_int Try.underlying3 h0
    obtain ⟨i, e1, x1, w1⟩ := DataW.trod_int Try.underlying3 h1
    obtain ⟨n, e2, x2, w2⟩ := DataW.trod_int Try.underlying3 h2
    obtain ⟨b, e3, x3, w3⟩ := DataW.trod_int Try.underlying5 h3
    obtain ⟨b', rfl⟩ := nat_u8 w3
    obtain ⟨A, q, c, l, rfl, hir, hwk, hlq, hal⟩ := keep_open h4
    have h6 : ∃ B bl bc, c5 = .slice B bl bc := by
      rcases Go.Deep.open_slice Try.underlying32 h5 with ⟨hcs, _⟩ | ⟨x, l, c, m, n, D, Pl, hcs, _⟩
      · simp only [List.cons.injEq, and_true] at hcs
        exact ⟨none, 0, 0, hcs⟩
      · simp only [List.cons.injEq, and_true] at hcs
        exact ⟨some x, l, c, hcs⟩
    obtain ⟨B, bl, bc, rfl⟩ := h6
    simp only [List.cons.injEq, and_true] at e0 e1 e2 e3
    exact ⟨⟨k, i, n, b', A, q, c, l, B, bl, bc⟩, e0, e1, e2, e3, rfl, rfl, hir, hwk, w1, hlq, hal⟩

set_option maxRecDepth 100000 in
open Go.ChangeShapes Go.WideShapes in
theorem ops_open {H : Type} {enc : TypeId × Value → H} {W : World} {a : Option Addr} {len cap : Nat} {d : DataW H} {p : List MemPlace}
    (h : DataW.Trod enc Try.prog W 0 (fun _ => true) true 22 (.slice a len cap) d p) :
    ∃ f, OPS W a len f ∧ len ≤ cap ∧ cap ≤ 9223372036854775807 := by
  have o0 : OpV3 := ⟨0, 0, 0, 0, none, 0, 0, [], none, 0, 0⟩
  obtain ⟨fuel, hf⟩ := h
  rcases Go.Deep.open_slice Try.underlying22 hf with ⟨hcs, hx⟩ | ⟨x, l, c, m, n, D, Pl, hcs, _, hl, hm, hmm, hx, hi⟩
  · simp [Value.cells] at hcs
    obtain ⟨rfl, rfl, rfl⟩ := hcs
    exact ⟨fun _ => o0, fun hn => absurd hn (by omega), Nat.le_refl _, by omega⟩
  · simp [Value.cells] at hcs
    obtain ⟨rfl, rfl, rfl⟩ := hcs
    simp at hmm
    subst hmm
    rw [cells_op] at hi
    obtain ⟨b, off, spot⟩ := x
    by_cases hpos : 0 < len
    · have hspot : spot = none := by
        obtain ⟨cs', hc, _⟩ := hi 0 (by omega)
        obtain ⟨_, hlen, hat⟩ := World.cells?_some hc
        have h0 := hat 0 (by omega)
        rw [List.getElem?_eq_getElem (by omega)] at h0
        have := World.cell?_spot h0
        simpa [Addr.add] using this
      subst hspot
      have key : ∀ i, ∃ o : OpV3, i < len → OpAt W b (off + i * 6) o := by
        intro i
        by_cases hil : i < len
        · obtain ⟨cs', hc, ht'⟩ := hi i (by omega)
          obtain ⟨_, hlen, hat⟩ := World.cells?_some hc
          match cs', hlen with
          | [c0, c1, c2, c3, c4, c5], _ =>
            obtain ⟨o, rfl, rfl, rfl, rfl, rfl, rfl, hir, hwk, hwi, hlq, hal⟩ := op_cells ht'
            have h0 := hat 0 (by omega)
            have h1 := hat 1 (by omega)
            have h2 := hat 2 (by omega)
            have h3 := hat 3 (by omega)
            have h4 := hat 4 (by omega)
            have h5 := hat 5 (by omega)
            simp only [Addr.add_lit, Nat.add_zero, List.getElem?_cons_zero, List.getElem?_cons_succ] at h0 h1 h2 h3 h4 h5
            exact ⟨o, fun _ => ⟨h0, h1, h2, h3, h4, h5, hir, hwk, hwi, hlq, hal⟩⟩
        · exact ⟨o0, fun h => absurd h hil⟩
      refine ⟨fun i => (key i).choose, fun _ => ⟨b, off, rfl, ?_, fun i hil => (key i).choose_spec hil⟩, hl, by unfold maxLen at hm; omega⟩
      exact World.block_lt_of_cell? _ _ ((key 0).choose_spec hpos).c0
    · exact ⟨fun _ => o0, fun hn => absurd hn hpos, hl, by unfold maxLen at hm; omega⟩
end Go.Proofs.Ytakgmddmlcngoaa
