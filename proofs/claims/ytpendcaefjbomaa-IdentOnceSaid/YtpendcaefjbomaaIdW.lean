/- A call that came in (ident), by value and in lists. No condition. -/
import Derived.Test.YtpendcaefjbomaaIdV
import Derived.ProofKit
import Derived.OpenShut
import Derived.ShutString
import Derived.ChangeOld
import Derived.SizedLaws
import Derived.ChangeArms
import Derived.Deep.Slices
namespace Go.Proofs.Ytpendcaefjbomaa
open Go.RowKit
set_option linter.unusedVariables false

theorem bytes_u8 : Try.prog.bytesOf 5 = 1 := by kernel_rfl

def toBytes (zs : List Int) : List UInt8 := zs.map fun z => UInt8.ofNat z.toNat

theorem wf_u8 {z : Int} (h : (Lit.int .u8 z).wf = true) : 0 ≤ z ∧ z < 256 := by
  simp [Lit.wf, IntKind.min, IntKind.max, IntKind.signed, IntKind.bits] at h
  omega

open Go.ChangeShapes Go.WideShapes in
theorem bytes_open {H : Type} {enc : TypeId × Value → H} {W : World} {a : Option Addr} {len cap : Nat} {d : DataW H} {p : List MemPlace}
    (h : DataW.Trod enc Try.prog W 0 (fun _ => true) true 32 (.slice a len cap) d p) :
    ∃ l, RB W a len l ∧ len ≤ cap ∧ cap ≤ 9223372036854775807 ∧ ((d = .nil ∧ cap = 0) ∨ ∃ es sp, d = .slice es sp ∧ es.length + sp.length = cap) := by
  obtain ⟨fuel, hf⟩ := h
  rcases open_ints Try.underlying32 Try.underlying5 (by kernel_rfl) hf with ⟨hcs, hx⟩ | ⟨x, l, c, zs, hcs, _, hl, hm, hz, hx, hcell, hwz⟩
  · simp [Value.cells] at hcs
    obtain ⟨rfl, rfl, rfl⟩ := hcs
    simp only [Prod.mk.injEq] at hx
    exact ⟨[], RB.nil _ _, Nat.le_refl _, by omega, .inl ⟨hx.1, rfl⟩⟩
  · simp [Value.cells] at hcs
    obtain ⟨rfl, rfl, rfl⟩ := hcs
    simp at hz
    simp only [Prod.mk.injEq] at hx
    have hget : ∀ i, i < zs.length → zs.getD i 0 ∈ zs := fun i hi => by
      simp [List.getD, List.getElem?_eq_getElem hi]
    refine ⟨toBytes (zs.take len), ⟨by simp [toBytes]; omega, fun hn => ?_⟩, hl, by unfold maxLen at hm; omega, .inr ⟨_, _, hx.1, by simp [lits]; omega⟩⟩
    obtain ⟨b, off, spot⟩ := x
    have hspot : spot = none := by
      have := World.cell?_spot (hcell 0 (by omega))
      simpa [Addr.add] using this
    subst hspot
    refine ⟨b, off, rfl, fun j y hy => ?_⟩
    have hj : j < len := by
      have := (List.getElem?_eq_some_iff.1 hy).1
      simp [toBytes] at this
      omega
    have hc := hcell j (by omega)
    rw [Addr.add_lit] at hc
    rw [hc]
    have hw := wf_u8 (hwz _ (hget j (by omega)))
    rw [toBytes, List.getElem?_map, List.getElem?_take_of_lt hj, List.getElem?_eq_getElem (by omega)] at hy
    simp only [List.getD, List.getElem?_eq_getElem (show j < zs.length by omega), Option.getD_some] at hw ⊢
    simp at hy
    subst hy
    unfold bv
    congr 2
    simp
    omega

theorem own : ownKnob Try.prog.godebug = none := by kernel_rfl
theorem laidOut : laidOutB Try.prog = true := by kernel_rfl
theorem cells_int : Try.prog.cellsOf 3 = 1 := by kernel_rfl
theorem cells_err : Try.prog.cellsOf 33 = 1 := by kernel_rfl
theorem cells_bytes : Try.prog.cellsOf 32 = 1 := by kernel_rfl
theorem cells_ans : Try.prog.cellsOf 35 = 4 := by kernel_rfl
theorem cells_op : Try.prog.cellsOf 37 = 8 := by kernel_rfl
/-- A call. -/
structure OpV where
  i0 : Int
  i1 : Int
  i2 : Int
  l : List UInt8
  a0 : Int
  a1 : Int
  a2 : Int
  a3 : Int
structure OpVAt (w : World) (o : OpV) (A : Option Addr) (c : Nat) : Prop where
  il : RB w A o.l.length o.l
  cap : o.l.length ≤ c
  capm : c ≤ 9223372036854775807
  w1 : (Lit.int .i64 o.i1).wf = true
  w2 : (Lit.int .i64 o.i2).wf = true
  w4 : (Lit.int .i64 o.a0).wf = true
  w5 : (Lit.int .i64 o.a1).wf = true
theorem OpVAt.below {w w' : World} {o : OpV} {A : Option Addr} {c : Nat} (h : OpVAt w o A c) (hb : Below w.heap.size w w') : OpVAt w' o A c := ⟨h.il.kept (Keep.ofB (S := fun _ => False) hb) (fun _ _ => id), h.cap, h.capm, h.w1, h.w2, h.w4, h.w5⟩
set_option maxRecDepth 100000 in
open Go.ChangeShapes Go.WideShapes in
theorem ans_cells {H : Type} {enc : TypeId × Value → H} {w : World} {fuel : Nat} {c0 c1 c2 c3 : Value} {x : DataW H × List MemPlace}
    (h : DataW.trod enc Try.prog w 0 (fun _ => true) true fuel 35 [c0, c1, c2, c3] = some x) :
    ∃ y0 y1 y2 y3 : Int, (c0 = .int .i64 y0 ∧ c1 = .int .i64 y1 ∧ c2 = .int .i64 y2 ∧ c3 = .int .i64 y3) ∧ (Lit.int .i64 y0).wf = true ∧ (Lit.int .i64 y1).wf = true := by
  obtain ⟨xs, m, _, hx, _, hlen, hg⟩ := DataW.trod_struct Try.underlying35 h
  have h0 : DataW.trod enc Try.prog w 0 (fun _ => true) true m 3 (([c0, c1, c2, c3].drop 0).take (Try.prog.cellsOf 3)) = xs[0]? := hg 0 _ rfl
  have h1 : DataW.trod enc Try.prog w 0 (fun _ => true) true m 3 (([c0, c1, c2, c3].drop 1).take (Try.prog.cellsOf 3)) = xs[1]? := hg 1 _ rfl
  have h2 : DataW.trod enc Try.prog w 0 (fun _ => true) true m 33 (([c0, c1, c2, c3].drop 2).take (Try.prog.cellsOf 33)) = xs[2]? := hg 2 _ rfl
  have h3 : DataW.trod enc Try.prog w 0 (fun _ => true) true m 3 (([c0, c1, c2, c3].drop 3).take (Try.prog.cellsOf 3)) = xs[3]? := hg 3 _ rfl
  match xs, hlen with
  | [y0, y1, y2, y3], _ =>
    rw [cells_int] at h0 h1 h3
    rw [cells_err] at h2
    simp at h0 h1 h2 h3
    obtain ⟨v0, e0, x0, w0⟩ := DataW.trod_int Try.underlying3 h0
    obtain ⟨v1, e1, x1, w1⟩ := DataW.trod_int Try.underlying3 h1
    obtain ⟨v2, e2, x2, w2⟩ := DataW.trod_int Try.underlying33 h2
    obtain ⟨v3, e3, x3, w3⟩ := DataW.trod_int Try.underlying3 h3
    simp only [List.cons.injEq, and_true] at e0 e1 e2 e3
    exact ⟨v0, v1, v2, v3, ⟨e0, e1, e2, e3⟩, w0, w1⟩
set_option maxRecDepth 100000 in
open Go.ChangeShapes Go.WideShapes in
theorem opv_cells {H : Type} {enc : TypeId × Value → H} {w : World} {fuel : Nat} {c0 c1 c2 c3 c4 c5 c6 c7 : Value} {x : DataW H × List MemPlace}
    (h : DataW.trod enc Try.prog w 0 (fun _ => true) true fuel 37 [c0, c1, c2, c3, c4, c5, c6, c7] = some x) :
    ∃ (o : OpV) (A : Option Addr) (c : Nat), c0 = .int .i64 o.i0 ∧ c1 = .int .i64 o.i1 ∧ c2 = .int .i64 o.i2 ∧ c3 = .slice A o.l.length c ∧ c4 = .int .i64 o.a0 ∧ c5 = .int .i64 o.a1 ∧ c6 = .int .i64 o.a2 ∧ c7 = .int .i64 o.a3 ∧ OpVAt w o A c := by
  obtain ⟨xs, m, _, hx, _, hlen, hg⟩ := DataW.trod_struct Try.underlying37 h
  have h0 : DataW.trod enc Try.prog w 0 (fun _ => true) true m 3 (([c0, c1, c2, c3, c4, c5, c6, c7].drop 0).take (Try.prog.cellsOf 3)) = xs[0]? := hg 0 _ rfl
  have h1 : DataW.trod enc Try.prog w 0 (fun _ => true) true m 3 (([c0, c1, c2, c3, c4, c5, c6, c7].drop 1).take (Try.prog.cellsOf 3)) = xs[1]? := hg 1 _ rfl
  have h2 : DataW.trod enc Try.prog w 0 (fun _ => true) true m 3 (([c0, c1, c2, c3, c4, c5, c6, c7].drop 2).take (Try.prog.cellsOf 3)) = xs[2]? := hg 2 _ rfl
  have h3 : DataW.trod enc Try.prog w 0 (fun _ => true) true m 32 (([c0, c1, c2, c3, c4, c5, c6, c7].drop 3).take (Try.prog.cellsOf 32)) = xs[3]? := hg 3 _ rfl
  have h4 : DataW.trod enc Try.prog w 0 (fun _ => true) true m 35 (([c0, c1, c2, c3, c4, c5, c6, c7].drop 4).take (Try.prog.cellsOf 35)) = xs[4]? := hg 4 _ rfl
  match xs, hlen with
  | [y0, y1, y2, y3, y4], _ =>
    rw [cells_int] at h0 h1 h2
    rw [cells_bytes] at h3
    rw [cells_ans] at h4
    simp at h0 h1 h2 h3 h4
    obtain ⟨v0, e0, x0, w0⟩ := DataW.trod_int Try.underlying3 h0
    obtain ⟨v1, e1, x1, w1⟩ := DataW.trod_int Try.underlying3 h1
    obtain ⟨v2, e2, x2, w2⟩ := DataW.trod_int Try.underlying3 h2
    simp only [List.cons.injEq, and_true] at e0 e1 e2
    have key : ∃ (A : Option Addr) (ln cp : Nat), c3 = .slice A ln cp := by
      rcases DataW.trod_slice Try.underlying32 h3 with ⟨hcs, _⟩ | ⟨a', ln, cp, _, _, _, _, hcs, _⟩
      · simp only [List.cons.injEq, and_true] at hcs
        exact ⟨none, 0, 0, hcs⟩
      · simp only [List.cons.injEq, and_true] at hcs
        exact ⟨some a', ln, cp, hcs⟩
    obtain ⟨A, ln, cp, rfl⟩ := key
    obtain ⟨l, hl, hlc, hcm, _⟩ := bytes_open (W := w) (d := y3.1) (p := y3.2) ⟨m, by simpa [Value.cells] using h3⟩
    have hln := hl.1
    subst hln
    obtain ⟨z0, z1, z2, z3, ⟨f0, f1, f2, f3⟩, g0, g1⟩ := ans_cells h4
    exact ⟨⟨v0, v1, v2, l, z0, z1, z2, z3⟩, A, cp, e0, e1, e2, rfl, f0, f1, f2, f3, hl, hlc, hcm, w1, w2, g0, g1⟩
set_option maxRecDepth 100000 in
open Go.ChangeShapes Go.WideShapes in
theorem opv_open {H : Type} {enc : TypeId × Value → H} {w : World} {r : Reach} {b0 : Nat} {v : Value} {d : DataW H} {p : List MemPlace}
    (hv : Value.okWide Try.prog w r b0 37 v) (h : DataW.Trod enc Try.prog w 0 (fun _ => true) true 37 v d p) :
    ∃ (o : OpV) (A : Option Addr) (c : Nat), v = .agg #[.int .i64 o.i0, .int .i64 o.i1, .int .i64 o.i2, .slice A o.l.length c, .int .i64 o.a0, .int .i64 o.a1, .int .i64 o.a2, .int .i64 o.a3] ∧ OpVAt w o A c := by
  obtain ⟨cs, rfl, hsz⟩ := okWide_struct Try.underlying37 hv
  rw [cells_op] at hsz
  obtain ⟨l⟩ := cs
  match l, hsz with
  | [c0, c1, c2, c3, c4, c5, c6, c7], _ =>
    obtain ⟨fuel, hf⟩ := h
    obtain ⟨o, A, c, rfl, rfl, rfl, rfl, rfl, rfl, rfl, rfl, h1⟩ := opv_cells (by simpa [Value.cells] using hf)
    exact ⟨o, A, c, rfl, h1⟩
/-- A call, and where its bytes lie. -/
structure OpX where
  o : OpV
  A : Option Addr
  c : Nat
/-- The cells of a call, at off in block b. -/
structure OpAtX (w : World) (b off : Nat) (x : OpX) : Prop where
  c0 : w.cell? ⟨b, off, none⟩ = some (.int .i64 x.o.i0)
  c1 : w.cell? ⟨b, off + 1, none⟩ = some (.int .i64 x.o.i1)
  c2 : w.cell? ⟨b, off + 2, none⟩ = some (.int .i64 x.o.i2)
  c3 : w.cell? ⟨b, off + 3, none⟩ = some (.slice x.A x.o.l.length x.c)
  c4 : w.cell? ⟨b, off + 4, none⟩ = some (.int .i64 x.o.a0)
  c5 : w.cell? ⟨b, off + 5, none⟩ = some (.int .i64 x.o.a1)
  c6 : w.cell? ⟨b, off + 6, none⟩ = some (.int .i64 x.o.a2)
  c7 : w.cell? ⟨b, off + 7, none⟩ = some (.int .i64 x.o.a3)
  at_ : OpVAt w x.o x.A x.c
/-- The slice reads as these calls. -/
def OPX (w : World) (A : Option Addr) (len : Nat) (f : Nat → OpX) : Prop :=
  0 < len → ∃ b off, A = some ⟨b, off, none⟩ ∧ b < w.heap.size ∧ ∀ i, i < len → OpAtX w b (off + i * 8) (f i)
theorem OpAtX.below {w w' : World} {b off : Nat} {x : OpX} (h : OpAtX w b off x) (hb : Below w.heap.size w w') : OpAtX w' b off x :=
  ⟨(hb.cell (World.block_lt_of_cell? _ _ h.c0)).trans h.c0, (hb.cell (World.block_lt_of_cell? _ _ h.c1)).trans h.c1, (hb.cell (World.block_lt_of_cell? _ _ h.c2)).trans h.c2, (hb.cell (World.block_lt_of_cell? _ _ h.c3)).trans h.c3, (hb.cell (World.block_lt_of_cell? _ _ h.c4)).trans h.c4, (hb.cell (World.block_lt_of_cell? _ _ h.c5)).trans h.c5, (hb.cell (World.block_lt_of_cell? _ _ h.c6)).trans h.c6, (hb.cell (World.block_lt_of_cell? _ _ h.c7)).trans h.c7, h.at_.below hb⟩
set_option maxRecDepth 100000 in
open Go.ChangeShapes Go.WideShapes in
theorem ops_open {H : Type} {enc : TypeId × Value → H} {W : World} {a : Option Addr} {len cap : Nat} {d : DataW H} {p : List MemPlace}
    (h : DataW.Trod enc Try.prog W 0 (fun _ => true) true 22 (.slice a len cap) d p) :
    ∃ f, OPX W a len f ∧ len ≤ cap ∧ cap ≤ 9223372036854775807 := by
  have dflt : OpX := ⟨⟨0, 0, 0, [], 0, 0, 0, 0⟩, none, 0⟩
  obtain ⟨fuel, hf⟩ := h
  rcases Go.Deep.open_slice Try.underlying22 hf with ⟨hcs, hx⟩ | ⟨x, l, c, m, n, D, Pl, hcs, _, hl, hm, hmm, hx, hi⟩
  · simp [Value.cells] at hcs
    obtain ⟨rfl, rfl, rfl⟩ := hcs
    exact ⟨fun _ => dflt, fun hn => absurd hn (by omega), Nat.le_refl _, by omega⟩
  · simp [Value.cells] at hcs
    obtain ⟨rfl, rfl, rfl⟩ := hcs
    simp at hmm
    subst hmm
    rw [cells_op] at hi
    obtain ⟨b, off, spot⟩ := x
    by_cases hpos : 0 < len
    · have hspot : spot = none := by
        obtain ⟨cs', hc, _⟩ := hi 0 (by omega)
        obtain ⟨_, hlen, hat⟩ := World.cells?_some hc
        have h0 := hat 0 (by omega)
        rw [List.getElem?_eq_getElem (by omega)] at h0
        have := World.cell?_spot h0
        simpa [Addr.add] using this
      subst hspot
      have key : ∀ i, ∃ o : OpX, i < len → OpAtX W b (off + i * 8) o := by
        intro i
        by_cases hil : i < len
        · obtain ⟨cs', hc, ht'⟩ := hi i (by omega)
          obtain ⟨_, hlen, hat⟩ := World.cells?_some hc
          match cs', hlen with
          | [c0, c1, c2, c3, c4, c5, c6, c7], _ =>
            obtain ⟨o, A, c, rfl, rfl, rfl, rfl, rfl, rfl, rfl, rfl, hx⟩ := opv_cells ht'
            have h0 := hat 0 (by omega)
            have h1 := hat 1 (by omega)
            have h2 := hat 2 (by omega)
            have h3 := hat 3 (by omega)
            have h4 := hat 4 (by omega)
            have h5 := hat 5 (by omega)
            have h6 := hat 6 (by omega)
            have h7 := hat 7 (by omega)
            simp only [Addr.add_lit, Nat.add_zero, List.getElem?_cons_zero, List.getElem?_cons_succ] at h0 h1 h2 h3 h4 h5 h6 h7
            exact ⟨⟨o, A, c⟩, fun _ => ⟨h0, h1, h2, h3, h4, h5, h6, h7, hx⟩⟩
        · exact ⟨dflt, fun h => absurd h hil⟩
      refine ⟨fun i => (key i).choose, fun _ => ⟨b, off, rfl, ?_, fun i hil => (key i).choose_spec hil⟩, hl, by unfold maxLen at hm; omega⟩
      exact World.block_lt_of_cell? _ _ ((key 0).choose_spec hpos).c0
    · exact ⟨fun _ => dflt, fun hn => absurd hn hpos, hl, by unfold maxLen at hm; omega⟩
end Go.Proofs.Ytpendcaefjbomaa
