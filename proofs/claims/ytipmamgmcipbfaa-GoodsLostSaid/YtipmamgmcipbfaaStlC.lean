/- A call with a list of goods that came in, by value and in lists. No condition. -/
import Derived.Test.YtipmamgmcipbfaaIOpen
import Derived.Test.YtipmamgmcipbfaaSmF
import Derived.ProofKit
import Derived.OpenShut
import Derived.ShutString
import Derived.ChangeOld
import Derived.SizedLaws
import Derived.ChangeArms
import Derived.ChangeMaps5
import Derived.Deep.Slices
namespace Go.Proofs.Ytipmamgmcipbfaa
open Go.RowKit
set_option linter.unusedVariables false

theorem cells_int : Try.prog.cellsOf 3 = 1 := by kernel_rfl
theorem cells_str : Try.prog.cellsOf 9 = 1 := by kernel_rfl
theorem cells_items : Try.prog.cellsOf 50 = 1 := by kernel_rfl
theorem cells_op : Try.prog.cellsOf 52 = 4 := by kernel_rfl
/-- A call. -/
structure OpV where
  i0 : Int
  g2 : List UInt8
  i3 : Int
  l : List It
structure OpVAt (w : World) (o : OpV) (A : Option Addr) (c : Nat) : Prop where
  il : IL w A o.l.length o.l
  wl : WL o.l
  cap : o.l.length ≤ c
  capm : c ≤ 9223372036854775807
  w0 : (Lit.int .i64 o.i0).wf = true
  w2 : o.g2.length ≤ maxLen
  w3 : (Lit.int .i64 o.i3).wf = true
theorem OpVAt.below {w w' : World} {o : OpV} {A : Option Addr} {c : Nat} (h : OpVAt w o A c) (hb : Below w.heap.size w w') : OpVAt w' o A c := ⟨h.il.below hb, h.wl, h.cap, h.capm, h.w0, h.w2, h.w3⟩
set_option maxRecDepth 100000 in
open Go.ChangeShapes Go.WideShapes in
theorem opv_cells {H : Type} {enc : TypeId × Value → H} {w : World} {fuel : Nat} {c0 c1 c2 c3 : Value} {x : DataW H × List MemPlace}
    (h : DataW.trod enc Try.prog w 0 (fun _ => true) true fuel 52 [c0, c1, c2, c3] = some x) :
    ∃ (o : OpV) (A : Option Addr) (c : Nat), c0 = .int .i64 o.i0 ∧ c1 = .slice A o.l.length c ∧ c2 = .string ⟨o.g2.toArray⟩ ∧ c3 = .int .i64 o.i3 ∧ OpVAt w o A c ∧ (c = 0 ∨ c * 24 ∈ x.1.weights Try.prog 52) := by
  obtain ⟨xs, m, _, hx, _, hlen, hg⟩ := DataW.trod_struct Try.underlying52 h
  have h0 : DataW.trod enc Try.prog w 0 (fun _ => true) true m 3 (([c0, c1, c2, c3].drop 0).take (Try.prog.cellsOf 3)) = xs[0]? := hg 0 _ rfl
  have h1 : DataW.trod enc Try.prog w 0 (fun _ => true) true m 50 (([c0, c1, c2, c3].drop 1).take (Try.prog.cellsOf 50)) = xs[1]? := hg 1 _ rfl
  have h2 : DataW.trod enc Try.prog w 0 (fun _ => true) true m 9 (([c0, c1, c2, c3].drop 2).take (Try.prog.cellsOf 9)) = xs[2]? := hg 2 _ rfl
  have h3 : DataW.trod enc Try.prog w 0 (fun _ => true) true m 3 (([c0, c1, c2, c3].drop 3).take (Try.prog.cellsOf 3)) = xs[3]? := hg 3 _ rfl
  match xs, hlen with
  | [y0, y1, y2, y3], _ =>
    rw [cells_int] at h0 h3
    rw [cells_str] at h2
    rw [cells_items] at h1
    simp at h0 h3 h2 h1
    obtain ⟨k0, e0, x0, w0⟩ := DataW.trod_int Try.underlying3 h0
    obtain ⟨k2, e2, x2, w2⟩ := DataW.trod_string Try.underlying9 h2
    obtain ⟨k3, e3, x3, w3⟩ := DataW.trod_int Try.underlying3 h3
    simp only [List.cons.injEq, and_true] at e0 e2 e3
    have key : ∃ (A : Option Addr) (ln cp : Nat), c1 = .slice A ln cp := by
      rcases DataW.trod_slice Try.underlying50 h1 with ⟨hcs, _⟩ | ⟨a', ln, cp, _, _, _, _, hcs, _⟩
      · simp only [List.cons.injEq, and_true] at hcs
        exact ⟨none, 0, 0, hcs⟩
      · simp only [List.cons.injEq, and_true] at hcs
        exact ⟨some a', ln, cp, hcs⟩
    obtain ⟨A, ln, cp, rfl⟩ := key
    obtain ⟨l, hl, hw, hlc, hcm, hdd⟩ := items_open (W := w) (d := y1.1) (p := y1.2) ⟨m, by simpa [Value.cells] using h1⟩
    have hln := hl.len
    subst hln
    have hwt : cp = 0 ∨ cp * 24 ∈ x.1.weights Try.prog 52 := by
      rcases hdd with ⟨_, h0⟩ | ⟨es, sp, hd, hsum⟩
      · exact .inl h0
      · right
        rw [hx]
        unfold DataW.weights
        rw [Try.underlying52]
        have hthis : cp * 24 ∈ y1.1.weights Try.prog 50 := by
          rw [hd]
          simp [DataW.weights, Try.underlying50, bytes_item, hsum]
        simp [DataW.weightsEach, hthis]
    exact ⟨⟨k0, k2.data.toList, k3, l⟩, A, cp, e0, rfl, e2, e3, ⟨hl, hw, hlc, hcm, w0, (by rw [Array.length_toList]; exact w2), w3⟩, hwt⟩
set_option maxRecDepth 100000 in
open Go.ChangeShapes Go.WideShapes in
theorem opv_open {H : Type} {enc : TypeId × Value → H} {w : World} {r : Reach} {b0 : Nat} {v : Value} {d : DataW H} {p : List MemPlace}
    (hv : Value.okWide Try.prog w r b0 52 v) (h : DataW.Trod enc Try.prog w 0 (fun _ => true) true 52 v d p) :
    ∃ (o : OpV) (A : Option Addr) (c : Nat), v = .agg #[.int .i64 o.i0, .slice A o.l.length c, .string ⟨o.g2.toArray⟩, .int .i64 o.i3] ∧ OpVAt w o A c ∧ (c = 0 ∨ c * 24 ∈ d.weights Try.prog 52) := by
  obtain ⟨cs, rfl, hsz⟩ := okWide_struct Try.underlying52 hv
  rw [cells_op] at hsz
  obtain ⟨l⟩ := cs
  match l, hsz with
  | [c0, c1, c2, c3], _ =>
    obtain ⟨fuel, hf⟩ := h
    obtain ⟨o, A, c, rfl, rfl, rfl, rfl, h1, h2⟩ := opv_cells (by simpa [Value.cells] using hf)
    exact ⟨o, A, c, rfl, h1, h2⟩
/-- A call, and where its list lies. -/
structure OpX where
  o : OpV
  A : Option Addr
  c : Nat
/-- The cells of a call, at off in block b. -/
structure OpAtX (w : World) (b off : Nat) (x : OpX) : Prop where
  c0 : w.cell? ⟨b, off, none⟩ = some (.int .i64 x.o.i0)
  c1 : w.cell? ⟨b, off + 1, none⟩ = some (.slice x.A x.o.l.length x.c)
  c2 : w.cell? ⟨b, off + 2, none⟩ = some (.string ⟨x.o.g2.toArray⟩)
  c3 : w.cell? ⟨b, off + 3, none⟩ = some (.int .i64 x.o.i3)
  at_ : OpVAt w x.o x.A x.c
/-- The slice reads as these calls. -/
def OPX (w : World) (A : Option Addr) (len : Nat) (f : Nat → OpX) : Prop :=
  0 < len → ∃ b off, A = some ⟨b, off, none⟩ ∧ b < w.heap.size ∧ ∀ i, i < len → OpAtX w b (off + i * 4) (f i)
theorem OpAtX.below {w w' : World} {b off : Nat} {x : OpX} (h : OpAtX w b off x) (hb : Below w.heap.size w w') : OpAtX w' b off x :=
  ⟨(hb.cell (World.block_lt_of_cell? _ _ h.c0)).trans h.c0, (hb.cell (World.block_lt_of_cell? _ _ h.c1)).trans h.c1, (hb.cell (World.block_lt_of_cell? _ _ h.c2)).trans h.c2, (hb.cell (World.block_lt_of_cell? _ _ h.c3)).trans h.c3, h.at_.below hb⟩
theorem OPX.below {w w' : World} {A : Option Addr} {len : Nat} {f : Nat → OpX} (h : OPX w A len f) (hb : Below w.heap.size w w') : OPX w' A len f := fun hl => by
  obtain ⟨b, off, e, hlt, h2⟩ := h hl
  exact ⟨b, off, e, Nat.lt_of_lt_of_le hlt hb.size, fun i hi => (h2 i hi).below hb⟩
set_option maxRecDepth 100000 in
open Go.ChangeShapes Go.WideShapes in
theorem ops_open {H : Type} {enc : TypeId × Value → H} {W : World} {a : Option Addr} {len cap : Nat} {d : DataW H} {p : List MemPlace}
    (h : DataW.Trod enc Try.prog W 0 (fun _ => true) true 46 (.slice a len cap) d p) :
    ∃ f, OPX W a len f ∧ len ≤ cap ∧ cap ≤ 9223372036854775807 := by
  have dflt : OpX := ⟨⟨0, [], 0, []⟩, none, 0⟩
  obtain ⟨fuel, hf⟩ := h
  rcases Go.Deep.open_slice Try.underlying46 hf with ⟨hcs, hx⟩ | ⟨x, l, c, m, n, D, Pl, hcs, _, hl, hm, hmm, hx, hi⟩
  · simp [Value.cells] at hcs
    obtain ⟨rfl, rfl, rfl⟩ := hcs
    exact ⟨fun _ => dflt, fun hn => absurd hn (by omega), Nat.le_refl _, by omega⟩
  · simp [Value.cells] at hcs
    obtain ⟨rfl, rfl, rfl⟩ := hcs
    simp at hmm
    subst hmm
    rw [cells_op] at hi
    obtain ⟨b, off, spot⟩ := x
    by_cases hpos : 0 < len
    · have hspot : spot = none := by
        obtain ⟨cs', hc, _⟩ := hi 0 (by omega)
        obtain ⟨_, hlen, hat⟩ := World.cells?_some hc
        have h0 := hat 0 (by omega)
        rw [List.getElem?_eq_getElem (by omega)] at h0
        have := World.cell?_spot h0
        simpa [Addr.add] using this
      subst hspot
      have key : ∀ i, ∃ o : OpX, i < len → OpAtX W b (off + i * 4) o := by
        intro i
        by_cases hil : i < len
        · obtain ⟨cs', hc, ht'⟩ := hi i (by omega)
          obtain ⟨_, hlen, hat⟩ := World.cells?_some hc
          match cs', hlen with
          | [c0, c1, c2, c3], _ =>
            obtain ⟨o, A, c, rfl, rfl, rfl, rfl, hx, _⟩ := opv_cells ht'
            have h0 := hat 0 (by omega)
            have h1 := hat 1 (by omega)
            have h2 := hat 2 (by omega)
            have h3 := hat 3 (by omega)
            simp only [Addr.add_lit, Nat.add_zero, List.getElem?_cons_zero, List.getElem?_cons_succ] at h0 h1 h2 h3
            exact ⟨⟨o, A, c⟩, fun _ => ⟨h0, h1, h2, h3, hx⟩⟩
        · exact ⟨dflt, fun h => absurd h hil⟩
      refine ⟨fun i => (key i).choose, fun _ => ⟨b, off, rfl, ?_, fun i hil => (key i).choose_spec hil⟩, hl, by unfold maxLen at hm; omega⟩
      exact World.block_lt_of_cell? _ _ ((key 0).choose_spec hpos).c0
    · exact ⟨fun _ => dflt, fun hn => absurd hn hpos, hl, by unfold maxLen at hm; omega⟩
end Go.Proofs.Ytipmamgmcipbfaa
