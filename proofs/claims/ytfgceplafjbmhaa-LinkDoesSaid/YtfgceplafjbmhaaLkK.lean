/- A list of calls of an end that came in. No condition. -/
import Derived.Test.YtfgceplafjbmhaaLkB
import Derived.ProofKit
import Derived.OpenShut
import Derived.ShutString
import Derived.ChangeOld
import Derived.SizedLaws
import Derived.ChangeArms
import Derived.Deep.Slices
namespace Go.Proofs.Ytfgceplafjbmhaa
open Go.RowKit
set_option linter.unusedVariables false

/-- A call, and where its body lies. -/
structure OpX where
  o : OpL
  A : Option Addr
  c : Nat
/-- The cells of a call, at off in block b. -/
structure OpAtX (w : World) (b off : Nat) (x : OpX) : Prop where
  c0 : w.cell? ⟨b, off, none⟩ = some (.int .i64 x.o.k)
  c1 : w.cell? ⟨b, off + 1, none⟩ = some (.int .i64 x.o.now)
  c2 : w.cell? ⟨b, off + 2, none⟩ = some (.int .i64 x.o.p.seq)
  c3 : w.cell? ⟨b, off + 3, none⟩ = some (.int .i64 x.o.p.ack)
  c4 : w.cell? ⟨b, off + 4, none⟩ = some (.slice x.A x.o.p.body.length x.c)
  at_ : OpLAt w x.o x.A x.c
/-- The slice reads as these calls. -/
def OPX (w : World) (A : Option Addr) (len : Nat) (f : Nat → OpX) : Prop :=
  0 < len → ∃ b off, A = some ⟨b, off, none⟩ ∧ b < w.heap.size ∧ ∀ i, i < len → OpAtX w b (off + i * 5) (f i)
theorem OpAtX.below {w w' : World} {b off : Nat} {x : OpX} (h : OpAtX w b off x) (hb : Below w.heap.size w w') : OpAtX w' b off x :=
  ⟨(hb.cell (World.block_lt_of_cell? _ _ h.c0)).trans h.c0, (hb.cell (World.block_lt_of_cell? _ _ h.c1)).trans h.c1, (hb.cell (World.block_lt_of_cell? _ _ h.c2)).trans h.c2, (hb.cell (World.block_lt_of_cell? _ _ h.c3)).trans h.c3, (hb.cell (World.block_lt_of_cell? _ _ h.c4)).trans h.c4, h.at_.below hb⟩

set_option maxRecDepth 100000 in
open Go.ChangeShapes Go.WideShapes in
theorem ops_open {H : Type} {enc : TypeId × Value → H} {W : World} {a : Option Addr} {len cap : Nat} {d : DataW H} {p : List MemPlace}
    (h : DataW.Trod enc Try.prog W 0 (fun _ => true) true 22 (.slice a len cap) d p) :
    ∃ f, OPX W a len f ∧ len ≤ cap ∧ cap ≤ 9223372036854775807 := by
  have dflt : OpX := ⟨⟨0, 0, pk0⟩, none, 0⟩
  obtain ⟨fuel, hf⟩ := h
  rcases Go.Deep.open_slice Try.underlying22 hf with ⟨hcs, hx⟩ | ⟨x, l, c, m, n, D, Pl, hcs, _, hl, hm, hmm, hx, hi⟩
  · simp [Value.cells] at hcs
    obtain ⟨rfl, rfl, rfl⟩ := hcs
    exact ⟨fun _ => dflt, fun hn => absurd hn (by omega), Nat.le_refl _, by omega⟩
  · simp [Value.cells] at hcs
    obtain ⟨rfl, rfl, rfl⟩ := hcs
    simp at hmm
    subst hmm
    rw [cells_op] at hi
    obtain ⟨b, off, spot⟩ := x
    by_cases hpos : 0 < len
    · have hspot : spot = none := by
        obtain ⟨cs', hc, _⟩ := hi 0 (by omega)
        obtain ⟨_, hlen, hat⟩ := World.cells?_some hc
        have h0 := hat 0 (by omega)
        rw [List.getElem?_eq_getElem (by omega)] at h0
        have := World.cell?_spot h0
        simpa [Addr.add] using this
      subst hspot
      have key : ∀ i, ∃ o : OpX, i < len → OpAtX W b (off + i * 5) o := by
        intro i
        by_cases hil : i < len
        · obtain ⟨cs', hc, ht'⟩ := hi i (by omega)
          obtain ⟨_, hlen, hat⟩ := World.cells?_some hc
          match cs', hlen with
          | [c0, c1, c2, c3, c4], _ =>
            obtain ⟨o, A, c, rfl, rfl, rfl, rfl, rfl, hx⟩ := opl_cells ht'
            have h0 := hat 0 (by omega)
            have h1 := hat 1 (by omega)
            have h2 := hat 2 (by omega)
            have h3 := hat 3 (by omega)
            have h4 := hat 4 (by omega)
            simp only [Addr.add_lit, Nat.add_zero, List.getElem?_cons_zero, List.getElem?_cons_succ] at h0 h1 h2 h3 h4
            exact ⟨⟨o, A, c⟩, fun _ => ⟨h0, h1, h2, h3, h4, hx⟩⟩
        · exact ⟨dflt, fun h => absurd h hil⟩
      refine ⟨fun i => (key i).choose, fun _ => ⟨b, off, rfl, ?_, fun i hil => (key i).choose_spec hil⟩, hl, by unfold maxLen at hm; omega⟩
      exact World.block_lt_of_cell? _ _ ((key 0).choose_spec hpos).c0
    · exact ⟨fun _ => dflt, fun hn => absurd hn hpos, hl, by unfold maxLen at hm; omega⟩
theorem OPX.below {w w' : World} {A : Option Addr} {len : Nat} {f : Nat → OpX} (h : OPX w A len f) (hb : Below w.heap.size w w') : OPX w' A len f := fun hl => by
  obtain ⟨b, off, e, hlt, h2⟩ := h hl
  exact ⟨b, off, e, Nat.lt_of_lt_of_le hlt hb.size, fun i hi => (h2 i hi).below hb⟩
theorem bytes_op : Try.prog.bytesOf 34 = 56 := by kernel_rfl
theorem ops_size {H : Type} {enc : TypeId × Value → H} {W : World} {a : Option Addr} {len cap : Nat} {d : DataW H} {p : List MemPlace}
    (h : DataW.Trod enc Try.prog W 0 (fun _ => true) true 22 (.slice a len cap) d p) :
    (d = .nil ∧ cap = 0) ∨ ∃ es sp, d = .slice es sp ∧ es.length + sp.length = cap := by
  obtain ⟨fuel, hf⟩ := h
  rcases Go.Deep.open_slice Try.underlying22 hf with ⟨hcs, hx⟩ | ⟨x, l, c, m, n, D, Pl, hcs, _, hl, hm, hmm, hx, hi⟩
  · simp [Value.cells] at hcs
    obtain ⟨rfl, rfl, rfl⟩ := hcs
    simp only [Prod.mk.injEq] at hx
    exact .inl ⟨hx.1, rfl⟩
  · simp [Value.cells] at hcs
    obtain ⟨rfl, rfl, rfl⟩ := hcs
    simp at hmm
    subst hmm
    simp only [Prod.mk.injEq] at hx
    refine .inr ⟨_, _, hx.1, ?_⟩
    simp
    omega
end Go.Proofs.Ytfgceplafjbmhaa
