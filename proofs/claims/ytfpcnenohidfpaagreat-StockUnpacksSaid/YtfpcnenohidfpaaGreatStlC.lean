/- A call with a list of goods that came in, by value and in lists. No condition. -/
import Derived.Test.YtfpcnenohidfpaaGreatIOpen
import Derived.Test.YtfpcnenohidfpaaGreatSmF
import Derived.ProofKit
import Derived.OpenShut
import Derived.ShutString
import Derived.ChangeOld
import Derived.SizedLaws
import Derived.ChangeArms
import Derived.ChangeMaps5
import Derived.Deep.Slices
namespace Go.Proofs.YtfpcnenohidfpaaGreat
open Go.RowKit
set_option linter.unusedVariables false

theorem cells_int : Tryz.prog.cellsOf 3 = 1 := by kernel_rfl
theorem cells_str : Tryz.prog.cellsOf 9 = 1 := by kernel_rfl
theorem cells_items : Tryz.prog.cellsOf 67 = 1 := by kernel_rfl
/-- A call. -/
structure OpV where
  i0 : Int
  g2 : List UInt8
  i3 : Int
  l : List It
structure OpVAt (w : World) (o : OpV) (A : Option Addr) (c : Nat) : Prop where
  il : IL w A o.l.length o.l
  wl : WL o.l
  cap : o.l.length ≤ c
  capm : c ≤ 9223372036854775807
  w0 : (Lit.int .i64 o.i0).wf = true
  w2 : o.g2.length ≤ maxLen
  w3 : (Lit.int .i64 o.i3).wf = true
theorem OpVAt.below {w w' : World} {o : OpV} {A : Option Addr} {c : Nat} (h : OpVAt w o A c) (hb : Below w.heap.size w w') : OpVAt w' o A c := ⟨h.il.below hb, h.wl, h.cap, h.capm, h.w0, h.w2, h.w3⟩
/-- A call, and where its list lies. -/
structure OpX where
  o : OpV
  A : Option Addr
  c : Nat
/-- The cells of a call, at off in block b. -/
structure OpAtX (w : World) (b off : Nat) (x : OpX) : Prop where
  c0 : w.cell? ⟨b, off, none⟩ = some (.int .i64 x.o.i0)
  c1 : w.cell? ⟨b, off + 1, none⟩ = some (.slice x.A x.o.l.length x.c)
  c2 : w.cell? ⟨b, off + 2, none⟩ = some (.string ⟨x.o.g2.toArray⟩)
  c3 : w.cell? ⟨b, off + 3, none⟩ = some (.int .i64 x.o.i3)
  at_ : OpVAt w x.o x.A x.c
/-- The slice reads as these calls. -/
def OPX (w : World) (A : Option Addr) (len : Nat) (f : Nat → OpX) : Prop :=
  0 < len → ∃ b off, A = some ⟨b, off, none⟩ ∧ b < w.heap.size ∧ ∀ i, i < len → OpAtX w b (off + i * 4) (f i)
theorem OpAtX.below {w w' : World} {b off : Nat} {x : OpX} (h : OpAtX w b off x) (hb : Below w.heap.size w w') : OpAtX w' b off x :=
  ⟨(hb.cell (World.block_lt_of_cell? _ _ h.c0)).trans h.c0, (hb.cell (World.block_lt_of_cell? _ _ h.c1)).trans h.c1, (hb.cell (World.block_lt_of_cell? _ _ h.c2)).trans h.c2, (hb.cell (World.block_lt_of_cell? _ _ h.c3)).trans h.c3, h.at_.below hb⟩
theorem OPX.below {w w' : World} {A : Option Addr} {len : Nat} {f : Nat → OpX} (h : OPX w A len f) (hb : Below w.heap.size w w') : OPX w' A len f := fun hl => by
  obtain ⟨b, off, e, hlt, h2⟩ := h hl
  exact ⟨b, off, e, Nat.lt_of_lt_of_le hlt hb.size, fun i hi => (h2 i hi).below hb⟩
end Go.Proofs.YtfpcnenohidfpaaGreat
