/- A device's map of what was written last: its reader. No condition. -/
import Derived.Test.YtakgmddmlcngoaaRefuse
namespace Go.Proofs.Ytakgmddmlcngoaa
open Go.RowKit Go.Maps
set_option linter.unusedVariables false
set_option linter.unusedSimpArgs false

/-- How an element reads: whole, as it stands. -/
def bR (v : Value) : Option (DataW Value × List MemPlace) := some (.held v, [])
theorem bR_inv {v : Value} {d : DataW Value} {ps : List MemPlace} (h : bR v = some (d, ps)) : d = .held v := by cases h; rfl


theorem ownsMap_kept {S : Nat → Prop} {w w' : World} {R : Value → Option (DataW Value × List MemPlace)} {k : TypeId} {b n : Nat} {D : DataW Value} (h : w.ownsMap Try.prog k R b n D) (hk : Keep S w w') (hs : ¬ S b) : w'.ownsMap Try.prog k R b n D := by
  obtain ⟨es, clock, hb, F, hn, hD⟩ := h
  exact ⟨es, clock, (hk.block b (Array.getElem?_eq_some_iff.1 hb).1 hs).trans hb, F, hn, hD⟩

/-- A device: its own cells, the sure row (sectors of 64 bytes), the map of what was written last. -/
structure DEV (w : World) (g n bm gs : Nat) (left wr fl : Int) (sure : List (List UInt8)) (D : DataW Value) (N : Nat) : Prop where
  db : DB w g (some ⟨gs, 0, none⟩) n n bm left wr fl
  len : sure.length = n
  each : ∀ b ∈ sure, b.length = 64
  row : Blk w gs 92 (sure.flatten.map bv).toArray
  mp : w.ownsMap Try.prog 3 bR bm N D
  gb : g ≠ bm
  gg : g ≠ gs
  bg : bm ≠ gs
section
variable {w w' : World} {g n bm gs N : Nat} {left wr fl : Int} {sure : List (List UInt8)} {D : DataW Value}
theorem DEV.lt (h : DEV w g n bm gs left wr fl sure D N) : g < w.heap.size ∧ gs < w.heap.size ∧ bm < w.heap.size := by
  obtain ⟨es, clock, hb, _⟩ := h.mp
  exact ⟨Blk.lt h.db, h.row.lt, (Array.getElem?_eq_some_iff.1 hb).1⟩
theorem DEV.kept {S : Nat → Prop} (h : DEV w g n bm gs left wr fl sure D N) (k : Keep S w w') (h1 : ¬ S g) (h2 : ¬ S gs) (h3 : ¬ S bm) : DEV w' g n bm gs left wr fl sure D N :=
  ⟨h.db.kept k h1, h.len, h.each, h.row.kept k h2, ownsMap_kept h.mp k h3, h.gb, h.gg, h.bg⟩
theorem DEV.below (h : DEV w g n bm gs left wr fl sure D N) (k : Below w.heap.size w w') : DEV w' g n bm gs left wr fl sure D N := by
  obtain ⟨h1, h2, h3⟩ := h.lt
  exact h.kept (Keep.of_below k) (by omega) (by omega) (by omega)
end
end Go.Proofs.Ytakgmddmlcngoaa
