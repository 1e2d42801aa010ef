/- What a row takes of one call of the sector's laws that came in by value. No condition. -/
import Derived.Test.YtakgmddmlcngoaaOp3
namespace Go.Proofs.Ytakgmddmlcngoaa
open Go.RowKit
set_option linter.unusedVariables false

set_option maxRecDepth 100000 in
open Go.ChangeShapes Go.WideShapes in
theorem op_open {H : Type} {enc : TypeId × Value → H} {w : World} {r : Reach} {b0 : Nat} {v : Value} {d : DataW H} {p : List MemPlace}
    (hv : Value.okWide Try.prog w r b0 34 v) (h : DataW.Trod enc Try.prog w 0 (fun _ => true) true 34 v d p) :
    ∃ o : OpV3, v = .agg #[.int .i64 o.k, .int .i64 o.i, .int .i64 o.n, .int .u8 (o.b.toNat : Int), .slice o.A o.q o.c, .slice o.B o.bl o.bc] := by
  obtain ⟨cs, rfl, hsz⟩ := okWide_struct Try.underlying34 hv
  rw [cells_op] at hsz
  obtain ⟨l⟩ := cs
  match l, hsz with
  | [c0, c1, c2, c3, c4, c5], _ =>
    obtain ⟨fuel, hf⟩ := h
    obtain ⟨o, rfl, rfl, rfl, rfl, rfl, rfl, _⟩ := op_cells (by simpa [Value.cells] using hf)
    exact ⟨o, rfl⟩
end Go.Proofs.Ytakgmddmlcngoaa
