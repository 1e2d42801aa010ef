/- What a call of the statements' kind (Op) reads as, when it comes in. No condition. -/
import Derived.Test.YtdelbddgaekkaaaLaw
import Derived.ChangeArms
namespace Go.Proofs.Ytdelbddgaekkaaa
open Go.RowKit
set_option linter.unusedVariables false

theorem cells_int : Try.prog.cellsOf 3 = 1 := by kernel_rfl
theorem cells_str : Try.prog.cellsOf 9 = 1 := by kernel_rfl
theorem cells_op : Try.prog.cellsOf 40 = 5 := by kernel_rfl

open Go.ChangeShapes Go.WideShapes in
theorem op_cells {H : Type} {enc : TypeId × Value → H} {w : World} {base fuel : Nat} {spare : Nat → Bool} {held : Bool} {c0 c1 c2 c3 c4 : Value} {x : DataW H × List MemPlace}
    (h : DataW.trod enc Try.prog w base spare held fuel 40 [c0, c1, c2, c3, c4] = some x) :
    ∃ (k n le mo : Int) (s : ByteArray) (q : List MemPlace), c0 = .int .i64 k ∧ c1 = .int .i64 n ∧ c2 = .string s ∧ c3 = .int .i64 le ∧ c4 = .int .i64 mo ∧ s.size ≤ maxLen ∧
      (Lit.int .i64 k).wf = true ∧ (Lit.int .i64 n).wf = true ∧ (Lit.int .i64 le).wf = true ∧ (Lit.int .i64 mo).wf = true ∧
      x = (.agg [.lit (.int .i64 k), .lit (.int .i64 n), .lit (.string s.data.toList), .lit (.int .i64 le), .lit (.int .i64 mo)], q) := by
  obtain ⟨xs, m, _, hx, _, hlen, hg⟩ := DataW.trod_struct Try.underlying40 h
  have h0 : DataW.trod enc Try.prog w base spare held m 3 (([c0, c1, c2, c3, c4].drop 0).take (Try.prog.cellsOf 3)) = xs[0]? := hg 0 _ rfl
  have h1 : DataW.trod enc Try.prog w base spare held m 3 (([c0, c1, c2, c3, c4].drop 1).take (Try.prog.cellsOf 3)) = xs[1]? := hg 1 _ rfl
  have h2 : DataW.trod enc Try.prog w base spare held m 9 (([c0, c1, c2, c3, c4].drop 2).take (Try.prog.cellsOf 9)) = xs[2]? := hg 2 _ rfl
  have h3 : DataW.trod enc Try.prog w base spare held m 3 (([c0, c1, c2, c3, c4].drop 3).take (Try.prog.cellsOf 3)) = xs[3]? := hg 3 _ rfl
  have h4 : DataW.trod enc Try.prog w base spare held m 3 (([c0, c1, c2, c3, c4].drop 4).take (Try.prog.cellsOf 3)) = xs[4]? := hg 4 _ rfl
  match xs, hlen with
  | [y0, y1, y2, y3, y4], _ =>
    rw [cells_int] at h0 h1 h3 h4
    rw [cells_str] at h2
    simp at h0 h1 h2 h3 h4
    obtain ⟨k, e0, x0, w0⟩ := DataW.trod_int Try.underlying3 h0
    obtain ⟨n, e1, x1, w1⟩ := DataW.trod_int Try.underlying3 h1
    obtain ⟨s, e2, x2, w2⟩ := DataW.trod_string Try.underlying9 h2
    obtain ⟨le, e3, x3, w3⟩ := DataW.trod_int Try.underlying3 h3
    obtain ⟨mo, e4, x4, w4⟩ := DataW.trod_int Try.underlying3 h4
    simp only [List.cons.injEq, and_true] at e0 e1 e2 e3 e4
    subst e0 e1 e2 e3 e4
    subst x0 x1 x2 x3 x4
    exact ⟨k, n, le, mo, s, _, rfl, rfl, rfl, rfl, rfl, w2, w0, w1, w3, w4, hx⟩

open Go.ChangeShapes Go.WideShapes in
theorem op_open {H : Type} {enc : TypeId × Value → H} {w : World} {base : Nat} {spare : Nat → Bool} {held : Bool} {r : Reach} {b0 : Nat} {v : Value} {d : DataW H} {p : List MemPlace}
    (hv : Value.okWide Try.prog w r b0 40 v) (h : DataW.Trod enc Try.prog w base spare held 40 v d p) :
    ∃ (k n le mo : Int) (s : ByteArray), v = .agg #[.int .i64 k, .int .i64 n, .string s, .int .i64 le, .int .i64 mo] ∧ s.size ≤ 9223372036854775807 ∧ (Lit.int .i64 n).wf = true := by
  obtain ⟨cs, rfl, hsz⟩ := okWide_struct Try.underlying40 hv
  rw [cells_op] at hsz
  obtain ⟨l⟩ := cs
  match l, hsz with
  | [c0, c1, c2, c3, c4], _ =>
    obtain ⟨fuel, hf⟩ := h
    obtain ⟨k, n, le, mo, s, q, rfl, rfl, rfl, rfl, rfl, hs, _, wn, _, _, _⟩ := op_cells (by simpa [Value.cells] using hf)
    exact ⟨k, n, le, mo, s, rfl, by unfold maxLen at hs; omega, wn⟩
end Go.Proofs.Ytdelbddgaekkaaa
