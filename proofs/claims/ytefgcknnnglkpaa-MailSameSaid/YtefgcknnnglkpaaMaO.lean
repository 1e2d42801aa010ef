/- What a row takes of mail that came in by value. No condition. -/
import Derived.Test.YtefgcknnnglkpaaAOpen
import Derived.Test.YtefgcknnnglkpaaMaP
namespace Go.Proofs.Ytefgcknnnglkpaa
open Go.RowKit
set_option linter.unusedVariables false

theorem cells_err : Try.prog.cellsOf 25 = 1 := by kernel_rfl
theorem cells_ans : Try.prog.cellsOf 27 = 4 := by kernel_rfl
theorem cells_mail : Try.prog.cellsOf 29 = 16 := by kernel_rfl
/-- Its lists are no longer than lists are, its numbers are ints. -/
structure WFM (y : MV) : Prop where
  n : y.l.length ≤ 9223372036854775807
  an : y.a.l.length ≤ 9223372036854775807
  yn : -9223372036854775808 ≤ y.y.n ∧ y.y.n ≤ 9223372036854775807
set_option maxRecDepth 100000 in
open Go.ChangeShapes Go.WideShapes in
theorem ans_cells {H : Type} {enc : TypeId × Value → H} {w : World} {fuel : Nat} {c0 c1 c2 c3 : Value} {x : DataW H × List MemPlace}
    (h : DataW.trod enc Try.prog w 0 (fun _ => true) true fuel 27 [c0, c1, c2, c3] = some x) :
    ∃ y : AN, (c0 = .int .i64 y.c ∧ c1 = .int .i64 y.m ∧ c2 = .int .i64 y.e ∧ c3 = .int .i64 y.n) ∧ (Lit.int .i64 y.n).wf = true := by
  obtain ⟨xs, m, _, hx, _, hlen, hg⟩ := DataW.trod_struct Try.underlying27 h
  have h0 : DataW.trod enc Try.prog w 0 (fun _ => true) true m 3 (([c0, c1, c2, c3].drop 0).take (Try.prog.cellsOf 3)) = xs[0]? := hg 0 _ rfl
  have h1 : DataW.trod enc Try.prog w 0 (fun _ => true) true m 3 (([c0, c1, c2, c3].drop 1).take (Try.prog.cellsOf 3)) = xs[1]? := hg 1 _ rfl
  have h2 : DataW.trod enc Try.prog w 0 (fun _ => true) true m 25 (([c0, c1, c2, c3].drop 2).take (Try.prog.cellsOf 25)) = xs[2]? := hg 2 _ rfl
  have h3 : DataW.trod enc Try.prog w 0 (fun _ => true) true m 3 (([c0, c1, c2, c3].drop 3).take (Try.prog.cellsOf 3)) = xs[3]? := hg 3 _ rfl
  match xs, hlen with
  | [y0, y1, y2, y3], _ =>
    rw [cells_int] at h0 h1 h3
    rw [cells_err] at h2
    simp at h0 h1 h2 h3
    obtain ⟨v0, e0, x0, w0⟩ := DataW.trod_int Try.underlying3 h0
    obtain ⟨v1, e1, x1, w1⟩ := DataW.trod_int Try.underlying3 h1
    obtain ⟨v2, e2, x2, w2⟩ := DataW.trod_int Try.underlying25 h2
    obtain ⟨v3, e3, x3, w3⟩ := DataW.trod_int Try.underlying3 h3
    simp only [List.cons.injEq, and_true] at e0 e1 e2 e3
    exact ⟨⟨v0, v1, v2, v3⟩, ⟨e0, e1, e2, e3⟩, w3⟩
set_option maxRecDepth 100000 in
open Go.ChangeShapes Go.WideShapes in
theorem mail_cells {H : Type} {enc : TypeId × Value → H} {w : World} {fuel : Nat} {c0 c1 c2 c3 c4 c5 c6 c7 c8 c9 c10 c11 c12 c13 c14 c15 : Value} {x : DataW H × List MemPlace}
    (h : DataW.trod enc Try.prog w 0 (fun _ => true) true fuel 29 [c0, c1, c2, c3, c4, c5, c6, c7, c8, c9, c10, c11, c12, c13, c14, c15] = some x) :
    ∃ (y : MV) (A : Option Addr) (cap : Nat) (B : Option Addr) (capb : Nat), #[c0, c1, c2, c3, c4, c5, c6, c7, c8, c9, c10, c11, c12, c13, c14, c15] = y.cs A cap B capb ∧ IL w A y.l.length y.l ∧ IL w B y.a.l.length y.a.l ∧ WL y.l ∧ WL y.a.l ∧ WFM y := by
  obtain ⟨xs, m, _, hx, _, hlen, hg⟩ := DataW.trod_struct Try.underlying29 h
  have h0 : DataW.trod enc Try.prog w 0 (fun _ => true) true m 3 (([c0, c1, c2, c3, c4, c5, c6, c7, c8, c9, c10, c11, c12, c13, c14, c15].drop 0).take (Try.prog.cellsOf 3)) = xs[0]? := hg 0 _ rfl
  have h1 : DataW.trod enc Try.prog w 0 (fun _ => true) true m 3 (([c0, c1, c2, c3, c4, c5, c6, c7, c8, c9, c10, c11, c12, c13, c14, c15].drop 1).take (Try.prog.cellsOf 3)) = xs[1]? := hg 1 _ rfl
  have h2 : DataW.trod enc Try.prog w 0 (fun _ => true) true m 22 (([c0, c1, c2, c3, c4, c5, c6, c7, c8, c9, c10, c11, c12, c13, c14, c15].drop 2).take (Try.prog.cellsOf 22)) = xs[2]? := hg 2 _ rfl
  have h3 : DataW.trod enc Try.prog w 0 (fun _ => true) true m 24 (([c0, c1, c2, c3, c4, c5, c6, c7, c8, c9, c10, c11, c12, c13, c14, c15].drop 3).take (Try.prog.cellsOf 24)) = xs[3]? := hg 3 _ rfl
  have h4 : DataW.trod enc Try.prog w 0 (fun _ => true) true m 27 (([c0, c1, c2, c3, c4, c5, c6, c7, c8, c9, c10, c11, c12, c13, c14, c15].drop 12).take (Try.prog.cellsOf 27)) = xs[4]? := hg 4 _ rfl
  match xs, hlen with
  | [y0, y1, y2, y3, y4], _ =>
    rw [cells_int] at h0 h1
    rw [cells_its] at h2
    rw [cells_ask] at h3
    rw [cells_ans] at h4
    simp at h0 h1 h2 h3 h4
    obtain ⟨v0, e0, x0, w0⟩ := DataW.trod_int Try.underlying3 h0
    obtain ⟨v1, e1, x1, w1⟩ := DataW.trod_int Try.underlying3 h1
    simp only [List.cons.injEq, and_true] at e0 e1
    have key : ∃ (A : Option Addr) (len cap : Nat), c2 = .slice A len cap := by
      rcases DataW.trod_slice Try.underlying22 h2 with ⟨hcs, _⟩ | ⟨a, len, cap, _, _, _, _, hcs, _⟩
      · simp only [List.cons.injEq, and_true] at hcs
        exact ⟨none, 0, 0, hcs⟩
      · simp only [List.cons.injEq, and_true] at hcs
        exact ⟨some a, len, cap, hcs⟩
    obtain ⟨A, len, cap, rfl⟩ := key
    obtain ⟨l, hil, hwl, hlc, hcm, _⟩ := items_open (d := y2.1) (p := y2.2) ⟨m, by simpa [Value.cells] using h2⟩
    have hln := hil.len
    subst hln
    obtain ⟨ya, B, capb, ea, hial, hwla, hwfa⟩ := ask_cells h3
    obtain ⟨yy, ⟨f0, f1, f2, f3⟩, wy⟩ := ans_cells h4
    have wy2 := wf_int wy
    refine ⟨⟨v0, v1, l, ya, yy⟩, A, cap, B, capb, ?_, hil, hial, hwl, hwla, ⟨Nat.le_trans hlc hcm, hwfa.n, ⟨wy2.1, wy2.2⟩⟩⟩
    unfold AV.cs at ea
    simp only [Array.mk.injEq, List.cons.injEq, and_true] at ea
    obtain ⟨a0, a1, a2, a3, a4, a5, a6, a7, a8⟩ := ea
    subst e0 e1 f0 f1 f2 f3 a0 a1 a2 a3 a4 a5 a6 a7 a8
    rfl
set_option maxRecDepth 100000 in
open Go.ChangeShapes Go.WideShapes in
theorem mail_open {H : Type} {enc : TypeId × Value → H} {w : World} {r : Reach} {b0 : Nat} {v : Value} {d : DataW H} {p : List MemPlace}
    (hv : Value.okWide Try.prog w r b0 29 v) (h : DataW.Trod enc Try.prog w 0 (fun _ => true) true 29 v d p) :
    ∃ (y : MV) (A : Option Addr) (cap : Nat) (B : Option Addr) (capb : Nat), v = y.v A cap B capb ∧ IL w A y.l.length y.l ∧ IL w B y.a.l.length y.a.l ∧ WL y.l ∧ WL y.a.l ∧ WFM y := by
  obtain ⟨cs, rfl, hsz⟩ := okWide_struct Try.underlying29 hv
  rw [cells_mail] at hsz
  obtain ⟨l⟩ := cs
  match l, hsz with
  | [c0, c1, c2, c3, c4, c5, c6, c7, c8, c9, c10, c11, c12, c13, c14, c15], _ =>
    obtain ⟨fuel, hf⟩ := h
    obtain ⟨y, A, cap, B, capb, e, h1, h2, h3, h4, h5⟩ := mail_cells (by simpa [Value.cells] using hf)
    exact ⟨y, A, cap, B, capb, congrArg Value.agg e, h1, h2, h3, h4, h5⟩
end Go.Proofs.Ytefgcknnnglkpaa
