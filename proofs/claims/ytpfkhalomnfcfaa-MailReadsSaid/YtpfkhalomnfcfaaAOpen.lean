/- What a row takes of a request that came in by value. No condition. -/
import Derived.Test.YtpfkhalomnfcfaaAskL
import Derived.ChangeArms
import Derived.ChangeMaps5
namespace Go.Proofs.Ytpfkhalomnfcfaa
open Go.RowKit
set_option linter.unusedVariables false

theorem cells_int : Try.prog.cellsOf 3 = 1 := by kernel_rfl
theorem cells_str : Try.prog.cellsOf 9 = 1 := by kernel_rfl
theorem cells_its : Try.prog.cellsOf 22 = 1 := by kernel_rfl
theorem cells_ask : Try.prog.cellsOf 24 = 9 := by kernel_rfl
/-- Its numbers are ints, its texts are no longer than texts are. -/
structure WFA (y : AV) : Prop where
  c : (Lit.int .i64 y.c).wf = true
  m : (Lit.int .i64 y.m).wf = true
  k : (Lit.int .i64 y.k).wf = true
  g : y.g.length ≤ maxLen
  n : y.l.length ≤ 9223372036854775807

set_option maxRecDepth 100000 in
open Go.ChangeShapes Go.WideShapes in
theorem ask_cells {H : Type} {enc : TypeId × Value → H} {w : World} {fuel : Nat} {c0 c1 c2 c3 c4 c5 c6 c7 c8 : Value} {x : DataW H × List MemPlace}
    (h : DataW.trod enc Try.prog w 0 (fun _ => true) true fuel 24 [c0, c1, c2, c3, c4, c5, c6, c7, c8] = some x) :
    ∃ (y : AV) (A : Option Addr) (cap : Nat), #[c0, c1, c2, c3, c4, c5, c6, c7, c8] = y.cs A cap ∧ IL w A y.l.length y.l ∧ WL y.l ∧ WFA y := by
  obtain ⟨xs, m, _, hx, _, hlen, hg⟩ := DataW.trod_struct Try.underlying24 h
  have h0 : DataW.trod enc Try.prog w 0 (fun _ => true) true m 3 (([c0, c1, c2, c3, c4, c5, c6, c7, c8].drop 0).take (Try.prog.cellsOf 3)) = xs[0]? := hg 0 _ rfl
  have h1 : DataW.trod enc Try.prog w 0 (fun _ => true) true m 3 (([c0, c1, c2, c3, c4, c5, c6, c7, c8].drop 1).take (Try.prog.cellsOf 3)) = xs[1]? := hg 1 _ rfl
  have h2 : DataW.trod enc Try.prog w 0 (fun _ => true) true m 3 (([c0, c1, c2, c3, c4, c5, c6, c7, c8].drop 2).take (Try.prog.cellsOf 3)) = xs[2]? := hg 2 _ rfl
  have h3 : DataW.trod enc Try.prog w 0 (fun _ => true) true m 3 (([c0, c1, c2, c3, c4, c5, c6, c7, c8].drop 3).take (Try.prog.cellsOf 3)) = xs[3]? := hg 3 _ rfl
  have h4 : DataW.trod enc Try.prog w 0 (fun _ => true) true m 3 (([c0, c1, c2, c3, c4, c5, c6, c7, c8].drop 4).take (Try.prog.cellsOf 3)) = xs[4]? := hg 4 _ rfl
  have h5 : DataW.trod enc Try.prog w 0 (fun _ => true) true m 3 (([c0, c1, c2, c3, c4, c5, c6, c7, c8].drop 5).take (Try.prog.cellsOf 3)) = xs[5]? := hg 5 _ rfl
  have h6 : DataW.trod enc Try.prog w 0 (fun _ => true) true m 3 (([c0, c1, c2, c3, c4, c5, c6, c7, c8].drop 6).take (Try.prog.cellsOf 3)) = xs[6]? := hg 6 _ rfl
  have h7 : DataW.trod enc Try.prog w 0 (fun _ => true) true m 9 (([c0, c1, c2, c3, c4, c5, c6, c7, c8].drop 7).take (Try.prog.cellsOf 9)) = xs[7]? := hg 7 _ rfl
  have h8 : DataW.trod enc Try.prog w 0 (fun _ => true) true m 22 (([c0, c1, c2, c3, c4, c5, c6, c7, c8].drop 8).take (Try.prog.cellsOf 22)) = xs[8]? := hg 8 _ rfl
  match xs, hlen with
  | [y0, y1, y2, y3, y4, y5, y6, y7, y8], _ =>
    rw [cells_int] at h0 h1 h2 h3 h4 h5 h6
    rw [cells_str] at h7
    rw [cells_its] at h8
    simp at h0 h1 h2 h3 h4 h5 h6 h7 h8
    obtain ⟨v0, e0, x0, w0⟩ := DataW.trod_int Try.underlying3 h0
    obtain ⟨v1, e1, x1, w1⟩ := DataW.trod_int Try.underlying3 h1
    obtain ⟨v2, e2, x2, w2⟩ := DataW.trod_int Try.underlying3 h2
    obtain ⟨v3, e3, x3, w3⟩ := DataW.trod_int Try.underlying3 h3
    obtain ⟨v4, e4, x4, w4⟩ := DataW.trod_int Try.underlying3 h4
    obtain ⟨v5, e5, x5, w5⟩ := DataW.trod_int Try.underlying3 h5
    obtain ⟨v6, e6, x6, w6⟩ := DataW.trod_int Try.underlying3 h6
    obtain ⟨s7, e7, x7, w7⟩ := DataW.trod_string Try.underlying9 h7
    simp only [List.cons.injEq, and_true] at e0 e1 e2 e3 e4 e5 e6 e7
    have key : ∃ (A : Option Addr) (len cap : Nat), c8 = .slice A len cap := by
      rcases DataW.trod_slice Try.underlying22 h8 with ⟨hcs, _⟩ | ⟨a, len, cap, _, _, _, _, hcs, _⟩
      · simp only [List.cons.injEq, and_true] at hcs
        exact ⟨none, 0, 0, hcs⟩
      · simp only [List.cons.injEq, and_true] at hcs
        exact ⟨some a, len, cap, hcs⟩
    obtain ⟨A, len, cap, rfl⟩ := key
    obtain ⟨l, hil, hwl, hlc, hcm, _⟩ := items_open (d := y8.1) (p := y8.2) ⟨m, by simpa [Value.cells] using h8⟩
    have hln := hil.len
    subst hln
    refine ⟨⟨v0, v1, v2, v3, v4, v5, v6, s7.data.toList, l⟩, A, cap, ?_, hil, hwl, ⟨w0, w1, w2, by rw [Array.length_toList]; exact w7, Nat.le_trans hlc hcm⟩⟩
    subst e0 e1 e2 e3 e4 e5 e6 e7
    rfl
set_option maxRecDepth 100000 in
open Go.ChangeShapes Go.WideShapes in
theorem ask_open {H : Type} {enc : TypeId × Value → H} {w : World} {r : Reach} {b0 : Nat} {v : Value} {d : DataW H} {p : List MemPlace}
    (hv : Value.okWide Try.prog w r b0 24 v) (h : DataW.Trod enc Try.prog w 0 (fun _ => true) true 24 v d p) :
    ∃ (y : AV) (A : Option Addr) (cap : Nat), v = y.v A cap ∧ IL w A y.l.length y.l ∧ WL y.l ∧ WFA y := by
  obtain ⟨cs, rfl, hsz⟩ := okWide_struct Try.underlying24 hv
  rw [cells_ask] at hsz
  obtain ⟨l⟩ := cs
  match l, hsz with
  | [c0, c1, c2, c3, c4, c5, c6, c7, c8], _ =>
    obtain ⟨fuel, hf⟩ := h
    obtain ⟨y, A, cap, e, h1, h2, h3⟩ := ask_cells (by simpa [Value.cells] using hf)
    exact ⟨y, A, cap, congrArg Value.agg e, h1, h2, h3⟩
end Go.Proofs.Ytpfkhalomnfcfaa
