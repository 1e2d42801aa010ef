/- What the laws' rows take of a list of items that came in. No condition. -/
import Derived.Test.YtfpcnenohidfpaaGreatRMay
import Derived.ProofKit
import Derived.OpenShut
import Derived.ShutString
import Derived.ChangeOld
import Derived.SizedLaws
import Derived.ChangeArms
import Derived.Deep.Slices
import Derived.Deep.SlicePairs
namespace Go.Proofs.YtfpcnenohidfpaaGreat
open Go.RowKit
set_option linter.unusedVariables false

theorem own : ownKnob Tryz.prog.godebug = none := by kernel_rfl
theorem laidOut : laidOutB Tryz.prog = true := by kernel_rfl
theorem bytes_item : Tryz.prog.bytesOf 66 = 24 := by kernel_rfl

set_option maxRecDepth 100000 in
open Go.ChangeShapes Go.WideShapes in
theorem items_open {H : Type} {enc : TypeId × Value → H} {W : World} {a : Option Addr} {len cap : Nat} {d : DataW H} {p : List MemPlace}
    (h : DataW.Trod enc Tryz.prog W 0 (fun _ => true) true 67 (.slice a len cap) d p) :
    ∃ l, IL W a len l ∧ WL l ∧ len ≤ cap ∧ cap ≤ 9223372036854775807 ∧ ((d = .nil ∧ cap = 0) ∨ ∃ es sp, d = .slice es sp ∧ es.length + sp.length = cap) := by
  obtain ⟨fuel, hf⟩ := h
  rcases Go.Deep.open_slice_pairs Tryz.underlying67 Tryz.underlying66 (by kernel_rfl) rfl rfl (by kernel_rfl) (by kernel_rfl) hf with ⟨hcs, hx⟩ | ⟨x, l, c, m, n, V0, V1, D0, D1, P0, P1, hcs, _, hl, hm, hmm, hx, hi⟩
  · simp [Value.cells] at hcs
    obtain ⟨rfl, rfl, rfl⟩ := hcs
    simp only [Prod.mk.injEq] at hx
    exact ⟨[], IL.nil _ _, fun x h => by simp at h, Nat.le_refl _, by omega, .inl ⟨hx.1, rfl⟩⟩
  · simp [Value.cells] at hcs
    obtain ⟨rfl, rfl, rfl⟩ := hcs
    simp at hmm
    subst hmm
    simp only [Prod.mk.injEq] at hx
    obtain ⟨b, off, spot⟩ := x
    have key : ∀ i, ∃ y : It, i < m → (spot = none ∧ W.cell? ⟨b, off + i * 2, none⟩ = some (.string ⟨y.1.toArray⟩) ∧ W.cell? ⟨b, off + i * 2 + 1, none⟩ = some (.int .i64 y.2)) ∧ y.1.length ≤ maxLen ∧ (Lit.int .i64 y.2).wf = true := by
      intro i
      by_cases hil : i < m
      · obtain ⟨h0, h1, t0, t1⟩ := hi i hil
        obtain ⟨s, e0, x0, w0⟩ := DataW.trod_string Tryz.underlying9 t0
        obtain ⟨q, e1, x1, w1⟩ := DataW.trod_int Tryz.underlying3 t1
        simp only [List.cons.injEq, and_true] at e0 e1
        have hspot : spot = none := by
          have := World.cell?_spot (hi 0 (by omega)).1
          simpa [Addr.add] using this
        subst hspot
        rw [e0] at h0
        rw [e1] at h1
        rw [Addr.add_lit] at h0 h1
        refine ⟨(s.data.toList, q), fun _ => ⟨⟨rfl, ?_, h1⟩, ?_, w1⟩⟩
        · simpa using h0
        · rw [Array.length_toList]; exact w0
      · exact ⟨([], 0), fun h => absurd h hil⟩
    refine ⟨(List.range len).map (fun i => (key i).choose), ⟨by simp, fun j x hx => ?_⟩, fun x hx => ?_, hl, by unfold maxLen at hm; omega, .inr ⟨_, _, hx.1, by simp; omega⟩⟩
    · have hj : j < len := by
        have := (List.getElem?_eq_some_iff.1 hx).1
        simpa using this
      rw [List.getElem?_map, List.getElem?_range hj] at hx
      simp only [Option.map_some, Option.some.injEq] at hx
      subst hx
      obtain ⟨⟨rfl, h0, h1⟩, _⟩ := (key j).choose_spec (by omega)
      exact ⟨b, off, rfl, h0, h1⟩
    · rw [List.mem_map] at hx
      obtain ⟨i, hi, rfl⟩ := hx
      rw [List.mem_range] at hi
      exact ((key i).choose_spec (by omega)).2
theorem WL.long {l : List It} (h : WL l) : ∀ x ∈ l, x.1.length ≤ 9223372036854775807 := fun x hx => by
  have := (h x hx).1
  unfold maxLen at this
  omega
end Go.Proofs.YtfpcnenohidfpaaGreat
