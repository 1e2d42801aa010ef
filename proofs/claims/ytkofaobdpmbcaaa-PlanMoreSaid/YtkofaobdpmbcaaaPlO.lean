/- What a row takes of a list of lists of goods that came in. No condition. -/
import Derived.Test.YtkofaobdpmbcaaaPlL
import Derived.ProofKit
import Derived.OpenShut
import Derived.ShutString
import Derived.ChangeOld
import Derived.SizedLaws
import Derived.ChangeArms
import Derived.Deep.Slices
namespace Go.Proofs.Ytkofaobdpmbcaaa
open Go.RowKit
set_option linter.unusedVariables false

set_option maxRecDepth 100000 in
open Go.ChangeShapes Go.WideShapes in
theorem irows_open {H : Type} {enc : TypeId × Value → H} {W : World} {a : Option Addr} {len cap : Nat} {d : DataW H} {p : List MemPlace}
    (h : DataW.Trod enc Try.prog W 0 (fun _ => true) true 27 (.slice a len cap) d p) :
    ∃ ls, RL W.heap.size W a len ls ∧ len ≤ cap ∧ cap ≤ 9223372036854775807 := by
  obtain ⟨fuel, hf⟩ := h
  rcases Go.Deep.open_slice1 Try.underlying27 (by kernel_rfl) hf with ⟨hcs, hx⟩ | ⟨x, l, c, m, n, V, D, Pl, hcs, _, hl, hm, hmm, hx, hi⟩
  · simp [Value.cells] at hcs
    obtain ⟨rfl, rfl, rfl⟩ := hcs
    exact ⟨[], RL.nil _ _ _, Nat.le_refl _, by omega⟩
  · simp [Value.cells] at hcs
    obtain ⟨rfl, rfl, rfl⟩ := hcs
    simp at hmm
    subst hmm
    obtain ⟨b, off, spot⟩ := x
    have key : ∀ i, ∃ y : List It × Option Addr × Nat, i < m → spot = none ∧ W.cell? ⟨b, off + i, none⟩ = some (.slice y.2.1 y.1.length y.2.2) ∧ IL W y.2.1 y.1.length y.1 ∧ y.1.length ≤ y.2.2 ∧ y.2.2 ≤ 9223372036854775807 ∧ WL y.1 := by
      intro i
      by_cases hil : i < m
      · obtain ⟨h0, t0⟩ := hi i hil
        have hspot : spot = none := by
          have := World.cell?_spot (hi 0 (by omega)).1
          simpa [Addr.add] using this
        subst hspot
        rw [Addr.add_lit] at h0
        have hsl : ∃ (A : Option Addr) (ln cp : Nat), V i = .slice A ln cp := by
          rcases DataW.trod_slice Try.underlying26 t0 with ⟨hcs, _⟩ | ⟨a', ln, cp, _, _, _, _, hcs, _⟩
          · simp only [List.cons.injEq, and_true] at hcs
            exact ⟨none, 0, 0, hcs⟩
          · simp only [List.cons.injEq, and_true] at hcs
            exact ⟨some a', ln, cp, hcs⟩
        obtain ⟨A, ln, cp, hV⟩ := hsl
        rw [hV] at h0 t0
        obtain ⟨y, hyl, hyw, hyc, hym, _⟩ := items_open (W := W) (d := D i) (p := Pl i) ⟨n, by simpa [Value.cells] using t0⟩
        have hyn := hyl.len
        subst hyn
        exact ⟨(y, A, cp), fun _ => ⟨rfl, h0, hyl, hyc, hym, hyw⟩⟩
      · exact ⟨([], none, 0), fun h => absurd h hil⟩
    refine ⟨(List.range len).map (fun i => (key i).choose.1), ⟨by simp, fun j x hx => ?_⟩, hl, by unfold maxLen at hm; omega⟩
    have hj : j < len := by
      have := (List.getElem?_eq_some_iff.1 hx).1
      simpa using this
    rw [List.getElem?_map, List.getElem?_range hj] at hx
    simp only [Option.map_some, Option.some.injEq] at hx
    subst hx
    obtain ⟨rfl, h0, h1, h2, h3, h4⟩ := (key j).choose_spec (by omega)
    exact ⟨b, off, _, _, rfl, h0, h1, h2, h3, h4, fun ad ha hl => h1.lt ad ha hl⟩
end Go.Proofs.Ytkofaobdpmbcaaa
