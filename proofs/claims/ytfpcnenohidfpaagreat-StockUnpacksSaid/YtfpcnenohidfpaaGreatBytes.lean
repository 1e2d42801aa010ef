/- What the laws' rows take of bytes that came in. No condition. -/
import Derived.Test.YtfpcnenohidfpaaGreatRefT
import Derived.Test.YtfpcnenohidfpaaGreatKept6
import Derived.Deep.RegionHeld3
namespace Go.Proofs.YtfpcnenohidfpaaGreat
open Go.RowKit
set_option linter.unusedVariables false

theorem bytes_u8 : Tryz.prog.bytesOf 5 = 1 := by kernel_rfl

def toBytes (zs : List Int) : List UInt8 := zs.map fun z => UInt8.ofNat z.toNat

theorem wf_u8 {z : Int} (h : (Lit.int .u8 z).wf = true) : 0 ≤ z ∧ z < 256 := by
  simp [Lit.wf, IntKind.min, IntKind.max, IntKind.signed, IntKind.bits] at h
  omega

open Go.ChangeShapes Go.WideShapes in
theorem bytes_open {H : Type} {enc : TypeId × Value → H} {W : World} {a : Option Addr} {len cap : Nat} {d : DataW H} {p : List MemPlace}
    (h : DataW.Trod enc Tryz.prog W 0 (fun _ => true) true 22 (.slice a len cap) d p) :
    ∃ l, RB W a len l ∧ len ≤ cap ∧ cap ≤ 9223372036854775807 ∧ ((d = .nil ∧ cap = 0) ∨ ∃ es sp, d = .slice es sp ∧ es.length + sp.length = cap) := by
  obtain ⟨fuel, hf⟩ := h
  rcases open_ints Tryz.underlying22 Tryz.underlying5 (by kernel_rfl) hf with ⟨hcs, hx⟩ | ⟨x, l, c, zs, hcs, _, hl, hm, hz, hx, hcell, hwz⟩
  · simp [Value.cells] at hcs
    obtain ⟨rfl, rfl, rfl⟩ := hcs
    simp only [Prod.mk.injEq] at hx
    exact ⟨[], RB.nil _ _, Nat.le_refl _, by omega, .inl ⟨hx.1, rfl⟩⟩
  · simp [Value.cells] at hcs
    obtain ⟨rfl, rfl, rfl⟩ := hcs
    simp at hz
    simp only [Prod.mk.injEq] at hx
    have hget : ∀ i, i < zs.length → zs.getD i 0 ∈ zs := fun i hi => by
      simp [List.getD, List.getElem?_eq_getElem hi]
    refine ⟨toBytes (zs.take len), ⟨by simp [toBytes]; omega, fun hn => ?_⟩, hl, by unfold maxLen at hm; omega, .inr ⟨_, _, hx.1, by simp [lits]; omega⟩⟩
    obtain ⟨b, off, spot⟩ := x
    have hspot : spot = none := by
      have := World.cell?_spot (hcell 0 (by omega))
      simpa [Addr.add] using this
    subst hspot
    refine ⟨b, off, rfl, fun j y hy => ?_⟩
    have hj : j < len := by
      have := (List.getElem?_eq_some_iff.1 hy).1
      simp [toBytes] at this
      omega
    have hc := hcell j (by omega)
    rw [Addr.add_lit] at hc
    rw [hc]
    have hw := wf_u8 (hwz _ (hget j (by omega)))
    rw [toBytes, List.getElem?_map, List.getElem?_take_of_lt hj, List.getElem?_eq_getElem (by omega)] at hy
    simp only [List.getD, List.getElem?_eq_getElem (show j < zs.length by omega), Option.getD_some] at hw ⊢
    simp at hy
    subst hy
    unfold bv
    congr 2
    simp
    omega
theorem wf_int {a : Int} (h : (Lit.int .i64 a).wf = true) : -9223372036854775808 ≤ a ∧ a ≤ 9223372036854775807 := by
  simpa [Lit.wf, IntKind.min, IntKind.max, IntKind.signed, IntKind.bits] using h

end Go.Proofs.YtfpcnenohidfpaaGreat
