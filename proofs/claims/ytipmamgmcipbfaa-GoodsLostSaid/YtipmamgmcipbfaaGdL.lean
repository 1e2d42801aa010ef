/- Ints that came in; several stocks and a list beside them. No condition. -/
import Derived.Test.YtipmamgmcipbfaaGdK
import Derived.Test.YtipmamgmcipbfaaStlD
namespace Go.Proofs.Ytipmamgmcipbfaa
open Go.RowKit Go.Maps Go.Shelf Go.Sort
set_option linter.unusedVariables false
set_option linter.unusedSimpArgs false

theorem AS.keptO {w w' : World} {P : List (Nat × Nat)} {l : List Sk} {M base : Nat} {v : Value} {vs : List Value} (h : AS w P l M) (ho : PO base w v vs) (hk : Keep (fun k => v.ownBlock = some k) w w') : AS w' P l M :=
  ⟨h.len, fun i p b hi => by
    obtain ⟨x, N, h1, h2, h3, h4⟩ := h.at_ i p b hi
    refine ⟨x, N, h1, h2, h3.kept hk (fun e => ?_) (fun e => ho.nb h3 _ e rfl), h4⟩
    obtain ⟨cs, fr, h5⟩ := ho.blk _ e
    have h6 := h3.pc
    rw [show w.heap[p]? = _ from h6] at h5
    injection h5 with h5
    injection h5 with _ h5
    exact absurd h5 (by decide), h.apart⟩
theorem PO.below {base : Nat} {w w' : World} {v : Value} {l : List Value} (h : PO base w v l) (k : Below w.heap.size w w') : PO base w' v l := h.kept (Keep.of_below k) fun g hg => by have := (h.lt g hg).2; omega
theorem map_set_v (l : List Sk) (i : Nat) (x y : Sk) (hx : l[i]? = some x) (hv : y.v = x.v) : (l.set i y).map Sk.v = l.map Sk.v := by
  rw [List.map_set, hv]
  have h : (l.map Sk.v)[i]? = some x.v := by rw [List.getElem?_map, hx]; rfl
  obtain ⟨hi, h2⟩ := List.getElem?_eq_some_iff.1 h
  rw [← h2, List.set_getElem_self]
/-- What was sent is not less than what came. -/
def WayS (l : List Sk) : Prop := ∀ g, cmS l g ≤ seS l g
theorem WayS.same {l : List Sk} {i : Nat} {x y : Sk} (h : WayS l) (hx : l[i]? = some x) (hy : ∀ g, (y.f g).se = (x.f g).se ∧ (y.f g).cm = (x.f g).cm) : WayS (l.set i y) := fun g => by
  have h1 := sum_set (fun x => (x.f g).cm) l i x y hx
  have h2 := sum_set (fun x => (x.f g).se) l i x y hx
  have h3 := h g
  have h4 := hy g
  unfold cmS seS at *
  omega
/-- Sent by one, come to another one, or not. -/
theorem WayS.sent {l : List Sk} {i j : Nat} {x y x2 y2 : Sk} {L : List It} (h : WayS l) (hx : l[i]? = some x) (hsx : SB x.f x.ks) (h0 : doE x.f x.ks 10 L = 0) (hy : y.f = doF x.f x.ks 10 L) (hx2 : (l.set i y)[j]? = some x2) (hs2 : SB x2.f x2.ks) (hy2 : y2.f = doF x2.f x2.ks 11 L) : WayS ((l.set i y).set j y2) := fun g => by
  have a1 := sum_set (fun x => (x.f g).cm) l i x y hx
  have a2 := sum_set (fun x => (x.f g).se) l i x y hx
  have b1 := sum_set (fun x => (x.f g).cm) (l.set i y) j x2 y2 hx2
  have b2 := sum_set (fun x => (x.f g).se) (l.set i y) j x2 y2 hx2
  have h3 := h g
  have h4 := way_send hsx h0 g
  have h5 := way_come hs2 (doE_zero h0).2.1 g
  rw [← hy] at h4
  rw [← hy2] at h5
  unfold cmS seS at *
  omega
theorem WayS.none (l : List Sk) (h : ∀ x ∈ l, x.f = fun _ => row0) : WayS l := fun g => by
  unfold cmS seS
  have : ∀ (l : List Sk), (∀ x ∈ l, x.f = fun _ => row0) → (l.map fun x => (x.f g).cm).sum = 0 ∧ (l.map fun x => (x.f g).se).sum = 0 := fun l => by
    induction l with
    | nil => intro _; exact ⟨rfl, rfl⟩
    | cons x l ih =>
      intro h
      obtain ⟨h1, h2⟩ := ih fun y hy => h y (by simp [hy])
      rw [List.map_cons, List.sum_cons, List.map_cons, List.sum_cons, h1, h2, h x (by simp)]
      exact ⟨rfl, rfl⟩
  have := this l h
  omega
open Go.ChangeShapes Go.WideShapes in
theorem ints_open {H : Type} {enc : TypeId × Value → H} {W : World} {a : Option Addr} {len cap : Nat} {d : DataW H} {p : List MemPlace}
    (h : DataW.Trod enc Try.prog W 0 (fun _ => true) true 47 (.slice a len cap) d p) :
    ∃ l : List Int, VL W a len (l.map (Value.int .i64)) ∧ len ≤ cap ∧ cap ≤ 9223372036854775807 := by
  obtain ⟨fuel, hf⟩ := h
  rcases open_ints Try.underlying47 Try.underlying3 (by kernel_rfl) hf with ⟨hcs, hx⟩ | ⟨x, l, c, zs, hcs, _, hl, hm, hz, hx, hcell, hwz⟩
  · simp [Value.cells] at hcs
    obtain ⟨rfl, rfl, rfl⟩ := hcs
    exact ⟨[], VL.nil _ _, Nat.le_refl _, by omega⟩
  · simp [Value.cells] at hcs
    obtain ⟨rfl, rfl, rfl⟩ := hcs
    simp at hz
    refine ⟨zs.take len, ⟨by simp; omega, fun j y0 hy0 => ?_⟩, hl, by unfold maxLen at hm; omega⟩
    rw [List.getElem?_map] at hy0
    obtain ⟨y, hy, rfl⟩ := Option.map_eq_some_iff.1 hy0
    have hj : j < len := by
      have := (List.getElem?_eq_some_iff.1 hy).1
      simp at this
      omega
    obtain ⟨b, off, spot⟩ := x
    have hspot : spot = none := by
      have := World.cell?_spot (hcell 0 (by omega))
      simpa [Addr.add] using this
    subst hspot
    have hc := hcell j (by omega)
    rw [Addr.add_lit] at hc
    refine ⟨b, off, rfl, ?_⟩
    rw [hc]
    rw [List.getElem?_take_of_lt hj, List.getElem?_eq_getElem (by omega)] at hy
    simp only [List.getD, List.getElem?_eq_getElem (show j < zs.length by omega), Option.getD_some]
    simp at hy
    rw [hy]
end Go.Proofs.Ytipmamgmcipbfaa
