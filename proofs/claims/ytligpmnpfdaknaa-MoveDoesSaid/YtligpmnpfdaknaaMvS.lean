/- Moves: rising, of nil and of ones that are. -/
import Derived.Test.YtligpmnpfdaknaaMvG
import Derived.Test.YtligpmnpfdaknaaShelf
namespace Go.Proofs.Ytligpmnpfdaknaa
open Go.RowKit Go.Maps Go.Shelf Go.Sort
set_option linter.unusedVariables false
set_option linter.unusedSimpArgs false

set_option maxRecDepth 100000 in
theorem prising_nil (w : World) : Calls Try.prog 34 #[.pointer none] w fun e w' => e = .returned (.func (.func 51) #[] #[.pointer (some ⟨w.heap.size, 0, none⟩)]) ∧ w' = w.alloc (.cells #[.map none] 79) := by
  have hcl : ∀ w, Calls Try.prog 43 #[.map none] w fun e w' => e = .returned (.map none) ∧ w' = w := AnyW.maps_Clone_nil Try.cloneMWay
  go_enter Try.func34, Try.ntmps34
  go_wp2_with fail
  refine (pall_nil w).mono ?_
  rintro e w' ⟨rfl, hww⟩
  subst hww
  go_wp2_with fail
  refine (hcl _).mono ?_
  rintro e w' ⟨rfl, hww⟩
  subst hww
  go_wp2_with fail
  refine (kmap_make none _).mono ?_
  rintro e w' ⟨rfl, hww⟩
  subst hww
  go_wp2_with fail
  go_ret
  exact ⟨rfl, rfl⟩
set_option maxRecDepth 100000 in
/-- Of parcels that are: over a copy of the map, in a block of its own. -/
theorem prising_any {F : Nat → Prop} {w : World} {p b N : Nat} {f : Int → Rec} {ks : List Int} (h : PS F w p b N f ks) : Calls Try.prog 34 #[.pointer (some ⟨p, 0, none⟩)] w fun e w' => ∃ W D, e = .returned (.func (.func 51) #[] #[.pointer (some ⟨W.heap.size, 0, none⟩)]) ∧ w' = W.alloc (.cells #[.map (some w.heap.size)] 79) ∧ W.ownsMap Try.prog 3 rR w.heap.size N D ∧ PM D f ks ∧ Below w.heap.size w W := by
  obtain ⟨D, hm, hD⟩ := h.mp
  have hcl : Calls Try.prog 43 #[.map (some b)] w fun e w' => e = .returned (.map (some w.heap.size)) ∧ w'.ownsMap Try.prog 3 rR w.heap.size N D ∧ w'.ownsMap Try.prog 3 rR b N D ∧ Below w.heap.size w w' := AnyW.maps_Clone_owns Try.cloneMWay _ _ b N D w hm
  go_enter Try.func34, Try.ntmps34
  go_wp2_with fail
  refine (pall_any h).mono ?_
  rintro e w' ⟨rfl, hww⟩
  subst hww
  go_wp2_with fail
  refine hcl.mono ?_
  rintro e w1 ⟨rfl, hm1, _, hb1⟩
  go_wp2_with fail
  refine (kmap_make _ _).mono ?_
  rintro e w' ⟨rfl, hww⟩
  subst hww
  go_wp2_with fail
  go_ret
  exact ⟨_, D, rfl, rfl, hm1, hD, hb1⟩
end Go.Proofs.Ytligpmnpfdaknaa
