/- Are two lists the same? And what the document says of sums of one good, and of what is left. No condition but that the lists are ones of memory. -/
import Derived.Test.YtfpcnenohidfpaaGreatLives6
namespace Go.Proofs.YtfpcnenohidfpaaGreat
open Go.RowKit Go.Maps Go.Shelf Go.Sort
set_option linter.unusedVariables false
set_option linter.unusedSimpArgs false

theorem run_item_neq (s1 s2 : List UInt8) (q1 q2 : Int) (c : Bool) (hc : (decide (s1 = s2) && (q1 == q2)) = c) (W : World) : (binOp .neq 66 (.agg #[.string ⟨s1.toArray⟩, .int .i64 q1]) (.agg #[.string ⟨s2.toArray⟩, .int .i64 q2])).run Tryz.prog W = .ok (.bool (!c)) W := by
  have hS : Tryz.prog.underlying 66 = some (.struct (Tryz.prog.fieldsOf 66)) := by kernel_rfl
  have hp : Tryz.prog.stoodInHeld 66 = false := by kernel_rfl
  have u3 := Tryz.underlying3
  have u9 := Tryz.underlying9
  have a3 := Tryz.isAgg3
  have a9 := Tryz.isAgg9
  have z3 := Tryz.sizeOf3
  have z9 := Tryz.sizeOf9
  rw [run_neq_struct, show (10000 : Nat) = 9999 + 1 from rfl, run_equalIn_agg W 9999 _ _ _ hS hp]
  simp only [Program.fieldsOf, Tryz.underlying66]
  subst hc
  go_simp
  by_cases h1 : s1 = s2 <;> by_cases h2 : q1 = q2 <;> simp [h1, h2]
theorem item_guard : Tryz.prog.eqGuardType Tryz.prog.depth 66 = false := by kernel_rfl
theorem take_eq {l l' : List It} {k : Nat} {x y : It} (h : l.take k = l'.take k) (hx : l[k]? = some x) (hy : l'[k]? = some y) (e : x = y) : l.take (k + 1) = l'.take (k + 1) := by
  rw [List.take_add_one, List.take_add_one, h, hx, hy, e]

end Go.Proofs.YtfpcnenohidfpaaGreat
