/- entrepotref19.Same of what is told of nobody. No condition. -/
import Derived.Test.YtligpmnpfdaknaaMvW
namespace Go.Proofs.Ytligpmnpfdaknaa
open Go.RowKit Go.Maps Go.Shelf Go.Sort
set_option linter.unusedVariables false
set_option linter.unusedSimpArgs false

set_option maxRecDepth 100000 in
set_option maxHeartbeats 3200000 in
theorem rsame_nil (A : Option Addr) (a : Nat) (w : World) : Calls Try.prog 18 #[.agg #[.int .i64 0, .int .i64 0, .int .i64 0, .slice A 0 a, .bool false], .agg #[.int .i64 0, .int .i64 0, .int .i64 0, .slice none 0 0, .bool false]] w fun e w' => e = .returned (.bool true) ∧ Below w.heap.size w w' := by
  have hs := fun (W : World) => same_b A none 0 a 0 0 [] [] W (IL.nil _ _) (IL.nil _ _) (by decide)
  rw [show decide (([] : List It) = []) = true from rfl] at hs
  have hb := ((Below.refl w.heap.size w).alloc (Nat.le_refl _) (.cells #[.int .i64 0, .int .i64 0, .int .i64 0, .slice A 0 a, .bool false] 42)).alloc (by simp) (.cells #[.int .i64 0, .int .i64 0, .int .i64 0, .slice none 0 0, .bool false] 42)
  have eA := (Blk.new w 42 #[.int .i64 0, .int .i64 0, .int .i64 0, .slice A 0 a, .bool false]).alloc (.cells #[.int .i64 0, .int .i64 0, .int .i64 0, .slice none 0 0, .bool false] 42)
  have eZ := Blk.new (w.alloc (.cells #[.int .i64 0, .int .i64 0, .int .i64 0, .slice A 0 a, .bool false] 42)) 42 #[.int .i64 0, .int .i64 0, .int .i64 0, .slice none 0 0, .bool false]
  rw [World.size_alloc] at eZ
  have hz : ((w.alloc (.cells #[.int .i64 0, .int .i64 0, .int .i64 0, .slice A 0 a, .bool false] 42)).alloc (.cells #[.int .i64 0, .int .i64 0, .int .i64 0, .slice none 0 0, .bool false] 42)).heap.size = w.heap.size + 2 := by simp
  go_enter Try.func18, Try.ntmps18
  go_wp2_with fail
  refine (hs _).mono ?_
  rintro e w1 ⟨rfl, h1⟩
  rw [hz] at h1
  replace hb := hb.trans (h1.mono (by omega))
  have a1 := (eA.kept (Keep.of_below h1) (by omega)).cell 4
  have a2 := (eZ.kept (Keep.of_below h1) (by omega)).cell 4
  simp at a1 a2
  go_wp2
  go_ret
  exact ⟨rfl, hb⟩
end Go.Proofs.Ytligpmnpfdaknaa
