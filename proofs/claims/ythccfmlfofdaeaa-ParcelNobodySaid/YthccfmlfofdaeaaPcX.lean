/- entrepotref17.Same of what is told of nobody. No condition. -/
import Derived.Test.YthccfmlfofdaeaaPcW
import Derived.Test.YthccfmlfofdaeaaPcR
import Derived.Test.YthccfmlfofdaeaaKept6
namespace Go.Proofs.Ythccfmlfofdaeaa
open Go.RowKit Go.Maps Go.Shelf Go.Sort
set_option linter.unusedVariables false
set_option linter.unusedSimpArgs false

set_option maxRecDepth 100000 in
set_option maxHeartbeats 3200000 in
theorem rsame_nil (A B C : Option Addr) (a b c : Nat) (w : World) : Calls Try.prog 15 #[.agg #[.int .i64 0, .slice A 0 a, .slice B 0 b, .slice C 0 c], .agg #[.int .i64 0, .slice none 0 0, .slice none 0 0, .slice none 0 0]] w fun e w' => e = .returned (.bool true) ∧ Below w.heap.size w w' := by
  have hs := fun (X : Option Addr) (x : Nat) (W : World) => same_b X none 0 x 0 0 [] [] W (IL.nil _ _) (IL.nil _ _) (by decide)
  rw [show decide (([] : List It) = []) = true from rfl] at hs
  have hb := ((Below.refl w.heap.size w).alloc (Nat.le_refl _) (.cells #[.int .i64 0, .slice A 0 a, .slice B 0 b, .slice C 0 c] 35)).alloc (by simp) (.cells #[.int .i64 0, .slice none 0 0, .slice none 0 0, .slice none 0 0] 35)
  have eA := (Blk.new w 35 #[.int .i64 0, .slice A 0 a, .slice B 0 b, .slice C 0 c]).alloc (.cells #[.int .i64 0, .slice none 0 0, .slice none 0 0, .slice none 0 0] 35)
  have eZ := Blk.new (w.alloc (.cells #[.int .i64 0, .slice A 0 a, .slice B 0 b, .slice C 0 c] 35)) 35 #[.int .i64 0, .slice none 0 0, .slice none 0 0, .slice none 0 0]
  rw [World.size_alloc] at eZ
  have hz : ((w.alloc (.cells #[.int .i64 0, .slice A 0 a, .slice B 0 b, .slice C 0 c] 35)).alloc (.cells #[.int .i64 0, .slice none 0 0, .slice none 0 0, .slice none 0 0] 35)).heap.size = w.heap.size + 2 := by simp
  go_enter Try.func15, Try.ntmps15
  go_wp2_with fail
  refine (hs _ _ _).mono ?_
  rintro e w1 ⟨rfl, h1⟩
  rw [hz] at h1
  replace hb := hb.trans (h1.mono (by omega))
  have a1 := (eA.kept (Keep.of_below h1) (by omega)).cell 2
  have a2 := (eZ.kept (Keep.of_below h1) (by omega)).cell 2
  simp at a1 a2
  go_wp2_with fail
  refine (hs _ _ _).mono ?_
  rintro e w2 ⟨rfl, h2⟩
  have hz2 := h1.size
  replace h1 := h1.trans (h2.mono (by omega))
  replace hb := hb.trans (h2.mono (by omega))
  have b1 := (eA.kept (Keep.of_below h1) (by omega)).cell 3
  have b2 := (eZ.kept (Keep.of_below h1) (by omega)).cell 3
  simp at b1 b2
  go_wp2_with fail
  refine (hs _ _ _).mono ?_
  rintro e w3 ⟨rfl, h3⟩
  have hz3 := h1.size
  replace hb := hb.trans (h3.mono (by omega))
  go_wp2
  go_ret
  exact ⟨rfl, hb⟩
end Go.Proofs.Ythccfmlfofdaeaa
