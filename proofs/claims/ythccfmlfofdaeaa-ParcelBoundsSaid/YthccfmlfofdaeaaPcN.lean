/- Parcels: Parcel of nil. -/
import Derived.Test.YthccfmlfofdaeaaPcL
namespace Go.Proofs.Ythccfmlfofdaeaa
open Go.RowKit Go.Maps Go.Shelf Go.Sort
set_option linter.unusedVariables false
set_option linter.unusedSimpArgs false

set_option maxRecDepth 100000 in
set_option maxHeartbeats 3200000 in
theorem parcel_nil (k : Int) (w : World) (hkw : (Lit.int .i64 k).wf = true) :
    Calls Try.prog 13 #[.pointer none, .int .i64 k] w fun e w' => ∃ u, e = .returned (.tuple #[u, .bool false]) ∧ Told w.heap.size w' 0 [] [] [] u ∧ Below w.heap.size w w' := by
  have hlk := look_nilR (w.alloc (.cells #[.int .i64 0, .slice none 0 0, .slice none 0 0, .slice none 0 0] 35)) hkw
  have hba := (Below.refl w.heap.size w).alloc (Nat.le_refl _) (.cells #[.int .i64 0, .slice none 0 0, .slice none 0 0, .slice none 0 0] 35)
  change (Instr.lookup _ _ _ _).run _ _ = Result.ok (.tuple #[.agg #[.int .i64 0, .slice none 0 0, .slice none 0 0, .slice none 0 0, .bool false, .bool false, .bool false, .bool false, .bool false, .bool false, .bool false, .bool false], .bool false]) _ at hlk
  have hb2 := hba.alloc hba.size (.cells #[.int .i64 0, .slice none 0 0, .slice none 0 0, .slice none 0 0, .bool false, .bool false, .bool false, .bool false, .bool false, .bool false, .bool false, .bool false] 55)
  have hzb := (Blk.new w 35 #[.int .i64 0, .slice none 0 0, .slice none 0 0, .slice none 0 0]).alloc (.cells #[.int .i64 0, .slice none 0 0, .slice none 0 0, .slice none 0 0, .bool false, .bool false, .bool false, .bool false, .bool false, .bool false, .bool false, .bool false] 55)
  have htd : Calls Try.prog 27 #[.agg #[.int .i64 0, .slice none 0 0, .slice none 0 0, .slice none 0 0, .bool false, .bool false, .bool false, .bool false, .bool false, .bool false, .bool false, .bool false]] ((w.alloc (.cells #[.int .i64 0, .slice none 0 0, .slice none 0 0, .slice none 0 0] 35)).alloc (.cells #[.int .i64 0, .slice none 0 0, .slice none 0 0, .slice none 0 0, .bool false, .bool false, .bool false, .bool false, .bool false, .bool false, .bool false, .bool false] 55)) _ := told_cells 0 none none none 0 0 0 0 0 0 [] [] [] false false false false false false false false ((w.alloc (.cells #[.int .i64 0, .slice none 0 0, .slice none 0 0, .slice none 0 0] 35)).alloc (.cells #[.int .i64 0, .slice none 0 0, .slice none 0 0, .slice none 0 0, .bool false, .bool false, .bool false, .bool false, .bool false, .bool false, .bool false, .bool false] 55)) (IL.nil _ _) (IL.nil _ _) (IL.nil _ _) (by omega) (by omega) (by omega)
  have hpa := pall_nil (w.alloc (.cells #[.int .i64 0, .slice none 0 0, .slice none 0 0, .slice none 0 0] 35))
  go_enter Try.func13, Try.ntmps13
  go_wp2_with fail
  refine hpa.mono ?_
  rintro e w' ⟨rfl, hww⟩
  subst hww
  go_wp2_with fail
  refine htd.mono ?_
  rintro e w3 ⟨u, rfl, ⟨A6, c6, A10, c10, A14, c14, rfl, o6, o10, o14⟩, hx3⟩
  have hb3 := hb2.trans (hx3.mono hb2.size)
  have hz := hzb.kept (Keep.of_below hx3) (Nat.not_le.2 hzb.lt)
  have z0 := hz.cell 0
  have z1 := hz.cell 1
  have z2 := hz.cell 2
  have z3 := hz.cell 3
  have zf := fun i => hz.frozen i
  have zl := hz.lt
  simp at z0 z1 z2 z3
  clear htd hpa hlk hx3 hzb
  go_wp2_with fail
  have zE := fill4 hz (.int .i64 0) (.slice A6 0 c6) (.slice A10 0 c10) (.slice A14 0 c14)
  have kE := keep4 w3 w.heap.size (.int .i64 0) (.slice A6 0 c6) (.slice A10 0 c10) (.slice A14 0 c14)
  generalize (((w3.setCell ⟨w.heap.size, 0, none⟩ (.int .i64 0)).setCell ⟨w.heap.size, 1, none⟩ (.slice A6 0 c6)).setCell ⟨w.heap.size, 2, none⟩ (.slice A10 0 c10)).setCell ⟨w.heap.size, 3, none⟩ (.slice A14 0 c14) = WE at zE kE ⊢
  have y0 := zE.cell 0
  have y1 := zE.cell 1
  have y2 := zE.cell 2
  have y3 := zE.cell 3
  simp at y0 y1 y2 y3
  have hsz : ((w.alloc (.cells #[.int .i64 0, .slice none 0 0, .slice none 0 0, .slice none 0 0] 35)).alloc (.cells #[.int .i64 0, .slice none 0 0, .slice none 0 0, .slice none 0 0, .bool false, .bool false, .bool false, .bool false, .bool false, .bool false, .bool false, .bool false] 55)).heap.size = w.heap.size + 2 := by simp
  rw [hsz] at o6 o10 o14
  have hbE := hb3.trans (kE.below (B := w.heap.size) hb3.size (fun i hi e => by omega))
  refine bodyPost_ret (v := .tuple #[.agg #[.int .i64 0, .slice A6 0 c6, .slice A10 0 c10, .slice A14 0 c14], .bool false]) (by simp [results, Try.results13, go_sem, y0, y1, y2, y3]) rfl ?_
  exact ⟨_, rfl, ⟨A6, c6, A10, c10, A14, c14, rfl, (o6.kept kE (fun g hg e => by have := (o6.lt g hg).1; omega)).mono (by omega), (o10.kept kE (fun g hg e => by have := (o10.lt g hg).1; omega)).mono (by omega), (o14.kept kE (fun g hg e => by have := (o14.lt g hg).1; omega)).mono (by omega)⟩, hbE⟩
end Go.Proofs.Ythccfmlfofdaeaa
