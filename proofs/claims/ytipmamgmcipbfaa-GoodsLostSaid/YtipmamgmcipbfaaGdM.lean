/- The document's Level, Flow, Kept; equality of levels, of flows. No condition. -/
import Derived.Test.YtipmamgmcipbfaaGdJ
namespace Go.Proofs.Ytipmamgmcipbfaa
open Go.RowKit Go.Maps Go.Shelf Go.Sort
set_option linter.unusedVariables false
set_option linter.unusedSimpArgs false

set_option maxRecDepth 100000 in
set_option maxHeartbeats 3200000 in
theorem rlevel_any (a0 a1 a2 a3 b0 b1 b2 b3 : Int) (w : World) : Calls Try.prog 22 #[.agg #[.int .i64 a0, .int .i64 a1, .int .i64 a2, .int .i64 a3], .agg #[.int .i64 b0, .int .i64 b1, .int .i64 b2, .int .i64 b3]] w fun e w' => e = .returned (.agg #[.int .i64 (wrap64 (a0 + b0)), .int .i64 (wrap64 (a1 + b1)), .int .i64 (wrap64 (a2 + b2)), .int .i64 (wrap64 (a3 + b3))]) ∧ Below w.heap.size w w' := by
  have hb0 := (Below.refl w.heap.size w).alloc (Nat.le_refl _) (.cells #[.int .i64 a0, .int .i64 a1, .int .i64 a2, .int .i64 a3] 29)
  have hb1 := hb0.alloc hb0.size (.cells #[.int .i64 b0, .int .i64 b1, .int .i64 b2, .int .i64 b3] 29)
  go_enter Try.func22, Try.ntmps22
  go_wp2
  --E
  have hbl := Blk.new ((w.alloc (.cells #[.int .i64 a0, .int .i64 a1, .int .i64 a2, .int .i64 a3] 29)).alloc (.cells #[.int .i64 b0, .int .i64 b1, .int .i64 b2, .int .i64 b3] 29)) 29 #[.int .i64 (wrap64 (a0 + b0)), .int .i64 (wrap64 (a1 + b1)), .int .i64 (wrap64 (a2 + b2)), .int .i64 (wrap64 (a3 + b3))]
  rw [World.size_alloc, World.size_alloc] at hbl
  have j0 := hbl.cell 0
  have j1 := hbl.cell 1
  have j2 := hbl.cell 2
  have j3 := hbl.cell 3
  refine bodyPost_ret (v := .agg #[.int .i64 (wrap64 (a0 + b0)), .int .i64 (wrap64 (a1 + b1)), .int .i64 (wrap64 (a2 + b2)), .int .i64 (wrap64 (a3 + b3))]) (by simp [results, Try.results22, go_sem, j0, j1, j2, j3]) rfl ⟨rfl, hb1.alloc hb1.size _⟩
set_option maxRecDepth 100000 in
set_option maxHeartbeats 3200000 in
theorem rflow_any (a0 a1 a2 a3 a4 a5 a6 b0 b1 b2 b3 b4 b5 b6 : Int) (w : World) : Calls Try.prog 24 #[.agg #[.int .i64 a0, .int .i64 a1, .int .i64 a2, .int .i64 a3, .int .i64 a4, .int .i64 a5, .int .i64 a6], .agg #[.int .i64 b0, .int .i64 b1, .int .i64 b2, .int .i64 b3, .int .i64 b4, .int .i64 b5, .int .i64 b6]] w fun e w' => e = .returned (.agg #[.int .i64 (wrap64 (a0 + b0)), .int .i64 (wrap64 (a1 + b1)), .int .i64 (wrap64 (a2 + b2)), .int .i64 (wrap64 (a3 + b3)), .int .i64 (wrap64 (a4 + b4)), .int .i64 (wrap64 (a5 + b5)), .int .i64 (wrap64 (a6 + b6))]) ∧ Below w.heap.size w w' := by
  have hb0 := (Below.refl w.heap.size w).alloc (Nat.le_refl _) (.cells #[.int .i64 a0, .int .i64 a1, .int .i64 a2, .int .i64 a3, .int .i64 a4, .int .i64 a5, .int .i64 a6] 31)
  have hb1 := hb0.alloc hb0.size (.cells #[.int .i64 b0, .int .i64 b1, .int .i64 b2, .int .i64 b3, .int .i64 b4, .int .i64 b5, .int .i64 b6] 31)
  go_enter Try.func24, Try.ntmps24
  go_wp2
  --E
  have hbl := Blk.new ((w.alloc (.cells #[.int .i64 a0, .int .i64 a1, .int .i64 a2, .int .i64 a3, .int .i64 a4, .int .i64 a5, .int .i64 a6] 31)).alloc (.cells #[.int .i64 b0, .int .i64 b1, .int .i64 b2, .int .i64 b3, .int .i64 b4, .int .i64 b5, .int .i64 b6] 31)) 31 #[.int .i64 (wrap64 (a0 + b0)), .int .i64 (wrap64 (a1 + b1)), .int .i64 (wrap64 (a2 + b2)), .int .i64 (wrap64 (a3 + b3)), .int .i64 (wrap64 (a4 + b4)), .int .i64 (wrap64 (a5 + b5)), .int .i64 (wrap64 (a6 + b6))]
  rw [World.size_alloc, World.size_alloc] at hbl
  have j0 := hbl.cell 0
  have j1 := hbl.cell 1
  have j2 := hbl.cell 2
  have j3 := hbl.cell 3
  have j4 := hbl.cell 4
  have j5 := hbl.cell 5
  have j6 := hbl.cell 6
  refine bodyPost_ret (v := .agg #[.int .i64 (wrap64 (a0 + b0)), .int .i64 (wrap64 (a1 + b1)), .int .i64 (wrap64 (a2 + b2)), .int .i64 (wrap64 (a3 + b3)), .int .i64 (wrap64 (a4 + b4)), .int .i64 (wrap64 (a5 + b5)), .int .i64 (wrap64 (a6 + b6))]) (by simp [results, Try.results24, go_sem, j0, j1, j2, j3, j4, j5, j6]) rfl ⟨rfl, hb1.alloc hb1.size _⟩
def rkeptB (r : Row) (way : Int) : Bool := decide (0 ≤ way) && decide (wrap64 (wrap64 (wrap64 (wrap64 (r.fr + r.he) + r.pi) + r.sa) + way) = wrap64 (wrap64 (wrap64 (wrap64 (r.re + r.rt) + r.cn) - r.sh) - r.sc))
theorem kept_eq (r : Row) (way : Int) : rkeptB r way = keptB r way := by
  unfold rkeptB keptB
  congr 1
  apply decide_eq_decide.2
  rw [show wrap64 (wrap64 (wrap64 (wrap64 (r.re + r.rt) + r.cn) - r.sh) - r.sc) = wrap64 (wrap64 (wrap64 (r.re + r.rt) + r.cn) - wrap64 (r.sh + r.sc)) from by unfold wrap64; omega]
set_option maxRecDepth 100000 in
set_option maxHeartbeats 3200000 in
theorem rkept_any (g : List UInt8) (r : Row) (way : Int) (w : World) : Calls Try.prog 16 #[totV g r way] w fun e w' => e = .returned (.bool (rkeptB r way)) ∧ Below w.heap.size w w' := by
  obtain ⟨fr, he, pi, sa, re, rt, cn, cm, sh, sc, se⟩ := r
  unfold totV rkeptB
  dsimp only
  have hb0 := (Below.refl w.heap.size w).alloc (Nat.le_refl _) (.cells #[.string ⟨g.toArray⟩, .int .i64 fr, .int .i64 he, .int .i64 pi, .int .i64 sa, .int .i64 re, .int .i64 rt, .int .i64 cn, .int .i64 cm, .int .i64 sh, .int .i64 sc, .int .i64 se, .int .i64 way] 33)
  obtain ⟨x, hx⟩ : ∃ x, wrap64 (wrap64 (wrap64 (wrap64 (fr + he) + pi) + sa) + way) = x := ⟨_, rfl⟩
  obtain ⟨y, hy⟩ : ∃ y, wrap64 (wrap64 (wrap64 (wrap64 (re + rt) + cn) - sh) - sc) = y := ⟨_, rfl⟩
  by_cases hw : 0 ≤ way
  · have hwb : decide ((0 : Int) ≤ way) = true := decide_eq_true hw
    rw [hwb]
    go_enter Try.func16, Try.ntmps16
    go_wp2
    go_ret
    exact ⟨by rw [hx, hy, Bool.true_and]; rfl, hb0⟩
  · have hwb : decide ((0 : Int) ≤ way) = false := decide_eq_false hw
    rw [hwb]
    go_enter Try.func16, Try.ntmps16
    go_wp2
    go_ret
    exact ⟨by simp, hb0⟩
theorem lev_same (fr he pi sa : Int) (W : World) : (binOp .eql 29 (.agg #[.int .i64 fr, .int .i64 he, .int .i64 pi, .int .i64 sa]) (.agg #[.int .i64 fr, .int .i64 he, .int .i64 pi, .int .i64 sa])).run Try.prog W = .ok (.bool true) W := by
  have hS : Try.prog.underlying 29 = some (.struct (Try.prog.fieldsOf 29)) := by kernel_rfl
  have hp : Try.prog.stoodInHeld 29 = false := by kernel_rfl
  have u3 := Try.underlying3
  have a3 := Try.isAgg3
  have z3 := Try.sizeOf3
  rw [run_eql_struct, show (10000 : Nat) = 9999 + 1 from rfl, run_equalIn_agg W 9999 _ _ _ hS hp]
  simp only [Program.fieldsOf, Try.underlying29]
  go_simp
theorem lev_guard : Try.prog.eqGuardType Try.prog.depth 29 = false := by kernel_rfl
theorem flo_same (re rt cn cm sh sc se : Int) (W : World) : (binOp .eql 31 (.agg #[.int .i64 re, .int .i64 rt, .int .i64 cn, .int .i64 cm, .int .i64 sh, .int .i64 sc, .int .i64 se]) (.agg #[.int .i64 re, .int .i64 rt, .int .i64 cn, .int .i64 cm, .int .i64 sh, .int .i64 sc, .int .i64 se])).run Try.prog W = .ok (.bool true) W := by
  have hS : Try.prog.underlying 31 = some (.struct (Try.prog.fieldsOf 31)) := by kernel_rfl
  have hp : Try.prog.stoodInHeld 31 = false := by kernel_rfl
  have u3 := Try.underlying3
  have a3 := Try.isAgg3
  have z3 := Try.sizeOf3
  rw [run_eql_struct, show (10000 : Nat) = 9999 + 1 from rfl, run_equalIn_agg W 9999 _ _ _ hS hp]
  simp only [Program.fieldsOf, Try.underlying31]
  go_simp
theorem flo_guard : Try.prog.eqGuardType Try.prog.depth 31 = false := by kernel_rfl
theorem tkL {P : Program} {md : Region.Mode} {ops : Array Oper} {Q : Exit → Act → World → Prop} {S : World → Prop} {oi : Oper} {fuel : Nat} {listed : Array Bool} {a : Act} {w : World} (i : Nat) (hi : ops[i]? = some oi)
    (hs : Region.noSelect ops = true) (hf : Region.free md ops listed i = true) (hr : (Region.ready md ops listed).contains i = true) {cs : Array Value}
    (hQ : ∀ c a w, Q (.panic c) (a.put oi.dst (.agg cs)) w → Q (.panic c) a w) (hw : Region.wanted oi (yielded ops a.tmps) = true) (ty : TypeId) (x : Operand) (ho : oi.op = .load ty x) (b : Nat) (hx : a.eval x = .pointer (some ⟨b, 0, none⟩)) (t : TypeId)
    (hb : ∀ w, S w → Blk w b t cs) (d : TypeDesc) (hu : P.underlying ty = some d) (hd : d.isRow = true) (hn : (P.info? ty).map (·.size) = some cs.size) (hS : S w)
    (h : wpAnyH P md ops Q S fuel (listed.setIfInBounds i true) (a.put oi.dst (.agg cs)) w) : wpAnyH P md ops Q S (fuel + 1) listed a w :=
  wpAnyH_take (v := .agg cs) hi hs hf hr hQ (yieldsIf_load_mid hw ty x ho b 0 hx cs.toList d (fun w h => (hb w h).range) hu hd (by rw [hn]; simp)) hS h
theorem build_tot3 {ρ : Operand → Value} {o : Oper} {x1 x2 x3 : Operand} {y0 y1 y2 y3 y4 y5 y6 y7 y8 y9 y10 y11 : Int} {W : World} (ho : o.op = .build 33 #[(1, x1), (2, x2), (3, x3)])
    (h1 : ρ x1 = .agg #[.int .i64 y0, .int .i64 y1, .int .i64 y2, .int .i64 y3]) (h2 : ρ x2 = .agg #[.int .i64 y4, .int .i64 y5, .int .i64 y6, .int .i64 y7, .int .i64 y8, .int .i64 y9, .int .i64 y10]) (h3 : ρ x3 = .int .i64 y11) :
    (execOp ρ o).run Try.prog W = .ok (.value (.agg #[.string ⟨#[]⟩, .int .i64 y0, .int .i64 y1, .int .i64 y2, .int .i64 y3, .int .i64 y4, .int .i64 y5, .int .i64 y6, .int .i64 y7, .int .i64 y8, .int .i64 y9, .int .i64 y10, .int .i64 y11])) W := by
  have hb : (Instr.build 33 #[(1, .agg #[.int .i64 y0, .int .i64 y1, .int .i64 y2, .int .i64 y3]), (2, .agg #[.int .i64 y4, .int .i64 y5, .int .i64 y6, .int .i64 y7, .int .i64 y8, .int .i64 y9, .int .i64 y10]), (3, .int .i64 y11)]).run Try.prog W = .ok (.agg #[.string ⟨#[]⟩, .int .i64 y0, .int .i64 y1, .int .i64 y2, .int .i64 y3, .int .i64 y4, .int .i64 y5, .int .i64 y6, .int .i64 y7, .int .i64 y8, .int .i64 y9, .int .i64 y10, .int .i64 y11]) W := by kernel_rfl
  unfold execOp
  rw [ho]
  simp only [List.map_toArray, List.map_cons, List.map_nil, h1, h2, h3]
  simp [hb, Sem.run_bind, Sem.run_pure]
end Go.Proofs.Ytipmamgmcipbfaa
