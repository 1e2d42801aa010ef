/- Total of goods; the marks that loops over functions leave. No condition but that the stocks lie in memory. -/
import Derived.Test.YtipmamgmcipbfaaGdB
namespace Go.Proofs.Ytipmamgmcipbfaa
open Go.RowKit Go.Maps Go.Shelf Go.Sort
set_option linter.unusedVariables false
set_option linter.unusedSimpArgs false

theorem tot_info : (Try.prog.info? 33).map (·.size) = some 13 := by kernel_rfl
theorem wpList_val {P : Program} {ops : Array Oper} {Q : Exit → Act → World → Prop} {rest : List Oper} {o : Oper} {a : Act} {W : World} {v : Value} (hg : o.guard = none) (hr : (execOp a.eval o).run P W = .ok (.value v) W) (h : wpList P ops Q rest (a.put o.dst v) W) : wpList P ops Q (o :: rest) a W :=
  wpList_plain hg fun K hK => by
    unfold Oper.wp
    rw [hr]
    exact hK _ _ h
theorem build_tot {ρ : Operand → Value} {o : Oper} {x0 x1 x2 x3 : Operand} {s : _} {y0 y1 y2 y3 y4 y5 y6 y7 y8 y9 y10 y11 : Int} {W : World} (ho : o.op = .build 33 #[(0, x0), (1, x1), (2, x2), (3, x3)])
    (h0 : ρ x0 = .string s) (h1 : ρ x1 = .agg #[.int .i64 y0, .int .i64 y1, .int .i64 y2, .int .i64 y3]) (h2 : ρ x2 = .agg #[.int .i64 y4, .int .i64 y5, .int .i64 y6, .int .i64 y7, .int .i64 y8, .int .i64 y9, .int .i64 y10]) (h3 : ρ x3 = .int .i64 y11) :
    (execOp ρ o).run Try.prog W = .ok (.value (.agg #[.string s, .int .i64 y0, .int .i64 y1, .int .i64 y2, .int .i64 y3, .int .i64 y4, .int .i64 y5, .int .i64 y6, .int .i64 y7, .int .i64 y8, .int .i64 y9, .int .i64 y10, .int .i64 y11])) W := by
  have hb : (Instr.build 33 #[(0, .string s), (1, .agg #[.int .i64 y0, .int .i64 y1, .int .i64 y2, .int .i64 y3]), (2, .agg #[.int .i64 y4, .int .i64 y5, .int .i64 y6, .int .i64 y7, .int .i64 y8, .int .i64 y9, .int .i64 y10]), (3, .int .i64 y11)]).run Try.prog W = .ok (.agg #[.string s, .int .i64 y0, .int .i64 y1, .int .i64 y2, .int .i64 y3, .int .i64 y4, .int .i64 y5, .int .i64 y6, .int .i64 y7, .int .i64 y8, .int .i64 y9, .int .i64 y10, .int .i64 y11]) W := by kernel_rfl
  unfold execOp
  rw [ho]
  simp only [List.map_toArray, List.map_cons, List.map_nil, h0, h1, h2, h3]
  simp [hb, Sem.run_bind, Sem.run_pure]
set_option maxRecDepth 100000 in
set_option maxHeartbeats 3200000 in
theorem gtotal_any (A : Option Addr) (n c : Nat) (l : List Sk) (g : List UInt8) (hg : g.length ≤ maxLen) (w : World) (hv : VL w A n (l.map Sk.v)) (hs : ∀ x ∈ l, SP w x) (hn : n ≤ 1048576) :
    Calls Try.prog 10 #[.slice A n c, .string ⟨g.toArray⟩] w fun e w' => e = .returned (totV g (sumR (l.map fun x => x.f g)) (wrap64 ((sumR (l.map fun x => x.f g)).se - (sumR (l.map fun x => x.f g)).cm))) ∧ Below w.heap.size w w' := by
  have hb0 := (Below.refl w.heap.size w).alloc (Nat.le_refl _) (.cells #[.string ⟨g.toArray⟩] 9)
  have hb1 := hb0.alloc hb0.size (.cells #[.string ⟨#[]⟩, .int .i64 0, .int .i64 0, .int .i64 0, .int .i64 0, .int .i64 0, .int .i64 0, .int .i64 0, .int .i64 0, .int .i64 0, .int .i64 0, .int .i64 0, .int .i64 0] 33)
  have hB0 := (cell_new_a w (.string ⟨g.toArray⟩) 9).1
  have hB1 := cell_old (.cells #[.string ⟨#[]⟩, .int .i64 0, .int .i64 0, .int .i64 0, .int .i64 0, .int .i64 0, .int .i64 0, .int .i64 0, .int .i64 0, .int .i64 0, .int .i64 0, .int .i64 0, .int .i64 0] 33) hB0
  have h4 := Blk.new (w.alloc (.cells #[.string ⟨g.toArray⟩] 9)) 33 #[.string ⟨#[]⟩, .int .i64 0, .int .i64 0, .int .i64 0, .int .i64 0, .int .i64 0, .int .i64 0, .int .i64 0, .int .i64 0, .int .i64 0, .int .i64 0, .int .i64 0, .int .i64 0]
  rw [World.size_alloc] at h4
  obtain ⟨T, hT⟩ : ∃ T, sumR (l.map fun x => x.f g) = T := ⟨_, rfl⟩
  have c1 := gsumL_any A n c l g hg w.heap.size _ (hv.below hb1) (fun x hx => (hs x hx).below hb1) hB1 hn
  rw [hT] at c1
  have c2f := fun W h1 h2 h3 => gsumF_any A n c l g hg w.heap.size W h1 h2 h3 hn
  simp only [hT] at c2f
  rw [hT]
  clear hT
  unfold totV
  go_enter Try.func10, Try.ntmps10
  go_wp2_with fail
  refine c1.mono ?_
  rintro e w1 ⟨rfl, hb2⟩
  have hbw1 := hb1.trans (hb2.mono hb1.size)
  have hw1 := hb2.size
  simp only [World.size_alloc] at hw1
  have h41 := h4.kept (Keep.of_below hb2) (by simp)
  have hB2 := (hb2.cell (World.block_lt_of_cell? _ _ hB1)).trans hB1
  have h5 := Blk.new w1 29 #[.int .i64 T.fr, .int .i64 T.he, .int .i64 T.pi, .int .i64 T.sa]
  have hbw2 := hbw1.alloc hbw1.size (.cells #[.int .i64 T.fr, .int .i64 T.he, .int .i64 T.pi, .int .i64 T.sa] 29)
  have h42 := h41.alloc (.cells #[.int .i64 T.fr, .int .i64 T.he, .int .i64 T.pi, .int .i64 T.sa] 29)
  have hB3 := cell_old (.cells #[.int .i64 T.fr, .int .i64 T.he, .int .i64 T.pi, .int .i64 T.sa] 29) hB2
  have c2 := c2f _ (hv.below hbw2) (fun x hx => (hs x hx).below hbw2) hB3
  clear c1 c2f hb0 hb1 hB0 hB1 h4 hb2 h41 hB2 hv hs
  unfold lvV
  go_wp2_with fail
  refine c2.mono ?_
  rintro e w2 ⟨rfl, hb3⟩
  have hbw3 := hbw2.trans (hb3.mono hbw2.size)
  have hw2 := hb3.size
  simp only [World.size_alloc] at hw2
  have h43 := (h42.kept (Keep.of_below hb3) (by simp; omega)).alloc (.cells #[.int .i64 T.re, .int .i64 T.rt, .int .i64 T.cn, .int .i64 T.cm, .int .i64 T.sh, .int .i64 T.sc, .int .i64 T.se] 31)
  have h53 := (h5.kept (Keep.of_below hb3) (by simp)).alloc (.cells #[.int .i64 T.re, .int .i64 T.rt, .int .i64 T.cn, .int .i64 T.cm, .int .i64 T.sh, .int .i64 T.sc, .int .i64 T.se] 31)
  have hB4 := cell_old (.cells #[.int .i64 T.re, .int .i64 T.rt, .int .i64 T.cn, .int .i64 T.cm, .int .i64 T.sh, .int .i64 T.sc, .int .i64 T.se] 31) ((hb3.cell (World.block_lt_of_cell? _ _ hB3)).trans hB3)
  have h6 := Blk.new w2 31 #[.int .i64 T.re, .int .i64 T.rt, .int .i64 T.cn, .int .i64 T.cm, .int .i64 T.sh, .int .i64 T.sc, .int .i64 T.se]
  have q3 := h6.cell 3
  have q6 := h6.cell 6
  have hbw4 := hbw3.alloc hbw3.size (.cells #[.int .i64 T.re, .int .i64 T.rt, .int .i64 T.cn, .int .i64 T.cm, .int .i64 T.sh, .int .i64 T.sc, .int .i64 T.se] 31)
  have hw4 : (w2.alloc (.cells #[.int .i64 T.re, .int .i64 T.rt, .int .i64 T.cn, .int .i64 T.cm, .int .i64 T.sh, .int .i64 T.sc, .int .i64 T.se] 31)).heap.size = w2.heap.size + 1 := by simp
  clear c2 hb3 h42 h5 hbw1 hbw2 hbw3 hB3
  unfold flV
  go_upto_region 3 with fail
  generalize w2.alloc (.cells #[.int .i64 T.re, .int .i64 T.rt, .int .i64 T.cn, .int .i64 T.cm, .int .i64 T.sh, .int .i64 T.sc, .int .i64 T.se] 31) = w3 at *
  go_wp2_with ((first | (refine wpLoadM 29 (by rfl) (.tmp 5) rfl rfl h53 _ Try.underlying29 rfl (by rw [lev_info]; rfl) ?_) | (refine wpLoadM 31 (by rfl) (.tmp 6) rfl rfl h6 _ Try.underlying31 rfl (by rw [flo_info]; rfl) ?_) | (refine wpList_val rfl (build_tot rfl rfl rfl rfl rfl) ?_) | (refine wpList_put 33 #[.string ⟨g.toArray⟩, .int .i64 T.fr, .int .i64 T.he, .int .i64 T.pi, .int .i64 T.sa, .int .i64 T.re, .int .i64 T.rt, .int .i64 T.cn, .int .i64 T.cm, .int .i64 T.sh, .int .i64 T.sc, .int .i64 T.se, .int .i64 (wrap64 (T.se - T.cm))] rfl (.tmp 4) (.tmp 21) rfl rfl rfl h43 rfl (by rw [tot_info]; rfl) rfl ?_; rintro w7 hBt hk2)))
  have hbe := hbw4.trans (hk2.below (B := w.heap.size) hbw4.size (fun i hi e => by omega))
  have j0 := hBt.cell 0
  have j1 := hBt.cell 1
  have j2 := hBt.cell 2
  have j3 := hBt.cell 3
  have j4 := hBt.cell 4
  have j5 := hBt.cell 5
  have j6 := hBt.cell 6
  have j7 := hBt.cell 7
  have j8 := hBt.cell 8
  have j9 := hBt.cell 9
  have j10 := hBt.cell 10
  have j11 := hBt.cell 11
  have j12 := hBt.cell 12
  refine bodyPost_ret (v := .agg #[.string ⟨g.toArray⟩, .int .i64 T.fr, .int .i64 T.he, .int .i64 T.pi, .int .i64 T.sa, .int .i64 T.re, .int .i64 T.rt, .int .i64 T.cn, .int .i64 T.cm, .int .i64 T.sh, .int .i64 T.sc, .int .i64 T.se, .int .i64 (wrap64 (T.se - T.cm))]) (by simp [results, Try.results10, go_sem, j0, j1, j2, j3, j4, j5, j6, j7, j8, j9, j10, j11, j12]) rfl ⟨rfl, hbe⟩
end Go.Proofs.Ytipmamgmcipbfaa
