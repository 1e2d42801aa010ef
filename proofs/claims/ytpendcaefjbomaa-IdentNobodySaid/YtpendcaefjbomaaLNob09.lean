/- 'IdentNobody' returns true for every input: the row of this law, proved. No condition. -/
import Derived.Test.YtpendcaefjbomaaIdX
import Derived.ProofKit
import Derived.OpenShut
import Derived.ShutString
import Derived.ChangeOld
import Derived.SizedLaws
namespace Go.Proofs.Ytpendcaefjbomaa
open Go.RowKit
set_option linter.unusedVariables false
set_option linter.unusedSimpArgs false
open Go.Shelf
attribute [local go_sem] Oper.semAt_some
set_option maxRecDepth 100000 in
set_option maxHeartbeats 6400000 in
theorem identNobody_walk {w : World} (o : OpV) (A : Option Addr) (c : Nat) (ho : OpVAt w o A c) :
    Calls Try.prog 7 #[.agg #[.int .i64 o.i0, .int .i64 o.i1, .int .i64 o.i2, .slice A o.l.length c, .int .i64 o.a0, .int .i64 o.a1, .int .i64 o.a2, .int .i64 o.a3]] w fun e w' => e = .returned (.bool true) ∧ RowKit.Below w.heap.size w w' := by
  refine (callsIn_wide (n := 9)).1 ?_
  refine callsIn_of_wp_marks Try.func7 rfl trivial ?_ rfl
  simp only [Try.ntmps7, List.size_toArray, List.length_cons, List.length_nil, Nat.reduceAdd, Nat.reduceSub, Array.replicate_succ, Array.replicate_zero, List.push_toArray, List.append_toArray, List.nil_append, List.cons_append]
  have hnn := func_eq_nilI
  gi_wp2_with (first | (refine ⟨trivial, ?_⟩; gi_at_call 23; refine (callsIn_wide.2 (topen_make none _)).mono ?_; rintro e w' ⟨rfl, rfl⟩; skip) | (refine ⟨trivial, ?_⟩; gi_at_call 10; refine (callsIn_wide.2 (lives_any _)).mono ?_; rintro e w1 ⟨rfl, hb1⟩; skip))
  have e1 := ((Blk.new w 37 #[.int .i64 o.i0, .int .i64 o.i1, .int .i64 o.i2, .slice A o.l.length c, .int .i64 o.a0, .int .i64 o.a1, .int .i64 o.a2, .int .i64 o.a3]).alloc (.cells #[.bool false] 4)).alloc (.cells #[.pointer none] 23)
  have e2 := (Blk.new (w.alloc (.cells #[.int .i64 o.i0, .int .i64 o.i1, .int .i64 o.i2, .slice A o.l.length c, .int .i64 o.a0, .int .i64 o.a1, .int .i64 o.a2, .int .i64 o.a3] 37)) 4 #[.bool false]).alloc (.cells #[.pointer none] 23)
  have e3 := Blk.new ((w.alloc (.cells #[.int .i64 o.i0, .int .i64 o.i1, .int .i64 o.i2, .slice A o.l.length c, .int .i64 o.a0, .int .i64 o.a1, .int .i64 o.a2, .int .i64 o.a3] 37)).alloc (.cells #[.bool false] 4)) 23 #[.pointer none]
  rw [World.size_alloc] at e2
  rw [World.size_alloc, World.size_alloc] at e3
  have hb3 := (((RowKit.Below.refl w.heap.size w).alloc (Nat.le_refl _) (.cells #[.int .i64 o.i0, .int .i64 o.i1, .int .i64 o.i2, .slice A o.l.length c, .int .i64 o.a0, .int .i64 o.a1, .int .i64 o.a2, .int .i64 o.a3] 37)).alloc (by simp) (.cells #[.bool false] 4)).alloc (by simp; omega) (.cells #[.pointer none] 23)
  have hz3 : (((w.alloc (.cells #[.int .i64 o.i0, .int .i64 o.i1, .int .i64 o.i2, .slice A o.l.length c, .int .i64 o.a0, .int .i64 o.a1, .int .i64 o.a2, .int .i64 o.a3] 37)).alloc (.cells #[.bool false] 4)).alloc (.cells #[.pointer none] 23)).heap.size = w.heap.size + 3 := by simp
  generalize hW : ((w.alloc (.cells #[.int .i64 o.i0, .int .i64 o.i1, .int .i64 o.i2, .slice A o.l.length c, .int .i64 o.a0, .int .i64 o.a1, .int .i64 o.a2, .int .i64 o.a3] 37)).alloc (.cells #[.bool false] 4)).alloc (.cells #[.pointer none] 23) = W0 at *
  clear hW
  have e1' := e1.kept (Keep.of_below hb1) (by omega)
  have e2' := e2.kept (Keep.of_below hb1) (by omega)
  have e3' := e3.kept (Keep.of_below hb1) (by omega)
  have hb4 := hb3.trans (hb1.mono (by omega))
  have hz4 := hb1.size
  have b0 := e3'.cell 0
  simp at b0
  clear e1 e2 e3 hb3 hb1
  refine range_none (by first | rfl | simp [go_sem]) (enters_of Try.func45 (by kernel_rfl) rfl) (topen_nil_goes (w.heap.size + 1 + 1) _ (by omega) b0) ?_
  intro D W hD hb hDf
  have f1 := e1'.kept (Keep.of_below hb) (by omega)
  have f2 := e2'.kept (Keep.of_below hb) (by omega)
  have hb5 := hb4.trans (hb.mono (by omega))
  have hz5 := hb.size
  clear e1' e2' e3' hb4 hb b0
  have cells := fun (W' : World) (hb : RowKit.Below W.heap.size W W') => show W'.cell? ⟨w.heap.size, 1, none⟩ = some (.int .i64 o.i1) ∧ W'.cell? ⟨w.heap.size, 2, none⟩ = some (.int .i64 o.i2) ∧ W'.cell? ⟨w.heap.size, 3, none⟩ = some (.slice A o.l.length c) ∧ W'.cell? ⟨w.heap.size, 4, none⟩ = some (.int .i64 o.a0) ∧ W'.cell? ⟨w.heap.size, 5, none⟩ = some (.int .i64 o.a1) ∧ W'.cell? ⟨w.heap.size, 6, none⟩ = some (.int .i64 o.a2) ∧ W'.cell? ⟨w.heap.size, 7, none⟩ = some (.int .i64 o.a3) from by
    have h := f1.kept (Keep.of_below hb) (by omega)
    have h1 := h.cell 1
    have h2 := h.cell 2
    have h3 := h.cell 3
    have h4 := h.cell 4
    have h5 := h.cell 5
    have h6 := h.cell 6
    have h7 := h.cell 7
    simp at h1 h2 h3 h4 h5 h6 h7
    exact ⟨h1, h2, h3, h4, h5, h6, h7⟩
  have cells' := Lib.hid cells
  obtain ⟨q01, q02, q03, q04, q05, q06, q07⟩ := cells W (RowKit.Below.refl _ _)
  clear cells
  have heq := fun (W : World) => show (binOp .eql 35 (.agg #[.int .i64 0, .int .i64 0, .int .i64 0, .int .i64 0]) (.agg #[.int .i64 0, .int .i64 0, .int .i64 0, .int .i64 0])).run Try.prog W = .ok (.bool true) W from by kernel_rfl
  gi_wp2_with (first | (refine ⟨trivial, ?_⟩; gi_at_call 11; refine (callsIn_wide.2 (ask_arg none o.i1 o.i2 (.inl rfl) A o.l.length c _)).mono ?_; rintro e w2 ⟨rfl, hx2⟩; simp only [Rq.a, rq0]; have hxa := hx2.alloc hx2.size (.cells #[.int .i64 0, .int .i64 0, .int .i64 0, .int .i64 0] 35); obtain ⟨qb1, qb2, qb3, qb4, qb5, qb6, qb7⟩ := cells'.out _ hxa; have t5 := Blk.new w2 35 #[.int .i64 0, .int .i64 0, .int .i64 0, .int .i64 0]; have y0 := t5.cell 0; have y1 := t5.cell 1; have y2 := t5.cell 2; have y3 := t5.cell 3; simp only [List.getElem?_toArray, List.getElem?_cons_succ, List.getElem?_cons_zero] at y0 y1 y2 y3) | (refine ⟨trivial, ?_⟩; gi_at_call 13; refine (callsIn_wide.2 (tell_nil o.a0 o.a1 o.a2 o.a3 _)).mono ?_; rintro e w3 ⟨rfl, hx3⟩; have hb3' := hxa.trans (hx3.mono hxa.size); obtain ⟨qc1, qc2, qc3, qc4, qc5, qc6, qc7⟩ := cells'.out w3 hb3') | (refine ⟨trivial, ?_⟩; gi_at_call 15; refine (callsIn_wide.2 (low_nil o.i1 o.i2 _)).mono ?_; rintro e w4 ⟨rfl, hx4⟩; have hb4' := hb3'.trans (hx4.mono hb3'.size); obtain ⟨qd1, qd2, qd3, qd4, qd5, qd6, qd7⟩ := cells'.out w4 hb4') | (refine ⟨trivial, ?_⟩; gi_at_call 20; refine (callsIn_wide.2 (mark_no none o.i1 _ (.inl rfl))).mono ?_; rintro e w' ⟨rfl, hww⟩; subst w'; skip) | (refine ⟨trivial, ?_⟩; gi_at_call 21; refine (callsIn_wide.2 (len_nil o.i1 _)).mono ?_; rintro e w' ⟨rfl, hww⟩; subst w'; skip) | (refine ⟨trivial, ?_⟩; gi_at_call 18; refine (callsIn_wide.2 (pack_nil _)).mono ?_; rintro e w' ⟨rfl, hww⟩; subst w'; have g2 := f2.kept (Keep.of_below hb4') (by omega); have g3 := hb5.trans (hb4'.mono (by omega)); have hr := g2.cell 0; have hrf := g2.frozen 0; simp at hr; have hDw := (hb4'.block D (Array.getElem?_eq_some_iff.1 hDf).1).trans hDf))
  have hD2 : w.heap.size + 1 < D := by omega
  have hDs : (w4.setCell ⟨w.heap.size + 1, 0, none⟩ (.bool true)).heap[D]? = some (.deferred (some [])) := (Below.heap_setCell w4 ⟨w.heap.size + 1, 0, none⟩ (.bool true) D (by dsimp only; omega)).trans hDw
  have hk := g3.setCell (p := ⟨w.heap.size + 1, 0, none⟩) (by dsimp only; omega) (.bool true)
  have hp := cell_kept (World.cell?_setCell_same' w4 ⟨w.heap.size + 1, 0, none⟩ (.bool true) (by rw [hr]; rfl)) (grownBy_putObj' _ D (.deferred none)) (fun r e => by cases e; exact ⟨_, hDs, rfl⟩)
  refine ⟨by simp, .inl ⟨_, _, rfl, run_takeDeferred hDs, ?_⟩⟩
  refine ⟨.bool true, ?_, rfl, bel_putD hk (by omega) hDs⟩
  simp [results, Try.f7, go_sem, hp]

namespace identNobodyDone
open Go.ChangeShapes Go.WideShapes Go.ChangeAt
set_option maxRecDepth 100000 in
theorem lifted (os : Os) (started : os.Started) (H : Type) (enc : TypeId × Value → H) :
    ReturnsInHanded {} Try.checked os 7 .any (Rows.identNobodySpec.pre6 enc Try.prog Try.f7 Rows.identNobodyRow.domain false) (Rows.identNobodySpec.post enc Try.prog Try.f7 false true false false) := by
  refine returnsInHanded_of_change_sized (C := Try.checked) own started (by kernel_rfl) Try.func7
    (ChangeSpec.witness6 (enc := enc) (C := Try.checked) false ⟨#[], #[Value.agg #[.int .i64 0, .int .i64 0, .int .i64 0, .slice none 0 0, .int .i64 0, .int .i64 0, .int .i64 0, .int .i64 0]], []⟩ 8 (by kernel_rfl) (by kernel_rfl) (by kernel_rfl) (by kernel_rfl)) ?_
  intro W base args ds gs before hval0 hW hcnd hsz0 _
  have hsz : (DataW.weightsEach Try.prog (Try.f7.params.toList ++ Rows.identNobodySpec.plain.varTypes Try.prog) (ds ++ gs)).all (· ≤ reachBytes) = true := hsz0
  clear hsz0
  have hval : ∀ (j : Nat) t v, Try.f7.params[j]? = some t → args[j]? = some v → Value.okWide Try.prog W .any base t v := hval0
  have hW' := hW
  obtain ⟨p, q, hA0, hV, rfl, hfz, hnd⟩ := hW
  have hA : DataW.TrodAll enc Try.prog W 0 (fun _ => true) true Try.f7.params.toList args.toList ds p := hA0
  rw [Try.params7] at hA hval hsz
  obtain ⟨v0, vs0, d0, ds0, p0, q0, hargs, rfl, rfl, h0, r0⟩ := trodAll_cons hA
  obtain ⟨rfl, rfl, rfl⟩ := trodAll_nil r0
  obtain rfl : args = #[v0] := by cases args; simp_all
  obtain ⟨rfl, rfl⟩ := trodVars_none hV
  obtain ⟨o0, A0, c0, rfl, ho0⟩ := opv_open (hval 0 37 v0 rfl rfl) h0
  have k0' := h0
  have lt0 : ∀ x ∈ p0, x.block < W.heap.size := by obtain ⟨m, hm⟩ := h0; exact DataW.trod_lt m _ _ _ hm
  clear hA0 hval0
  refine (identNobody_walk (w := W) o0 A0 c0 ho0).mono fun e W' ⟨he, bel⟩ => ?_
  subst he
  exact ⟨_, rfl, _, _, _, [], _, [], hW', trodAll_mk1 (shut_bool Try.underlying4 _), (trodAll_cons_mk (Below.trod laidOut (by kernel_rfl) (of_decide_eq_true (by kernel_rfl)) k0' bel lt0) trodAll_mk0), rfl, bel.frame _, fun h => by cases h⟩

theorem over : Rows.identNobodyRow.holds Try.pinned (OpenSpec.ofChange Rows.identNobodySpec) :=
  OpenClaim.holds_of_wide 7 Try.f7 rfl rfl rfl rfl rfl rfl rfl ⟨rfl, rfl, rfl, rfl, rfl⟩ rfl rfl rfl rfl rfl (by kernel_rfl) Try.func7 (by kernel_rfl)
    (of_decide_eq_true (by kernel_rfl)) (by unfold Func.isWrapper; first | (rw [if_pos (by decide +kernel)]; kernel_rfl) | (rw [if_neg (by decide +kernel)]; exact ⟨rfl, rfl⟩))
    (fun os started H enc _ => lifted os started H enc)

/-- The statement. -/
theorem proved : Rows.IdentNobodySaid := over
end identNobodyDone
end Go.Proofs.Ytpendcaefjbomaa
