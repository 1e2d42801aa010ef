/- 'BacklogNobody' returns true for every input: the row of this law, proved. No condition. -/
import Derived.Test.YtnkekjaljhpmjaaBkO
import Derived.Test.YtnkekjaljhpmjaaBkR
import Derived.ProofKit
import Derived.OpenShut
import Derived.ShutString
import Derived.ChangeOld
import Derived.SizedLaws
namespace Go.Proofs.Ytnkekjaljhpmjaa
open Go.RowKit
set_option linter.unusedVariables false
set_option linter.unusedSimpArgs false
open Go.Shelf
attribute [local go_sem] Oper.semAt_some
set_option maxRecDepth 100000 in
set_option maxHeartbeats 3200000 in
theorem backlogNobody_walk {w : World} (k n : Int) (hw : (Lit.int .i64 k).wf = true ∧ (Lit.int .i64 n).wf = true) :
    Calls Try.prog 6 #[.agg #[.int .i64 k, .int .i64 n]] w fun e w' => e = .returned (.bool true) ∧ RowKit.Below w.heap.size w w' := by
  refine (callsIn_wide (n := 9)).1 ?_
  refine callsIn_of_wp_marks Try.func6 rfl trivial ?_ rfl
  simp only [Try.ntmps6, List.size_toArray, List.length_cons, List.length_nil, Nat.reduceAdd, Nat.reduceSub, Array.replicate_succ, Array.replicate_zero, List.push_toArray, List.append_toArray, List.nil_append, List.cons_append]
  have hnn := func_eq_nilB
  gi_wp2_with (first | (refine ⟨trivial, ?_⟩; gi_at_call 25; refine (callsIn_wide.2 (ball_make none _)).mono ?_; rintro e w' ⟨rfl, rfl⟩) | (refine ⟨trivial, ?_⟩; gi_at_call 11; refine (callsIn_wide.2 (lives_any _)).mono ?_; rintro e w1 ⟨rfl, hb1⟩))
  have e1 := ((Blk.new w 31 #[.int .i64 k, .int .i64 n]).alloc (.cells #[.bool false] 4)).alloc (.cells #[.pointer none] 23)
  have e2 := (Blk.new (w.alloc (.cells #[.int .i64 k, .int .i64 n] 31)) 4 #[.bool false]).alloc (.cells #[.pointer none] 23)
  have e3 := Blk.new ((w.alloc (.cells #[.int .i64 k, .int .i64 n] 31)).alloc (.cells #[.bool false] 4)) 23 #[.pointer none]
  rw [World.size_alloc] at e2
  rw [World.size_alloc, World.size_alloc] at e3
  have hb3 := (((RowKit.Below.refl w.heap.size w).alloc (Nat.le_refl _) (.cells #[.int .i64 k, .int .i64 n] 31)).alloc (by simp) (.cells #[.bool false] 4)).alloc (by simp; omega) (.cells #[.pointer none] 23)
  have hz3 : (((w.alloc (.cells #[.int .i64 k, .int .i64 n] 31)).alloc (.cells #[.bool false] 4)).alloc (.cells #[.pointer none] 23)).heap.size = w.heap.size + 3 := by simp
  generalize hW : ((w.alloc (.cells #[.int .i64 k, .int .i64 n] 31)).alloc (.cells #[.bool false] 4)).alloc (.cells #[.pointer none] 23) = W0 at *
  clear hW
  have e1' := e1.kept (Keep.of_below hb1) (by omega)
  have e2' := e2.kept (Keep.of_below hb1) (by omega)
  have e3' := e3.kept (Keep.of_below hb1) (by omega)
  have hb4 := hb3.trans (hb1.mono (by omega))
  have hz4 := hb1.size
  have b0 := e3'.cell 0
  simp at b0
  clear e1 e2 e3 hb3 hb1
  refine range_none (by first | rfl | simp [go_sem]) (enters_of Try.func37 (by kernel_rfl) rfl) (biter_nil_goes (w.heap.size + 1 + 1) _ (by omega) b0) ?_
  intro D W hD hb hDf
  have f1 := e1'.kept (Keep.of_below hb) (by omega)
  have f2 := e2'.kept (Keep.of_below hb) (by omega)
  have hb5 := hb4.trans (hb.mono (by omega))
  have hz5 := hb.size
  clear e1' e2' e3' hb4 hb b0
  have call := fun (W' : World) (hb : RowKit.Below W.heap.size W W') => And.intro (f1.kept (Keep.of_below hb) (by omega)) (And.intro (f2.kept (Keep.of_below hb) (by omega)) (hb5.trans (hb.mono (by omega))))
  have cellN := fun (W' : World) (hb : RowKit.Below W.heap.size W W') => show W'.cell? ⟨w.heap.size, 1, none⟩ = some (.int .i64 n) from by have := (f1.kept (Keep.of_below hb) (by omega)).cell 1; simpa using this
  gi_wp2_with (first | (refine ⟨trivial, ?_⟩; gi_at_call 16; refine (callsIn_wide.2 (bnews_nil _)).mono ?_; rintro e w' ⟨⟨_, rfl⟩, hww⟩; subst w') | (refine ⟨trivial, ?_⟩; gi_at_call 18; refine (callsIn_wide.2 (btry_nil _)).mono ?_; rintro e w4 ⟨rfl, hx4⟩; have hc4 := cellN w4 hx4) | (refine ⟨trivial, ?_⟩; gi_at_call 12; refine (callsIn_wide.2 (bpush_nil _ _)).mono ?_; rintro e w' ⟨rfl, hww⟩; subst w') | (refine ⟨trivial, ?_⟩; gi_at_call 14; refine (callsIn_wide.2 (bdrop_nil _ _)).mono ?_; rintro e w6 ⟨rfl, hx6⟩; have hb6 := hx4.trans (hx6.mono hx4.size); have hc6 := cellN w6 hb6) | (refine ⟨trivial, ?_⟩; gi_at_call 20; refine (callsIn_wide.2 (bback_nil _ _)).mono ?_; rintro e w' ⟨rfl, hww⟩; subst w') | (refine ⟨trivial, ?_⟩; gi_at_call 26; refine (callsIn_wide.2 (bout_nil _)).mono ?_; rintro e w' ⟨rfl, hww⟩; subst w') | (refine ⟨trivial, ?_⟩; gi_at_call 23; refine (callsIn_wide.2 (bplace_nil _ _)).mono ?_; rintro e w8 ⟨rfl, hx8⟩; have hb10 := hb6.trans (hx8.mono hb6.size); obtain ⟨g1, g2, g3⟩ := call _ hb10; have hr := g2.cell 0; have hrf := g2.frozen 0; simp at hr; have hDw := (hb10.block D (Array.getElem?_eq_some_iff.1 hDf).1).trans hDf) | (refine ⟨trivial, ?_⟩; gi_at_call 27; refine (callsIn_wide.2 (blen_nil _)).mono ?_; rintro e w' ⟨rfl, hww⟩; subst w'))
  have hD2 : w.heap.size + 1 < D := by omega
  have hDs : (w8.setCell ⟨w.heap.size + 1, 0, none⟩ (.bool true)).heap[D]? = some (.deferred (some [])) := (Below.heap_setCell w8 ⟨w.heap.size + 1, 0, none⟩ (.bool true) D (by dsimp only; omega)).trans hDw
  have hk := g3.setCell (p := ⟨w.heap.size + 1, 0, none⟩) (by dsimp only; omega) (.bool true)
  have hp := cell_kept (World.cell?_setCell_same' w8 ⟨w.heap.size + 1, 0, none⟩ (.bool true) (by rw [hr]; rfl)) (grownBy_putObj' _ D (.deferred none)) (fun r e => by cases e; exact ⟨_, hDs, rfl⟩)
  refine ⟨by simp, .inl ⟨_, _, rfl, run_takeDeferred hDs, ?_⟩⟩
  refine ⟨.bool true, ?_, rfl, bel_putD hk (by omega) hDs⟩
  simp [results, Try.f6, go_sem, hp]

namespace backlogNobodyDone
open Go.ChangeShapes Go.WideShapes Go.ChangeAt
set_option maxRecDepth 100000 in
theorem lifted (os : Os) (started : os.Started) (H : Type) (enc : TypeId × Value → H) :
    ReturnsInHanded {} Try.checked os 6 .any (Rows.backlogNobodySpec.pre6 enc Try.prog Try.f6 Rows.backlogNobodyRow.domain false) (Rows.backlogNobodySpec.post enc Try.prog Try.f6 false true false false) := by
  refine returnsInHanded_of_change_sized (C := Try.checked) own started (by kernel_rfl) Try.func6
    (ChangeSpec.witness6 (enc := enc) (C := Try.checked) false ⟨#[], #[Value.agg #[.int .i64 0, .int .i64 0]], []⟩ 8 (by kernel_rfl) (by kernel_rfl) (by kernel_rfl) (by kernel_rfl)) ?_
  intro W base args ds gs before hval0 hW hcnd hsz0 _
  have hsz : (DataW.weightsEach Try.prog (Try.f6.params.toList ++ Rows.backlogNobodySpec.plain.varTypes Try.prog) (ds ++ gs)).all (· ≤ reachBytes) = true := hsz0
  clear hsz0
  have hval : ∀ (j : Nat) t v, Try.f6.params[j]? = some t → args[j]? = some v → Value.okWide Try.prog W .any base t v := hval0
  have hW' := hW
  obtain ⟨p, q, hA0, hV, rfl, hfz, hnd⟩ := hW
  have hA : DataW.TrodAll enc Try.prog W 0 (fun _ => true) true Try.f6.params.toList args.toList ds p := hA0
  rw [Try.params6] at hA hval hsz
  obtain ⟨v0, vs0, d0, ds0, p0, q0, hargs, rfl, rfl, h0, r0⟩ := trodAll_cons hA
  obtain ⟨rfl, rfl, rfl⟩ := trodAll_nil r0
  obtain rfl : args = #[v0] := by cases args; simp_all
  obtain ⟨rfl, rfl⟩ := trodVars_none hV
  obtain ⟨k0, n0, rfl, wn0⟩ := op_open (hval 0 31 v0 rfl rfl) h0
  have k0' := h0
  have lt0 : ∀ x ∈ p0, x.block < W.heap.size := by obtain ⟨m, hm⟩ := h0; exact DataW.trod_lt m _ _ _ hm
  clear hA0 hval0
  refine (backlogNobody_walk (w := W) k0 n0 wn0).mono fun e W' ⟨he, bel⟩ => ?_
  subst he
  exact ⟨_, rfl, _, _, _, [], _, [], hW', trodAll_mk1 (shut_bool Try.underlying4 _), (trodAll_cons_mk (Below.trod laidOut (by kernel_rfl) (of_decide_eq_true (by kernel_rfl)) k0' bel lt0) trodAll_mk0), rfl, bel.frame _, fun h => by cases h⟩

theorem over : Rows.backlogNobodyRow.holds Try.pinned (OpenSpec.ofChange Rows.backlogNobodySpec) :=
  OpenClaim.holds_of_wide 6 Try.f6 rfl rfl rfl rfl rfl rfl rfl ⟨rfl, rfl, rfl, rfl, rfl⟩ rfl rfl rfl rfl rfl (by kernel_rfl) Try.func6 (by kernel_rfl)
    (of_decide_eq_true (by kernel_rfl)) (by unfold Func.isWrapper; first | (rw [if_pos (by decide +kernel)]; kernel_rfl) | (rw [if_neg (by decide +kernel)]; exact ⟨rfl, rfl⟩))
    (fun os started H enc _ => lifted os started H enc)

/-- The statement. -/
theorem proved : Rows.BacklogNobodySaid := over
end backlogNobodyDone
end Go.Proofs.Ytnkekjaljhpmjaa
