/- 'StockNobody' returns true for every input: the row of this law, proved. No condition. -/
import Derived.Test.YtfogcaeflblpdaaStlD
import Derived.Test.YtfogcaeflblpdaaRgT
import Derived.Test.YtfogcaeflblpdaaRio
import Derived.Test.YtfogcaeflblpdaaStlF
import Derived.ProofKit
import Derived.OpenShut
import Derived.ShutString
import Derived.ChangeOld
import Derived.SizedLaws
namespace Go.Proofs.Ytfogcaeflblpdaa
open Go.RowKit
set_option linter.unusedVariables false
set_option linter.unusedSimpArgs false
open Go.Shelf
attribute [local go_sem] Oper.semAt_some
set_option maxRecDepth 100000 in
set_option maxHeartbeats 6400000 in
theorem stockNobody_walk {w : World} (o : OpV) (A : Option Addr) (c : Nat) (ho : OpVAt w o A c) (hl0 : c * 24 ≤ 140737488351232) :
    Calls Try.prog 6 #[.agg #[.int .i64 o.i0, .slice A o.l.length c, .string ⟨o.g2.toArray⟩, .int .i64 o.i3]] w fun e w' => e = .returned (.bool true) ∧ RowKit.Below w.heap.size w w' := by
  refine (callsIn_wide (n := 9)).1 ?_
  refine callsIn_of_wp_marks Try.func6 rfl trivial ?_ rfl
  simp only [Try.ntmps6, List.size_toArray, List.length_cons, List.length_nil, Nat.reduceAdd, Nat.reduceSub, Array.replicate_succ, Array.replicate_zero, List.push_toArray, List.append_toArray, List.nil_append, List.cons_append]
  have hnn := func_eq_nilS
  have e1 := (Blk.new w 28 #[.int .i64 o.i0, .slice A o.l.length c, .string ⟨o.g2.toArray⟩, .int .i64 o.i3]).alloc (.cells #[.bool false] 4)
  have e2 := Blk.new (w.alloc (.cells #[.int .i64 o.i0, .slice A o.l.length c, .string ⟨o.g2.toArray⟩, .int .i64 o.i3] 28)) 4 #[.bool false]
  rw [World.size_alloc] at e2
  have hb2 := ((RowKit.Below.refl w.heap.size w).alloc (Nat.le_refl _) (.cells #[.int .i64 o.i0, .slice A o.l.length c, .string ⟨o.g2.toArray⟩, .int .i64 o.i3] 28)).alloc (by simp) (.cells #[.bool false] 4)
  have hz2 : ((w.alloc (.cells #[.int .i64 o.i0, .slice A o.l.length c, .string ⟨o.g2.toArray⟩, .int .i64 o.i3] 28)).alloc (.cells #[.bool false] 4)).heap.size = w.heap.size + 2 := by simp
  replace hz2 := Lib.hid hz2
  gi_wp2_with (first | (refine ⟨trivial, ?_⟩; gi_at_call 15; refine (callsIn_wide.2 (goods_nil _)).mono ?_; rintro e w1 ⟨g, p, b, rfl, hS, hg, hgw, -, -, hx1⟩) | (refine ⟨trivial, ?_⟩; gi_at_call 9; refine (callsIn_wide.2 (lives_any _)).mono ?_; rintro e w2 ⟨rfl, hx2⟩))
  have hb3 := hb2.trans ((hx1.trans (hx2.mono hx1.size)).mono hb2.size)
  have hx12 := hx1.trans (hx2.mono hx1.size)
  have f1 := e1.kept (Keep.of_below hx12) (Nat.not_le.2 e1.lt)
  have f2 := e2.kept (Keep.of_below hx12) (Nat.not_le.2 e2.lt)
  have hS2 := hS.below hx2
  have hg2 := (hg.kept (Keep.of_below hx2) (Nat.not_le.2 hg.lt)).cell 0
  simp at hg2
  clear e1 e2 hb2 hx1 hx2 hx12 hS hg hz2
  have hseq := goods_seq hS2 (by simp) g (fun _ => False) (fun k e => e.elim) hg2
  rw [show sortU [] = [] from by unfold sortU; simp] at hseq
  refine range_own (a := _) (w := w2) (w0 := w2) (gf := 61) (lb := #[.pointer (some ⟨g, 0, none⟩)]) (by first | rfl | simp [go_sem]) (enters_of Try.func61 (by kernel_rfl) rfl) hseq (RowKit.Below.refl _ _) (fun k e => e.elim) (fun _ => rfl)
    (fun pre W => RowKit.Below w2.heap.size w2 W) (fun c pre W => False)
    (fun s X Y row h hg hr => below_row h hg h.size (Nat.le_refl _) hr) (fun c s X Y row h hg hr => h) (RowKit.Below.refl _ _) ?round ?done ?stop
  case round =>
    apply Exists.intro
    constructor
    · intro l' x W K hK
      gi_wp2
      exact hK
    · intro l' pre x W hpre
      have := hpre.length_le
      simp at this
  case stop =>
    rintro D c pre W hD hpre hF hDf
    exact hF.elim
  case done =>
    rintro D W hD hb hDf
    have f1' := f1.kept (Keep.of_below hb) (Nat.not_le.2 f1.lt)
    have f2' := f2.kept (Keep.of_below hb) (Nat.not_le.2 f2.lt)
    have hb5 := hb3.trans (hb.mono hb3.size)
    have hz5 := hb.size
    have hl1 := f1.lt
    have hl2 := f2.lt
    clear f1 f2 hb3 hb hg2 hS2
    have cells := fun (W' : World) (hb : RowKit.Below W.heap.size W W') => show W'.cell? ⟨w.heap.size, 0, none⟩ = some (.int .i64 o.i0) ∧ W'.cell? ⟨w.heap.size, 1, none⟩ = some (.slice A o.l.length c) ∧ W'.cell? ⟨w.heap.size, 2, none⟩ = some (.string ⟨o.g2.toArray⟩) ∧ W'.cell? ⟨w.heap.size, 3, none⟩ = some (.int .i64 o.i3) from by
      have h := f1'.kept (Keep.of_below hb) (Nat.not_le.2 f1'.lt)
      have h0 := h.cell 0
      have h1 := h.cell 1
      have h2 := h.cell 2
      have h3 := h.cell 3
      simp at h0 h1 h2 h3
      exact ⟨h0, h1, h2, h3⟩
    have hbw := Lib.hid (fun (W' : World) (hb : RowKit.Below W.heap.size W W') => hb5.trans (hb.mono hb5.size))
    obtain ⟨z0, z1, z2, z3⟩ := cells W (RowKit.Below.refl _ _)
    replace cells := Lib.hid cells
    have hln := Lib.hid (show o.l.length * 24 ≤ 140737488355328 from by have := ho.cap; omega)
    have hlw := Lib.hid (fun x hx => (ho.wl x hx).1)
    gi_wp2_with (first | (refine ⟨trivial, ?_⟩; gi_at_call 14; refine (callsIn_wide.2 (count_nil _ _ _)).mono ?_; rintro e v1 ⟨rfl, hx1⟩; obtain ⟨z0, z1, z2, z3⟩ := cells.out v1 hx1) | (refine ⟨trivial, ?_⟩; gi_at_call 10; refine (callsIn_wide.2 (do_nil _ _ _)).mono ?_; rintro e v2 ⟨rfl, hy2⟩; have hx2 := hx1.trans (hy2.mono hx1.size); obtain ⟨z0, z1, z2, z3⟩ := cells.out v2 hx2) | (refine ⟨trivial, ?_⟩; gi_at_call 16; refine (callsIn_wide.2 (level_nil _ _)).mono ?_; rintro e v3 ⟨rfl, hy3⟩; have hx3 := hx2.trans (hy3.mono hx2.size); obtain ⟨z0, z1, z2, z3⟩ := cells.out v3 hx3) | (refine ⟨trivial, ?_⟩; gi_at_call 17; refine (callsIn_wide.2 (flow_nil _ _)).mono ?_; rintro e v4 ⟨rfl, hy4⟩; have hx4 := hx3.trans (hy4.mono hx3.size); obtain ⟨z0, z1, z2, z3⟩ := cells.out v4 hx4) | (refine ⟨trivial, ?_⟩; gi_at_call 18; refine (callsIn_wide.2 (offer_nil A o.l.length c o.l _ (ho.il.below (hbw.out _ hx4)) (hln.out) ho.wl hlw.out)).mono ?_; rintro e v5 ⟨av, ac, rfl, hy5⟩; have hx5 := hx4.trans (hy5.mono hx4.size); obtain ⟨z0, z1, z2, z3⟩ := cells.out v5 hx5) | (refine ⟨trivial, ?_⟩; gi_at_call 11; refine (callsIn_wide.2 (pack_nil _)).mono ?_; rintro e v6 ⟨rfl, hy6⟩; have hx6 := hx5.trans (hy6.mono hx5.size); obtain ⟨z0, z1, z2, z3⟩ := cells.out v6 hx6) | (refine ⟨trivial, ?_⟩; gi_at_call 19; refine (callsIn_wide.2 (fork_nil _)).mono ?_; rintro e v7 ⟨rfl, hww⟩; subst v7; have g2 := f2'.kept (Keep.of_below hx6) (Nat.not_le.2 f2'.lt); have hr := g2.cell 0; have hrf := g2.frozen 0; have hrl := g2.lt; simp at hr; have hDw := (hx6.block D (Array.getElem?_eq_some_iff.1 hDf).1).trans hDf; have g3 := hb5.trans (hx6.mono hb5.size)))
    have hD2 : w.heap.size + 1 < D := by omega
    have hDs : (v6.setCell ⟨w.heap.size + 1, 0, none⟩ (.bool true)).heap[D]? = some (.deferred (some [])) := (Below.heap_setCell v6 ⟨w.heap.size + 1, 0, none⟩ (.bool true) D (by dsimp only; omega)).trans hDw
    have hk := g3.setCell (p := ⟨w.heap.size + 1, 0, none⟩) (by dsimp only; omega) (.bool true)
    have hp := cell_kept (World.cell?_setCell_same' v6 ⟨w.heap.size + 1, 0, none⟩ (.bool true) (by rw [hr]; rfl)) (grownBy_putObj' _ D (.deferred none)) (fun r e => by cases e; exact ⟨_, hDs, rfl⟩)
    refine ⟨by simp, .inl ⟨_, _, rfl, run_takeDeferred hDs, ?_⟩⟩
    refine ⟨.bool true, ?_, rfl, bel_putD hk (by omega) hDs⟩
    simp [results, Try.f6, go_sem, hp]

namespace stockNobodyDone
open Go.ChangeShapes Go.WideShapes Go.ChangeAt
set_option maxRecDepth 100000 in
theorem lifted (os : Os) (started : os.Started) (H : Type) (enc : TypeId × Value → H) :
    ReturnsInHanded {} Try.checked os 6 .any (Rows.stockNobodySpec.pre6 enc Try.prog Try.f6 Rows.stockNobodyRow.domain false) (Rows.stockNobodySpec.post enc Try.prog Try.f6 false true false false) := by
  refine returnsInHanded_of_change_sized (C := Try.checked) own started (by kernel_rfl) Try.func6
    (ChangeSpec.witness6 (enc := enc) (C := Try.checked) false ⟨#[], #[Value.agg #[.int .i64 0, .slice none 0 0, .string ⟨#[]⟩, .int .i64 0]], []⟩ 8 (by kernel_rfl) (by kernel_rfl) (by kernel_rfl) (by kernel_rfl)) ?_
  intro W base args ds gs before hval0 hW hcnd hsz0 _
  have hsz : (DataW.weightsEach Try.prog (Try.f6.params.toList ++ Rows.stockNobodySpec.plain.varTypes Try.prog) (ds ++ gs)).all (· ≤ reachBytes) = true := hsz0
  clear hsz0
  have hval : ∀ (j : Nat) t v, Try.f6.params[j]? = some t → args[j]? = some v → Value.okWide Try.prog W .any base t v := hval0
  have hW' := hW
  obtain ⟨p, q, hA0, hV, rfl, hfz, hnd⟩ := hW
  have hA : DataW.TrodAll enc Try.prog W 0 (fun _ => true) true Try.f6.params.toList args.toList ds p := hA0
  rw [Try.params6] at hA hval hsz
  obtain ⟨v0, vs0, d0, ds0, p0, q0, hargs, rfl, rfl, h0, r0⟩ := trodAll_cons hA
  obtain ⟨rfl, rfl, rfl⟩ := trodAll_nil r0
  obtain rfl : args = #[v0] := by cases args; simp_all
  obtain ⟨rfl, rfl⟩ := trodVars_none hV
  obtain ⟨o0, A0, c0, rfl, ho0, hw0⟩ := opv_open (hval 0 28 v0 rfl rfl) h0
  have hl0 : c0 * 24 ≤ 140737488351232 := by
    rcases hw0 with hz | hz
    · omega
    · have := List.all_eq_true.1 hsz _ (DataW.weights_mem_each (j := 0) rfl rfl _ hz)
      simp [reachBytes] at this
      first | omega | (have := of_decide_eq_true this; omega)
  have k0' := h0
  have lt0 : ∀ x ∈ p0, x.block < W.heap.size := by obtain ⟨m, hm⟩ := h0; exact DataW.trod_lt m _ _ _ hm
  clear hA0 hval0
  refine (stockNobody_walk (w := W) o0 A0 c0 ho0 hl0).mono fun e W' ⟨he, bel⟩ => ?_
  subst he
  exact ⟨_, rfl, _, _, _, [], _, [], hW', trodAll_mk1 (shut_bool Try.underlying4 _), (trodAll_cons_mk (Below.trod laidOut (by kernel_rfl) (of_decide_eq_true (by kernel_rfl)) k0' bel lt0) trodAll_mk0), rfl, bel.frame _, fun h => by cases h⟩

theorem over : Rows.stockNobodyRow.holds Try.pinned (OpenSpec.ofChange Rows.stockNobodySpec) :=
  OpenClaim.holds_of_wide 6 Try.f6 rfl rfl rfl rfl rfl rfl rfl ⟨rfl, rfl, rfl, rfl, rfl⟩ rfl rfl rfl rfl rfl (by kernel_rfl) Try.func6 (by kernel_rfl)
    (of_decide_eq_true (by kernel_rfl)) (by unfold Func.isWrapper; first | (rw [if_pos (by decide +kernel)]; kernel_rfl) | (rw [if_neg (by decide +kernel)]; exact ⟨rfl, rfl⟩))
    (fun os started H enc _ => lifted os started H enc)

/-- The statement. -/
theorem proved : Rows.StockNobodySaid := over
end stockNobodyDone
end Go.Proofs.Ytfogcaeflblpdaa
