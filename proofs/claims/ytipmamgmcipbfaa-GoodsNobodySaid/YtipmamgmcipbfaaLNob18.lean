/- 'GoodsNobody' returns true for every input: the row of this law, proved. No condition. -/
import Derived.Test.YtipmamgmcipbfaaGdN
import Derived.Test.YtipmamgmcipbfaaGdL
import Derived.Test.YtipmamgmcipbfaaStlD
import Derived.Test.YtipmamgmcipbfaaRgT
import Derived.Deep.CutBlock
import Derived.Deep.CutRange
import Derived.ProofKit
import Derived.OpenShut
import Derived.ShutString
import Derived.ChangeOld
import Derived.SizedLaws
import Derived.ChangeMaps5
namespace Go.Proofs.Ytipmamgmcipbfaa
open Go.RowKit
set_option linter.unusedVariables false
set_option linter.unusedSimpArgs false
open Go.Shelf
attribute [local go_sem] Oper.semAt_some
set_option maxRecDepth 100000 in
set_option maxHeartbeats 6400000 in
theorem goodsNobody_walk {w : World} (n : Int) (w0 : (Lit.int .i64 n).wf = true) (g : List UInt8) (hg : g.length ≤ maxLen) :
    Calls Try.prog 6 #[.int .i64 n, .string ⟨g.toArray⟩] w fun e w' => e = .returned (.bool true) ∧ RowKit.Below w.heap.size w w' := by
  clear w0
  by_cases hn : 0 ≤ n ∧ n ≤ 100
  case neg =>
    by_cases h1 : n < 0
    · refine (callsIn_wide (n := 9)).1 ?_
      refine callsIn_of_wp_marks Try.func6 rfl trivial ?_ rfl
      simp only [Try.ntmps6, List.size_toArray, List.length_cons, List.length_nil, Nat.reduceAdd, Nat.reduceSub, Array.replicate_succ, Array.replicate_zero, List.push_toArray, List.append_toArray, List.nil_append, List.cons_append]
      have hd : decide (n < 0) = true := decide_eq_true h1
      have hb0 := (RowKit.Below.refl w.heap.size w).alloc (Nat.le_refl _) (.cells #[.bool false] 4)
      have hC0 := CL.new w (.bool false) 4
      gi_wp2_with (refine ⟨trivial, ?_⟩; gi_at_call 9; refine (callsIn_wide.2 (lives_any _)).mono ?_; rintro e w3 ⟨rfl, hx3⟩; (have hC1 := hC0.below hx3); (have c1 := hC1.at_); (have f1 := hC1.fz))
      have hk := (Keep.refl (fun k => k = w.heap.size) w3).setCell (p := ⟨w.heap.size, 0, none⟩) (fun _ => rfl) (.bool true)
      have hz := hx3.size
      simp only [World.size_alloc] at hz
      have hb1 := (hb0.trans (hx3.mono hb0.size)).trans (hk.below (B := w.heap.size) (by omega) (fun i hi e => by omega))
      have c2 := (hC1.set_ (.bool true)).at_
      exact ⟨.bool true, by simp [results, Try.results6, go_sem, c2], rfl, hb1⟩
    · refine (callsIn_wide (n := 9)).1 ?_
      refine callsIn_of_wp_marks Try.func6 rfl trivial ?_ rfl
      simp only [Try.ntmps6, List.size_toArray, List.length_cons, List.length_nil, Nat.reduceAdd, Nat.reduceSub, Array.replicate_succ, Array.replicate_zero, List.push_toArray, List.append_toArray, List.nil_append, List.cons_append]
      have hd : decide (n < 0) = false := decide_eq_false h1
      have hd2 : decide ((100 : Int) < n) = true := decide_eq_true (by omega)
      have hb0 := (RowKit.Below.refl w.heap.size w).alloc (Nat.le_refl _) (.cells #[.bool false] 4)
      have hC0 := CL.new w (.bool false) 4
      gi_wp2_with (refine ⟨trivial, ?_⟩; gi_at_call 9; refine (callsIn_wide.2 (lives_any _)).mono ?_; rintro e w3 ⟨rfl, hx3⟩; (have hC1 := hC0.below hx3); (have c1 := hC1.at_); (have f1 := hC1.fz))
      have hk := (Keep.refl (fun k => k = w.heap.size) w3).setCell (p := ⟨w.heap.size, 0, none⟩) (fun _ => rfl) (.bool true)
      have hz := hx3.size
      simp only [World.size_alloc] at hz
      have hb1 := (hb0.trans (hx3.mono hb0.size)).trans (hk.below (B := w.heap.size) (by omega) (fun i hi e => by omega))
      have c2 := (hC1.set_ (.bool true)).at_
      exact ⟨.bool true, by simp [results, Try.results6, go_sem, c2], rfl, hb1⟩
  obtain ⟨hn0, hn1⟩ := hn
  obtain ⟨m, rfl⟩ : ∃ m : Nat, n = (m : Int) := ⟨n.toNat, by omega⟩
  have hd : decide ((m : Int) < 0) = false := decide_eq_false (by omega)
  have hd2 : decide ((100 : Int) < (m : Int)) = false := decide_eq_false (by omega)
  refine (callsIn_wide (n := 9)).1 ?_
  refine callsIn_of_wp_marks Try.func6 rfl trivial ?_ rfl
  simp only [Try.ntmps6, List.size_toArray, List.length_cons, List.length_nil, Nat.reduceAdd, Nat.reduceSub, Array.replicate_succ, Array.replicate_zero, List.push_toArray, List.append_toArray, List.nil_append, List.cons_append]
  have hb0 := (RowKit.Below.refl w.heap.size w).alloc (Nat.le_refl _) (.cells #[.bool false] 4)
  have hC0 := CL.new w (.bool false) 4
  obtain ⟨w1, hmk, hPO, hx1⟩ := run_make_nils (w.alloc (.cells #[.bool false] 4)) w.heap.size m hb0.size (by omega)
  have hnn := func_eq_nilS
  have hVm : ∀ (W : World), PO w.heap.size W (.slice (some ⟨w.heap.size + 1, 0, none⟩) m m) ((nilL m).map Sk.v) → VL W (some ⟨w.heap.size + 1, 0, none⟩) m ((nilL m).map Sk.v) := fun W h => by
    obtain ⟨A, c, hAe, -, -, hVL⟩ := h.form
    injection hAe with hA1 hA2 hA3
    rw [← hA1, ← hA2] at hVL
    exact hVL
  have hz1 := hx1.size
  simp only [World.size_alloc] at hz1 hmk hPO
  have hVL := hVm _ hPO
  have hC1 := hC0.below hx1
  have hb1 := hb0.trans (hx1.mono hb0.size)
  have hone : ∀ u ∈ (nilL m).map Sk.v, u.oneCell' = true := fun u hu => by
    rw [nilL_v] at hu
    rw [List.eq_of_mem_replicate hu]
    rfl
  have hGd := fun W h => gds_any (some ⟨w.heap.size + 1, 0, none⟩) m m _ W h hone (by omega)
  have hT0 : totV g (sumR ((nilL m).map fun x => x.f g)) (wrap64 ((sumR ((nilL m).map fun x => x.f g)).se - (sumR ((nilL m).map fun x => x.f g)).cm)) = .agg #[.string ⟨g.toArray⟩, .int .i64 0, .int .i64 0, .int .i64 0, .int .i64 0, .int .i64 0, .int .i64 0, .int .i64 0, .int .i64 0, .int .i64 0, .int .i64 0, .int .i64 0, .int .i64 0] := by
    rw [nilL_sum]
    unfold totV row0
    rw [show wrap64 ((0 : Int) - 0) = 0 by decide +kernel]
  have cT : ∀ W, VL W (some ⟨w.heap.size + 1, 0, none⟩) m ((nilL m).map Sk.v) → Calls Try.prog 10 #[.slice (some ⟨w.heap.size + 1, 0, none⟩) m m, .string ⟨g.toArray⟩] W fun e w' => e = .returned (.agg #[.string ⟨g.toArray⟩, .int .i64 0, .int .i64 0, .int .i64 0, .int .i64 0, .int .i64 0, .int .i64 0, .int .i64 0, .int .i64 0, .int .i64 0, .int .i64 0, .int .i64 0, .int .i64 0]) ∧ RowKit.Below W.heap.size W w' := fun W h => by
    have := gtotal_any _ m m (nilL m) g hg W h (nilL_sp m W) (by omega)
    rw [hT0] at this
    exact this
  have cTs : ∀ W, VL W (some ⟨w.heap.size + 1, 0, none⟩) m ((nilL m).map Sk.v) → Calls Try.prog 13 #[.slice (some ⟨w.heap.size + 1, 0, none⟩) m m] W fun e w' => ∃ A cap, e = .returned (.slice A 0 cap) ∧ RowKit.Below W.heap.size W w' := fun W h => by
    refine (gtotals_any _ m m (nilL m) W h (nilL_sp m W) (nilL_ks m) (by omega)).mono ?_
    rintro e w' ⟨v, rfl, hT, hx⟩
    rw [nilL_sort] at hT
    obtain ⟨A, cap, rfl, -⟩ := hT.form
    exact ⟨A, cap, rfl, hx⟩
  have cA : ∀ W, VL W (some ⟨w.heap.size + 1, 0, none⟩) m ((nilL m).map Sk.v) → Calls Try.prog 17 #[.slice (some ⟨w.heap.size + 1, 0, none⟩) m m] W fun e w' => e = .returned (.bool true) ∧ RowKit.Below W.heap.size W w' := fun W h => by
    have := gall_any _ m m (nilL m) W h (nilL_sp m W) (nilL_ks m) (by omega)
    rw [show allK (nilL m) = true from by unfold allK; rw [nilL_sort]; rfl] at this
    exact this
  clear hT0
  gi_wp2_with (refine ⟨trivial, ?_⟩; gi_at_call 14; refine (callsIn_wide.2 (hGd _ hVL)).mono ?_; rintro e w2 ⟨B, A2, c2, rfl, hCB, hVL2, hx2⟩)
  have hC2 := hC1.below hx2
  have hb2 := hb1.trans (hx2.mono hb1.size)
  have hPO2 := hPO.below hx2
  gi_wp2_with (refine ⟨trivial, ?_⟩; gi_at_call 9; refine (callsIn_wide.2 (lives_any _)).mono ?_; rintro e w3 ⟨rfl, hx3⟩)
  have hC3 := hC2.below hx3
  have hb3 := hb2.trans (hx3.mono hb2.size)
  have hPO3 := hPO2.below hx3
  have hVLb := hVL2.below hx3
  have hCB3 := hCB.below hx3
  have hz3 := hb3.size
  have hcl := hC3.lt
  have hseq := gds_gives (fun _ => False) id id id id id B A2 m c2 (nilL m) (fun _ => False) w3 (fun k h => h.elim) hCB3.at_ hVLb (nilL_sp m w3) (nilL_ks m) (by omega) (by rw [nilL_known]; simp)
  rw [nilL_sort] at hseq
  clear hGd hVL hVL2 hVLb hCB hCB3 hC0 hC1 hC2 hb0 hb1 hb2 hPO hPO2 hmk hx1 hx2 hx3 hnn hone
  refine range_ownT (a := _) (w := w3) (w0 := w3) (gf := 37) (lb := #[.pointer (some ⟨B, 0, none⟩)]) (by first | rfl | simp [go_sem]) (enters_of Try.func37 (by kernel_rfl) rfl) hseq (RowKit.Below.refl _ _) (fun k h => h.elim) (fun _ => rfl)
    (fun pre W' => CL W' w.heap.size (.bool false) ∧ PO w.heap.size W' (.slice (some ⟨w.heap.size + 1, 0, none⟩) m m) ((nilL m).map Sk.v) ∧ RowKit.Below w.heap.size w W') (fun c pre W' => False) ?hI (fun c s X Y row h hg hr => h) ⟨hC3, hPO3, hb3⟩ ?round ?done ?stop
  case hI => exact fun s A A' row h hg hr => ⟨h.1.row hg hr, h.2.1.row hg hr, below_row h.2.2 hg h.2.2.size (by omega) hr⟩
  case round =>
    apply Exists.intro
    constructor
    · intro l' x W' K hK
      gi_wp2
      exact hK
    · rintro l' pre x W' hpre hz h
      exact absurd hpre.length_le (by simp)
  case done =>
    rintro D W' hD ⟨hC, hPO', hb⟩ hDf
    have hbd := fun W => (show (Instr.build 33 #[(0, .string ⟨g.toArray⟩)]).run Try.prog W = .ok (.agg #[.string ⟨g.toArray⟩, .int .i64 0, .int .i64 0, .int .i64 0, .int .i64 0, .int .i64 0, .int .i64 0, .int .i64 0, .int .i64 0, .int .i64 0, .int .i64 0, .int .i64 0, .int .i64 0]) W by kernel_rfl)
    have hq := fun W => tot_same g 0 0 0 0 0 0 0 0 0 0 0 0 W
    have hDl := (Array.getElem?_eq_some_iff.1 hDf).1
    gi_wp2_with (first
      | (refine ⟨trivial, ?_⟩; gi_at_call 10; refine (callsIn_wide.2 (cT _ (hVm _ hPO'))).mono ?_; rintro e w5 ⟨rfl, hx5⟩)
      | (refine ⟨trivial, ?_⟩; gi_at_call 13; refine (callsIn_wide.2 (cTs _ ((hVm _ hPO').below hx5))).mono ?_; rintro e w6 ⟨A6, c6, rfl, hx6⟩)
      | (refine ⟨trivial, ?_⟩; gi_at_call 17; refine (callsIn_wide.2 (cA _ (((hVm _ hPO').below hx5).below hx6))).mono ?_; rintro e w7 ⟨rfl, hx7⟩; (have hx := (hx5.trans (hx6.mono hx5.size)).trans (hx7.mono (hx5.trans (hx6.mono hx5.size)).size)); (have hC7 := hC.below hx); (have c7 := hC7.at_); (have f7 := hC7.fz)))
    have hzd := hx.size
    have hk := (Keep.refl (fun k => k = w.heap.size) w7).setCell (p := ⟨w.heap.size, 0, none⟩) (fun _ => rfl) (.bool true)
    have hD7 : w7.heap[D]? = some (.deferred (some [])) := (hx.block D hDl).trans hDf
    have hD8 : (w7.setCell ⟨w.heap.size, 0, none⟩ (.bool true)).heap[D]? = some (.deferred (some [])) := (hk.block D (by omega) (fun e => by omega)).trans hD7
    have hC8 := (hC7.set_ (.bool true)).iter D _ (.deferred none) hD8 rfl
    have c8 := hC8.at_
    have hb7 := hb.trans (hx.mono hb.size)
    have hb8 := hb7.trans (hk.below (B := w.heap.size) hb7.size (fun i hi e => by omega))
    refine ⟨by simp, .inl ⟨_, _, rfl, run_takeDeferred hD8, ?_⟩⟩
    exact ⟨.bool true, by simp [results, Try.results6, go_sem, c8], rfl, below_putD hb8 (by omega) hD8⟩
  case stop =>
    rintro D c pre W' hD hpre hF hDf
    exact hF.elim

namespace goodsNobodyDone
open Go.ChangeShapes Go.WideShapes Go.ChangeAt
set_option maxRecDepth 100000 in
theorem lifted (os : Os) (started : os.Started) (H : Type) (enc : TypeId × Value → H) :
    ReturnsInHanded {} Try.checked os 6 .any (Rows.goodsNobodySpec.pre6 enc Try.prog Try.f6 Rows.goodsNobodyRow.domain false) (Rows.goodsNobodySpec.post enc Try.prog Try.f6 false true false false) := by
  refine returnsInHanded_of_change_sized (C := Try.checked) own started (by kernel_rfl) Try.func6
    (ChangeSpec.witness6 (enc := enc) (C := Try.checked) false ⟨#[], #[Value.int .i64 0, Value.string ⟨#[]⟩], []⟩ 8 (by kernel_rfl) (by kernel_rfl) (by kernel_rfl) (by kernel_rfl)) ?_
  intro W base args ds gs before hval0 hW hcnd hsz0 _
  have hsz : (DataW.weightsEach Try.prog (Try.f6.params.toList ++ Rows.goodsNobodySpec.plain.varTypes Try.prog) (ds ++ gs)).all (· ≤ reachBytes) = true := hsz0
  clear hsz0
  have hval : ∀ (j : Nat) t v, Try.f6.params[j]? = some t → args[j]? = some v → Value.okWide Try.prog W .any base t v := hval0
  have hW' := hW
  obtain ⟨p, q, hA0, hV, rfl, hfz, hnd⟩ := hW
  have hA : DataW.TrodAll enc Try.prog W 0 (fun _ => true) true Try.f6.params.toList args.toList ds p := hA0
  rw [Try.params6] at hA hval hsz
  obtain ⟨v0, vs0, d0, ds0, p0, q0, hargs, rfl, rfl, h0, r0⟩ := trodAll_cons hA
  obtain ⟨v1, vs1, d1, ds1, p1, q1, rfl, rfl, rfl, h1, r1⟩ := trodAll_cons r0
  obtain ⟨rfl, rfl, rfl⟩ := trodAll_nil r1
  obtain rfl : args = #[v0, v1] := by cases args; simp_all
  obtain ⟨rfl, rfl⟩ := trodVars_none hV
  obtain ⟨a0, rfl, rfl, rfl, w0⟩ := open_int Try.underlying3 (hval 0 3 v0 rfl rfl) h0
  obtain ⟨s1, rfl, rfl, rfl, ws1⟩ := Go.ChangeMaps.open_string Try.underlying9 (hval 1 9 v1 rfl rfl) h1
  have hs1 : s1 = ⟨s1.data.toList.toArray⟩ := rfl
  have hz1 : s1.data.toList.length ≤ 9223372036854775807 := by rw [Array.length_toList]; exact ws1
  clear hA0 hval0
  refine (goodsNobody_walk (w := W) a0 w0 s1.data.toList hz1).mono fun e W' ⟨he, bel⟩ => ?_
  subst he
  exact ⟨_, rfl, _, _, _, [], _, [], hW', trodAll_mk1 (shut_bool Try.underlying4 _), (trodAll_cons_mk (shut_int Try.underlying3 w0) (trodAll_cons_mk (Go.ChangeMaps.shut_string Try.underlying9 ws1) trodAll_mk0)), rfl, bel.frame _, fun h => by cases h⟩

theorem over : Rows.goodsNobodyRow.holds Try.pinned (OpenSpec.ofChange Rows.goodsNobodySpec) :=
  OpenClaim.holds_of_wide 6 Try.f6 rfl rfl rfl rfl rfl rfl rfl ⟨rfl, rfl, rfl, rfl, rfl⟩ rfl rfl rfl rfl rfl (by kernel_rfl) Try.func6 (by kernel_rfl)
    (of_decide_eq_true (by kernel_rfl)) (by unfold Func.isWrapper; first | (rw [if_pos (by decide +kernel)]; kernel_rfl) | (rw [if_neg (by decide +kernel)]; exact ⟨rfl, rfl⟩))
    (fun os started H enc _ => lifted os started H enc)

/-- The statement. -/
theorem proved : Rows.GoodsNobodySaid := over
end goodsNobodyDone
end Go.Proofs.Ytipmamgmcipbfaa
