/- 'StockBalances' returns true for every input: the row of this law, proved. No condition. -/
import Derived.Test.YtfogcaeflblpdaaStlD
import Derived.Test.YtfogcaeflblpdaaRgT
import Derived.ProofKit
import Derived.OpenShut
import Derived.ShutString
import Derived.ChangeOld
import Derived.SizedLaws
namespace Go.Proofs.Ytfogcaeflblpdaa
open Go.RowKit
set_option linter.unusedVariables false
set_option linter.unusedSimpArgs false
open Go.Shelf
set_option maxRecDepth 100000 in
set_option maxHeartbeats 6400000 in
theorem stockBalances_walk {w : World} (fr he pi sa re rt cn cm sh sc se : Int) :
    Calls Try.prog 4 #[.agg #[.int .i64 fr, .int .i64 he, .int .i64 pi, .int .i64 sa], .agg #[.int .i64 re, .int .i64 rt, .int .i64 cn, .int .i64 cm, .int .i64 sh, .int .i64 sc, .int .i64 se]] w fun e w' => e = .returned (.bool true) ∧ RowKit.Below w.heap.size w w' := by
  obtain ⟨BA, hBA⟩ : ∃ BA, balB fr he pi sa re rt cn cm sh sc se = BA := ⟨_, rfl⟩
  have hb1 := balanced_any fr he pi sa re rt cn cm sh sc se
  have hb2 := rbalanced_any fr he pi sa re rt cn cm sh sc se
  rw [hBA] at hb1 hb2
  have beqB : (BA == BA) = true := by cases BA <;> rfl
  have hb0 := ((RowKit.Below.refl w.heap.size w).alloc (Nat.le_refl _) (.cells #[.int .i64 fr, .int .i64 he, .int .i64 pi, .int .i64 sa] 35)).alloc (by simp) (.cells #[.int .i64 re, .int .i64 rt, .int .i64 cn, .int .i64 cm, .int .i64 sh, .int .i64 sc, .int .i64 se] 37)
  have e1 := (Blk.new w 35 #[.int .i64 fr, .int .i64 he, .int .i64 pi, .int .i64 sa]).alloc (.cells #[.int .i64 re, .int .i64 rt, .int .i64 cn, .int .i64 cm, .int .i64 sh, .int .i64 sc, .int .i64 se] 37)
  have e2 := Blk.new (w.alloc (.cells #[.int .i64 fr, .int .i64 he, .int .i64 pi, .int .i64 sa] 35)) 37 #[.int .i64 re, .int .i64 rt, .int .i64 cn, .int .i64 cm, .int .i64 sh, .int .i64 sc, .int .i64 se]
  rw [World.size_alloc] at e2
  go_enter Try.func4, Try.ntmps4
  go_wp2_with fail
  obtain ⟨w1, hW1⟩ : ∃ w1, (w.alloc (.cells #[.int .i64 fr, .int .i64 he, .int .i64 pi, .int .i64 sa] 35)).alloc (.cells #[.int .i64 re, .int .i64 rt, .int .i64 cn, .int .i64 cm, .int .i64 sh, .int .i64 sc, .int .i64 se] 37) = w1 := ⟨_, rfl⟩
  rw [hW1] at hb0 e1 e2 ⊢
  clear hW1 hBA
  have hS : ∀ W, RowKit.Below w1.drew.heap.size w1.drew W → (fun W => W.cell? ⟨w.heap.size, 0, none⟩ = some (.int .i64 fr) ∧ W.cell? ⟨w.heap.size, 1, none⟩ = some (.int .i64 he) ∧ W.cell? ⟨w.heap.size, 2, none⟩ = some (.int .i64 pi) ∧ W.cell? ⟨w.heap.size, 3, none⟩ = some (.int .i64 sa) ∧ W.cell? ⟨w.heap.size + 1, 0, none⟩ = some (.int .i64 re) ∧ W.cell? ⟨w.heap.size + 1, 1, none⟩ = some (.int .i64 rt) ∧ W.cell? ⟨w.heap.size + 1, 2, none⟩ = some (.int .i64 cn) ∧ W.cell? ⟨w.heap.size + 1, 3, none⟩ = some (.int .i64 cm) ∧ W.cell? ⟨w.heap.size + 1, 4, none⟩ = some (.int .i64 sh) ∧ W.cell? ⟨w.heap.size + 1, 5, none⟩ = some (.int .i64 sc) ∧ W.cell? ⟨w.heap.size + 1, 6, none⟩ = some (.int .i64 se)) W := fun W hx => by
    have a := e1.drew.kept (Keep.of_below hx) (Nat.not_le.2 e1.drew.lt)
    have b := e2.drew.kept (Keep.of_below hx) (Nat.not_le.2 e2.drew.lt)
    exact ⟨a.cell 0, a.cell 1, a.cell 2, a.cell 3, b.cell 0, b.cell 1, b.cell 2, b.cell 3, b.cell 4, b.cell 5, b.cell 6⟩
  clear e1 e2
  have hbz := hb0.drew
  refine wp_region_held_drew (S := (fun W => W.cell? ⟨w.heap.size, 0, none⟩ = some (.int .i64 fr) ∧ W.cell? ⟨w.heap.size, 1, none⟩ = some (.int .i64 he) ∧ W.cell? ⟨w.heap.size, 2, none⟩ = some (.int .i64 pi) ∧ W.cell? ⟨w.heap.size, 3, none⟩ = some (.int .i64 sa) ∧ W.cell? ⟨w.heap.size + 1, 0, none⟩ = some (.int .i64 re) ∧ W.cell? ⟨w.heap.size + 1, 1, none⟩ = some (.int .i64 rt) ∧ W.cell? ⟨w.heap.size + 1, 2, none⟩ = some (.int .i64 cn) ∧ W.cell? ⟨w.heap.size + 1, 3, none⟩ = some (.int .i64 cm) ∧ W.cell? ⟨w.heap.size + 1, 4, none⟩ = some (.int .i64 sh) ∧ W.cell? ⟨w.heap.size + 1, 5, none⟩ = some (.int .i64 sc) ∧ W.cell? ⟨w.heap.size + 1, 6, none⟩ = some (.int .i64 se))) (by kernel_rfl) (hS _ (Below.refl _ _)) (fun hHeld => ?_)
  generalize w1.drew = wz at *
  refine wpAnyH_ready (rs := [0]) (by kernel_rfl) (by simp) ?_
  refine AllReadyH.cons (by (simp only [List.getElem?_toArray, List.getElem?_cons_succ, List.getElem?_cons_zero]; rfl)) (fun K hK => ?_) AllReadyH.nil
  go_simp
  refine (lives_any _).mono ?_
  rintro e V1 ⟨rfl, hx1⟩
  have s1 := hS _ hx1
  refine hK.out _ _ s1 (fun hHeld2 => ?_)
  clear hK K hHeld
  have hHeld := hHeld2
  clear hHeld2
  try simp only [Act.put, List.setIfInBounds_toArray, List.set_cons_zero, List.set_cons_succ]
  (refine tkI 1 (by (simp only [List.getElem?_toArray, List.getElem?_cons_succ, List.getElem?_cons_zero]; rfl)) (by kernel_rfl) (by kernel_rfl) (by kernel_rfl) (by exact fun _ _ _ h => h) (by rfl) (by (intro w hSw; (try dsimp only at hSw); go_simp <;> with_reducible rfl)) (by assumption) ?_; try simp only [Act.put, List.setIfInBounds_toArray, List.set_cons_zero, List.set_cons_succ])
  (refine tkI 2 (by (simp only [List.getElem?_toArray, List.getElem?_cons_succ, List.getElem?_cons_zero]; rfl)) (by kernel_rfl) (by kernel_rfl) (by kernel_rfl) (by exact fun _ _ _ h => h) (by rfl) (by (intro w hSw; (try dsimp only at hSw); go_simp <;> with_reducible rfl)) (by assumption) ?_; try simp only [Act.put, List.setIfInBounds_toArray, List.set_cons_zero, List.set_cons_succ])
  (refine tkI 3 (by (simp only [List.getElem?_toArray, List.getElem?_cons_succ, List.getElem?_cons_zero]; rfl)) (by kernel_rfl) (by kernel_rfl) (by kernel_rfl) (by exact fun _ _ _ h => h) (by rfl) (by (intro w hSw; (try dsimp only at hSw); go_simp <;> with_reducible rfl)) (by assumption) ?_; try simp only [Act.put, List.setIfInBounds_toArray, List.set_cons_zero, List.set_cons_succ])
  (refine tkI 5 (by (simp only [List.getElem?_toArray, List.getElem?_cons_succ, List.getElem?_cons_zero]; rfl)) (by kernel_rfl) (by kernel_rfl) (by kernel_rfl) (by exact fun _ _ _ h => h) (by rfl) (by (intro w hSw; (try dsimp only at hSw); go_simp <;> with_reducible rfl)) (by assumption) ?_; try simp only [Act.put, List.setIfInBounds_toArray, List.set_cons_zero, List.set_cons_succ])
  (refine tkI 6 (by (simp only [List.getElem?_toArray, List.getElem?_cons_succ, List.getElem?_cons_zero]; rfl)) (by kernel_rfl) (by kernel_rfl) (by kernel_rfl) (by exact fun _ _ _ h => h) (by rfl) (by (intro w hSw; (try dsimp only at hSw); go_simp <;> with_reducible rfl)) (by assumption) ?_; try simp only [Act.put, List.setIfInBounds_toArray, List.set_cons_zero, List.set_cons_succ])
  refine wpAnyH_ready (rs := [4]) (by kernel_rfl) (by simp) ?_
  refine AllReadyH.cons (by (simp only [List.getElem?_toArray, List.getElem?_cons_succ, List.getElem?_cons_zero]; rfl)) (fun K hK => ?_) AllReadyH.nil
  go_simp
  refine (hb1 _).mono ?_
  rintro e V2 ⟨rfl, hx2⟩
  have hx2 := hx1.trans (hx2.mono hx1.size)
  have s2 := hS _ hx2
  refine hK.out _ _ s2 (fun hHeld2 => ?_)
  clear hK K hHeld
  have hHeld := hHeld2
  clear hHeld2
  try simp only [Act.put, List.setIfInBounds_toArray, List.set_cons_zero, List.set_cons_succ]
  refine wpAnyH_ready (rs := [7]) (by kernel_rfl) (by simp) ?_
  refine AllReadyH.cons (by (simp only [List.getElem?_toArray, List.getElem?_cons_succ, List.getElem?_cons_zero]; rfl)) (fun K hK => ?_) AllReadyH.nil
  go_simp
  refine (hb2 _).mono ?_
  rintro e V3 ⟨rfl, hx3⟩
  have hx3 := hx2.trans (hx3.mono hx2.size)
  have s3 := hS _ hx3
  refine hK.out _ _ s3 (fun hHeld2 => ?_)
  clear hK K hHeld
  have hHeld := hHeld2
  clear hHeld2
  try simp only [Act.put, List.setIfInBounds_toArray, List.set_cons_zero, List.set_cons_succ]
  (refine tkI 8 (by (simp only [List.getElem?_toArray, List.getElem?_cons_succ, List.getElem?_cons_zero]; rfl)) (by kernel_rfl) (by kernel_rfl) (by kernel_rfl) (by exact fun _ _ _ h => h) (by rfl) (by (intro w hSw; (try dsimp only at hSw); go_simp <;> with_reducible rfl)) (by assumption) ?_; try simp only [Act.put, List.setIfInBounds_toArray, List.set_cons_zero, List.set_cons_succ])
  (refine tkI 9 (by (simp only [List.getElem?_toArray, List.getElem?_cons_succ, List.getElem?_cons_zero]; rfl)) (by kernel_rfl) (by kernel_rfl) (by kernel_rfl) (by exact fun _ _ _ h => h) (by rfl) (by (intro w hSw; (try dsimp only at hSw); go_simp <;> with_reducible rfl)) (by assumption) ?_; try simp only [Act.put, List.setIfInBounds_toArray, List.set_cons_zero, List.set_cons_succ])
  (refine tkI 10 (by (simp only [List.getElem?_toArray, List.getElem?_cons_succ, List.getElem?_cons_zero]; rfl)) (by kernel_rfl) (by kernel_rfl) (by kernel_rfl) (by exact fun _ _ _ h => h) (by rfl) (by (intro w hSw; (try dsimp only at hSw); go_simp <;> with_reducible rfl)) (by assumption) ?_; try simp only [Act.put, List.setIfInBounds_toArray, List.set_cons_zero, List.set_cons_succ])
  refine wpAnyH_done (by kernel_rfl) ?_ _
  go_wp2
  go_ret
  exact ⟨rfl, hbz.trans (hx3.mono hbz.size)⟩

namespace stockBalancesDone
open Go.ChangeShapes Go.WideShapes Go.ChangeAt
set_option maxRecDepth 100000 in
theorem lifted (os : Os) (started : os.Started) (H : Type) (enc : TypeId × Value → H) :
    ReturnsInHanded {} Try.checked os 4 .any (Rows.stockBalancesSpec.pre6 enc Try.prog Try.f4 Rows.stockBalancesRow.domain false) (Rows.stockBalancesSpec.post enc Try.prog Try.f4 false true false false) := by
  refine returnsInHanded_of_change_sized (C := Try.checked) own started (by kernel_rfl) Try.func4
    (ChangeSpec.witness6 (enc := enc) (C := Try.checked) false ⟨#[], #[Value.agg #[.int .i64 0, .int .i64 0, .int .i64 0, .int .i64 0], Value.agg #[.int .i64 0, .int .i64 0, .int .i64 0, .int .i64 0, .int .i64 0, .int .i64 0, .int .i64 0]], []⟩ 8 (by kernel_rfl) (by kernel_rfl) (by kernel_rfl) (by kernel_rfl)) ?_
  intro W base args ds gs before hval0 hW hcnd hsz0 _
  have hsz : (DataW.weightsEach Try.prog (Try.f4.params.toList ++ Rows.stockBalancesSpec.plain.varTypes Try.prog) (ds ++ gs)).all (· ≤ reachBytes) = true := hsz0
  clear hsz0
  have hval : ∀ (j : Nat) t v, Try.f4.params[j]? = some t → args[j]? = some v → Value.okWide Try.prog W .any base t v := hval0
  have hW' := hW
  obtain ⟨p, q, hA0, hV, rfl, hfz, hnd⟩ := hW
  have hA : DataW.TrodAll enc Try.prog W 0 (fun _ => true) true Try.f4.params.toList args.toList ds p := hA0
  rw [Try.params4] at hA hval hsz
  obtain ⟨v0, vs0, d0, ds0, p0, q0, hargs, rfl, rfl, h0, r0⟩ := trodAll_cons hA
  obtain ⟨v1, vs1, d1, ds1, p1, q1, rfl, rfl, rfl, h1, r1⟩ := trodAll_cons r0
  obtain ⟨rfl, rfl, rfl⟩ := trodAll_nil r1
  obtain rfl : args = #[v0, v1] := by cases args; simp_all
  obtain ⟨rfl, rfl⟩ := trodVars_none hV
  obtain ⟨k0_0, k0_1, k0_2, k0_3, rfl, wk0_0, wk0_1, wk0_2, wk0_3⟩ := lev_open (hval 0 35 v0 rfl rfl) h0
  have k0' := h0
  have lt0 : ∀ x ∈ p0, x.block < W.heap.size := by obtain ⟨m, hm⟩ := h0; exact DataW.trod_lt m _ _ _ hm
  obtain ⟨k1_0, k1_1, k1_2, k1_3, k1_4, k1_5, k1_6, rfl, wk1_0, wk1_1, wk1_2, wk1_3, wk1_4, wk1_5, wk1_6⟩ := flo_open (hval 1 37 v1 rfl rfl) h1
  have k1' := h1
  have lt1 : ∀ x ∈ p1, x.block < W.heap.size := by obtain ⟨m, hm⟩ := h1; exact DataW.trod_lt m _ _ _ hm
  clear hA0 hval0
  refine (stockBalances_walk (w := W) k0_0 k0_1 k0_2 k0_3 k1_0 k1_1 k1_2 k1_3 k1_4 k1_5 k1_6).mono fun e W' ⟨he, bel⟩ => ?_
  subst he
  exact ⟨_, rfl, _, _, _, [], _, [], hW', trodAll_mk1 (shut_bool Try.underlying4 _), (trodAll_cons_mk (Below.trod laidOut (by kernel_rfl) (of_decide_eq_true (by kernel_rfl)) k0' bel lt0) (trodAll_cons_mk (Below.trod laidOut (by kernel_rfl) (of_decide_eq_true (by kernel_rfl)) k1' bel lt1) trodAll_mk0)), rfl, bel.frame _, fun h => by cases h⟩

theorem over : Rows.stockBalancesRow.holds Try.pinned (OpenSpec.ofChange Rows.stockBalancesSpec) :=
  OpenClaim.holds_of_wide 4 Try.f4 rfl rfl rfl rfl rfl rfl rfl ⟨rfl, rfl, rfl, rfl, rfl⟩ rfl rfl rfl rfl rfl (by kernel_rfl) Try.func4 (by kernel_rfl)
    (of_decide_eq_true (by kernel_rfl)) (by unfold Func.isWrapper; first | (rw [if_pos (by decide +kernel)]; kernel_rfl) | (rw [if_neg (by decide +kernel)]; exact ⟨rfl, rfl⟩))
    (fun os started H enc _ => lifted os started H enc)

/-- The statement. -/
theorem proved : Rows.StockBalancesSaid := over
end stockBalancesDone
end Go.Proofs.Ytfogcaeflblpdaa
