/- 'SectorTears' returns true for every input: the row of this law, proved. No condition. -/
import Derived.Test.YtoioigkbcfmfkaaLaw3
import Derived.ProofKit
import Derived.OpenShut
import Derived.ShutString
import Derived.ChangeOld
import Derived.SizedLaws
namespace Go.Proofs.Ytoioigkbcfmfkaa
open Go.RowKit
set_option linter.unusedVariables false
set_option linter.unusedSimpArgs false
theorem wp_app {w : World} {o : Oper} {a : Act} {K : Act → World → Prop} {Q : Exit → Act → World → Prop} (s x : Operand) (ho : o.op = .call { callee := .builtin .append, args := #[s, x], argTypes := #[32, 32] })
    (base : Nat) (v : Value) (l : List UInt8) (hs : a.eval s = v) (hown : OB base w v l) (A : Option Addr) (m c : Nat) (news : List UInt8) (hx : a.eval x = .slice A m c) (hr : RB w A m news)
    (hn : l.length + m ≤ 140737488355328) (hbase : base ≤ w.heap.size)
    (h : ∀ v' w', Grew base w v w' v' (l ++ news) → K (a.put o.dst v') w') : o.wp Try.prog a w K Q := by
  obtain ⟨v', w', hrun, h2⟩ := run_app w base o.type v l hown A m c news hr hn hbase hr.none_zero
  unfold Oper.wp execOp
  simp only [ho, resolve, invoke, builtin, Sem.run_bind, Sem.run_pure, Result.andThen_ok, List.map_toArray, List.map_cons, List.map_nil, hs, hx, hrun]
  exact h v' w' h2

set_option maxRecDepth 100000 in
set_option maxHeartbeats 3200000 in
theorem tears_bad {w : World} (a b : UInt8) (n : Int) (hcase : n < 0 ∨ 64 < n) :
    Calls Try.prog 5 #[.int .u8 (a.toNat : Int), .int .u8 (b.toNat : Int), .int .i64 n] w fun e w' => e = .returned (.bool true) ∧ Below w.heap.size w w' := by
  go_enter Try.func5, Try.ntmps5
  go_wp2_with fail
  refine (new_dev 1 _ (by omega) (by omega)).mono ?_
  rintro e w1 ⟨g, bm, gs, rfl, hg, hbm, hgs, hb1, hd1⟩
  go_wp2_with fail
  refine (lives_any _).mono ?_
  rintro e w2 ⟨rfl, hb12⟩
  have hb2 := hb1.trans (hb12.mono hb1.size)
  have hd2 := hd1.below hb12
  clear hb1 hd1 hb12
  go_wp2_with fail
  refine (block_any a _).mono ?_
  rintro e w3 ⟨v3, rfl, ho3, hb23⟩
  have hb3 := hb2.trans (hb23.mono hb2.size)
  have hd3 := hd2.below hb23
  clear hd2 hb2 hb23
  go_wp2_with fail
  refine (write_own g 1 bm gs 0 0 _ v3 (-1) 0 0 1 _ _ (fun _ => none) _ _ hd3 (REP.start 1) (by omega) (by omega) (by omega) ho3 (blockL_len a) (by simp [maxLen]) (by rfl)).mono ?_
  rintro e w4 ⟨rfl, hk4, D4, hd4, hr4⟩
  have hb4 := keep_below hb3 hk4 (fun i hi h => by omega)
  clear hd3 ho3 hk4 hb3
  go_wp2_with fail
  refine (flush_ok g 1 bm gs _ _ 1 0 1 _ D4 _ _ hd4 hr4 (by omega) (by decide) (by rfl)).mono ?_
  rintro e w5 ⟨rfl, hk5, hd5⟩
  have hb5 := keep_below hb4 hk5 (fun i hi h => by omega)
  have hsure5 : flushS (fun j => if j = 0 then some (blockL a) else none) (List.replicate 1 zero64) = [blockL a] := by simp [flushS]
  rw [hsure5] at hd5
  clear hd4 hr4 hk5 hb4 hsure5
  go_wp2_with fail
  refine (block_any b _).mono ?_
  rintro e w6 ⟨v6, rfl, ho6, hb56⟩
  have hb6 := hb5.trans (hb56.mono hb5.size)
  have hd6 := hd5.below hb56
  clear hd5 hb5 hb56
  go_wp2_with fail
  refine (write_own g 1 bm gs 0 0 _ v6 _ 1 1 2 _ _ (fun _ => none) _ _ hd6 (REP.start 1) (by omega) (by omega) (by decide) ho6 (blockL_len b) (by simp [maxLen]) (by rfl)).mono ?_
  rintro e w7 ⟨rfl, hk7, D7, hd7, hr7⟩
  have hb7 := keep_below hb6 hk7 (fun i hi h => by omega)
  clear hd6 ho6 hk7 hb6
  go_wp2_with fail
  refine (crash_bad g _ _ n _ hcase).mono ?_
  rintro e w8 ⟨rfl, rfl⟩
  obtain ⟨_, _, hat, hhas⟩ := hr7.yes 0 (blockL b) (by simp)
  go_wp2_with fail
  refine (read_dirty g 1 bm gs _ _ 2 1 0 _ D7 (blockL b) _ hd7 (by omega) (by rfl) (by decide) (blockL_len b) hat hhas).mono ?_
  rintro e w9 ⟨b0, rfl, hb0, hb79, hr9⟩
  have hb9 := hb7.trans (hb79.mono hb7.size)
  clear hd7 hr7 hb7 hb79 hat hhas
  rcases hcase with hz | hz
  · go_wp2_with fail
    refine wp_region_held_drew (S := (fun w' => (convert 32 9 (.slice (some ⟨b0, 0, none⟩) 64 64)).run Try.prog w' = .ok (.string ⟨(blockL b).toArray⟩) w')) (by kernel_rfl) (run_str _ _ _ _ _ hr9.drew) (fun hHeld => ?_)
    refine wpAnyH_take (i := 0) (oi := ?oi0x) (v := ?v0x) ?hi0x (by kernel_rfl) (by kernel_rfl) (by kernel_rfl) ?hq0x (Or.inl ⟨?hw0x, ?hy0x⟩) (by assumption) ?rest0x
    case hi0x => (simp only [List.getElem?_toArray, List.getElem?_cons_succ, List.getElem?_cons_zero]; try rfl)
    case hq0x => exact fun _ _ _ h => h
    case hw0x => rfl
    case hy0x => (intro w hSw; (try dsimp only at hSw); go_simp <;> with_reducible rfl)
    try simp only [Act.put, List.setIfInBounds_toArray, List.set_cons_zero, List.set_cons_succ]
    refine wpAnyH_take (i := 1) (oi := ?oi1x) (v := ?v1x) ?hi1x (by kernel_rfl) (by kernel_rfl) (by kernel_rfl) ?hq1x (Or.inl ⟨?hw1x, ?hy1x⟩) (by assumption) ?rest1x
    case hi1x => (simp only [List.getElem?_toArray, List.getElem?_cons_succ, List.getElem?_cons_zero]; try rfl)
    case hq1x => exact fun _ _ _ h => h
    case hw1x => rfl
    case hy1x => (intro w hSw; (try dsimp only at hSw); go_simp <;> with_reducible rfl)
    try simp only [Act.put, List.setIfInBounds_toArray, List.set_cons_zero, List.set_cons_succ]
    refine wpAnyH_take (i := 2) (oi := ?oi2x) (v := ?v2x) ?hi2x (by kernel_rfl) (by kernel_rfl) (by kernel_rfl) ?hq2x (Or.inl ⟨?hw2x, ?hy2x⟩) (by assumption) ?rest2x
    case hi2x => (simp only [List.getElem?_toArray, List.getElem?_cons_succ, List.getElem?_cons_zero]; try rfl)
    case hq2x => exact fun _ _ _ h => h
    case hw2x => rfl
    case hy2x => (intro w hSw; (try dsimp only at hSw); go_simp <;> with_reducible rfl)
    try simp only [Act.put, List.setIfInBounds_toArray, List.set_cons_zero, List.set_cons_succ]
    refine wpAnyH_take (i := 3) (oi := ?oi3x) (v := ?v3x) ?hi3x (by kernel_rfl) (by kernel_rfl) (by kernel_rfl) ?hq3x (Or.inl ⟨?hw3x, ?hy3x⟩) (by assumption) ?rest3x
    case hi3x => (simp only [List.getElem?_toArray, List.getElem?_cons_succ, List.getElem?_cons_zero]; try rfl)
    case hq3x => exact fun _ _ _ h => h
    case hw3x => rfl
    case hy3x => (intro w hSw; (try dsimp only at hSw); go_simp <;> with_reducible rfl)
    try simp only [Act.put, List.setIfInBounds_toArray, List.set_cons_zero, List.set_cons_succ]
    refine wpAnyH_take (i := 4) (oi := ?oi4x) (v := ?v4x) ?hi4x (by kernel_rfl) (by kernel_rfl) (by kernel_rfl) ?hq4x (Or.inl ⟨?hw4x, ?hy4x⟩) (by assumption) ?rest4x
    case hi4x => (simp only [List.getElem?_toArray, List.getElem?_cons_succ, List.getElem?_cons_zero]; try rfl)
    case hq4x => exact fun _ _ _ h => h
    case hw4x => rfl
    case hy4x => (intro w hSw; (try dsimp only at hSw); go_simp <;> with_reducible rfl)
    try simp only [Act.put, List.setIfInBounds_toArray, List.set_cons_zero, List.set_cons_succ]
    refine wpAnyH_take (i := 5) (oi := ?oi5x) (v := ?v5x) ?hi5x (by kernel_rfl) (by kernel_rfl) (by kernel_rfl) ?hq5x (Or.inl ⟨?hw5x, ?hy5x⟩) (by assumption) ?rest5x
    case hi5x => (simp only [List.getElem?_toArray, List.getElem?_cons_succ, List.getElem?_cons_zero]; try rfl)
    case hq5x => exact fun _ _ _ h => h
    case hw5x => rfl
    case hy5x => (intro w hSw; (try dsimp only at hSw); go_simp <;> with_reducible rfl)
    try simp only [Act.put, List.setIfInBounds_toArray, List.set_cons_zero, List.set_cons_succ]
    refine wpAnyH_take (i := 6) (oi := ?oi6x) (v := ?v6x) ?hi6x (by kernel_rfl) (by kernel_rfl) (by kernel_rfl) ?hq6x (Or.inl ⟨?hw6x, ?hy6x⟩) (by assumption) ?rest6x
    case hi6x => (simp only [List.getElem?_toArray, List.getElem?_cons_succ, List.getElem?_cons_zero]; try rfl)
    case hq6x => exact fun _ _ _ h => h
    case hw6x => rfl
    case hy6x => (intro w hSw; (try dsimp only at hSw); go_simp <;> with_reducible rfl)
    try simp only [Act.put, List.setIfInBounds_toArray, List.set_cons_zero, List.set_cons_succ]
    refine wpAnyH_take (i := 7) (oi := ?oi7x) (v := ?v7x) ?hi7x (by kernel_rfl) (by kernel_rfl) (by kernel_rfl) ?hq7x (Or.inl ⟨?hw7x, ?hy7x⟩) (by assumption) ?rest7x
    case hi7x => (simp only [List.getElem?_toArray, List.getElem?_cons_succ, List.getElem?_cons_zero]; try rfl)
    case hq7x => exact fun _ _ _ h => h
    case hw7x => rfl
    case hy7x => (intro w hSw; (try dsimp only at hSw); go_simp <;> with_reducible rfl)
    try simp only [Act.put, List.setIfInBounds_toArray, List.set_cons_zero, List.set_cons_succ]
    refine wpAnyH_take (i := 8) (oi := ?oi8x) (v := ?v8x) ?hi8x (by kernel_rfl) (by kernel_rfl) (by kernel_rfl) ?hq8x (Or.inl ⟨?hw8x, ?hy8x⟩) (by assumption) ?rest8x
    case hi8x => (simp only [List.getElem?_toArray, List.getElem?_cons_succ, List.getElem?_cons_zero]; try rfl)
    case hq8x => exact fun _ _ _ h => h
    case hw8x => rfl
    case hy8x => (intro w hSw; (try dsimp only at hSw); go_simp <;> with_reducible rfl)
    try simp only [Act.put, List.setIfInBounds_toArray, List.set_cons_zero, List.set_cons_succ]
    refine wpAnyH_take (i := 9) (oi := ?oi9x) (v := ?v9x) ?hi9x (by kernel_rfl) (by kernel_rfl) (by kernel_rfl) ?hq9x (Or.inl ⟨?hw9x, ?hy9x⟩) (by assumption) ?rest9x
    case hi9x => (simp only [List.getElem?_toArray, List.getElem?_cons_succ, List.getElem?_cons_zero]; try rfl)
    case hq9x => exact fun _ _ _ h => h
    case hw9x => rfl
    case hy9x => (intro w hSw; (try dsimp only at hSw); go_simp <;> with_reducible rfl)
    try simp only [Act.put, List.setIfInBounds_toArray, List.set_cons_zero, List.set_cons_succ]
    refine wpAnyH_ready (rs := [10]) (by kernel_rfl) (by simp) ?_
    refine AllReadyH.cons (o := ?o10x) ?hi10x (fun K hK => ?st10x) AllReadyH.nil
    case hi10x => (simp only [List.getElem?_toArray, List.getElem?_cons_succ, List.getElem?_cons_zero]; try rfl)
    go_simp
    refine (block_any b _).mono ?_
    rintro e w10 ⟨v10, rfl, ho10, hb10⟩
    obtain ⟨A10, c10, rfl, hl10, hm10, hr10, _⟩ := ho10.form
    rw [blockL_len] at hr10 ⊢
    have hc10 := run_str w10 A10 64 c10 _ hr10
    have hr0b := (show RB w9.drew _ _ _ from hr9.drew).below hb10
    have hb010 := (Below.drew hb9).trans (hb10.mono hb9.size)
    refine hK.out _ _ (run_str _ _ _ _ _ hr0b) (fun hHeld2 => ?_)
    clear hK K hHeld
    have hHeld := hHeld2
    clear hHeld2
    try simp only [Act.put, List.setIfInBounds_toArray, List.set_cons_zero, List.set_cons_succ]
    refine wpAnyH_ready (rs := [11]) (by kernel_rfl) (by simp) ?_
    refine AllReadyH.cons (o := ?o11x) ?hi11x (fun K hK => ?st11x) AllReadyH.nil
    case hi11x => (simp only [List.getElem?_toArray, List.getElem?_cons_succ, List.getElem?_cons_zero]; try rfl)
    go_simp
    refine hK.out _ _ (run_str _ _ _ _ _ hr0b) (fun hHeld2 => ?_)
    clear hK K hHeld
    have hHeld := hHeld2
    clear hHeld2
    try simp only [Act.put, List.setIfInBounds_toArray, List.set_cons_zero, List.set_cons_succ]
    refine wpAnyH_take (i := 12) (oi := ?oi12x) (v := ?v12x) ?hi12x (by kernel_rfl) (by kernel_rfl) (by kernel_rfl) ?hq12x (Or.inl ⟨?hw12x, ?hy12x⟩) (by assumption) ?rest12x
    case hi12x => (simp only [List.getElem?_toArray, List.getElem?_cons_succ, List.getElem?_cons_zero]; try rfl)
    case hq12x => exact fun _ _ _ h => h
    case hw12x => rfl
    case hy12x => (intro w hSw; (try dsimp only at hSw); go_simp <;> with_reducible rfl)
    try simp only [Act.put, List.setIfInBounds_toArray, List.set_cons_zero, List.set_cons_succ]
    refine wpAnyH_take (i := 13) (oi := ?oi13x) (v := ?v13x) ?hi13x (by kernel_rfl) (by kernel_rfl) (by kernel_rfl) ?hq13x (Or.inl ⟨?hw13x, ?hy13x⟩) (by assumption) ?rest13x
    case hi13x => (simp only [List.getElem?_toArray, List.getElem?_cons_succ, List.getElem?_cons_zero]; try rfl)
    case hq13x => exact fun _ _ _ h => h
    case hw13x => rfl
    case hy13x => (intro w hSw; (try dsimp only at hSw); go_simp <;> with_reducible rfl)
    try simp only [Act.put, List.setIfInBounds_toArray, List.set_cons_zero, List.set_cons_succ]
    refine wpAnyH_take (i := 14) (oi := ?oi14x) (v := ?v14x) ?hi14x (by kernel_rfl) (by kernel_rfl) (by kernel_rfl) ?hq14x (Or.inl ⟨?hw14x, ?hy14x⟩) (by assumption) ?rest14x
    case hi14x => (simp only [List.getElem?_toArray, List.getElem?_cons_succ, List.getElem?_cons_zero]; try rfl)
    case hq14x => exact fun _ _ _ h => h
    case hw14x => rfl
    case hy14x => (intro w hSw; (try dsimp only at hSw); go_simp <;> with_reducible rfl)
    try simp only [Act.put, List.setIfInBounds_toArray, List.set_cons_zero, List.set_cons_succ]
    refine wpAnyH_done (by kernel_rfl) ?_ _
    go_wp2_with fail
    go_ret
    exact ⟨by simp, hb010⟩
  · have hz' : ¬ n < 0 := by omega
    go_wp2_with fail
    refine wp_region_held_drew (S := (fun w' => (convert 32 9 (.slice (some ⟨b0, 0, none⟩) 64 64)).run Try.prog w' = .ok (.string ⟨(blockL b).toArray⟩) w')) (by kernel_rfl) (run_str _ _ _ _ _ hr9.drew) (fun hHeld => ?_)
    refine wpAnyH_take (i := 0) (oi := ?oi0y) (v := ?v0y) ?hi0y (by kernel_rfl) (by kernel_rfl) (by kernel_rfl) ?hq0y (Or.inl ⟨?hw0y, ?hy0y⟩) (by assumption) ?rest0y
    case hi0y => (simp only [List.getElem?_toArray, List.getElem?_cons_succ, List.getElem?_cons_zero]; try rfl)
    case hq0y => exact fun _ _ _ h => h
    case hw0y => rfl
    case hy0y => (intro w hSw; (try dsimp only at hSw); go_simp <;> with_reducible rfl)
    try simp only [Act.put, List.setIfInBounds_toArray, List.set_cons_zero, List.set_cons_succ]
    refine wpAnyH_take (i := 1) (oi := ?oi1y) (v := ?v1y) ?hi1y (by kernel_rfl) (by kernel_rfl) (by kernel_rfl) ?hq1y (Or.inl ⟨?hw1y, ?hy1y⟩) (by assumption) ?rest1y
    case hi1y => (simp only [List.getElem?_toArray, List.getElem?_cons_succ, List.getElem?_cons_zero]; try rfl)
    case hq1y => exact fun _ _ _ h => h
    case hw1y => rfl
    case hy1y => (intro w hSw; (try dsimp only at hSw); go_simp <;> with_reducible rfl)
    try simp only [Act.put, List.setIfInBounds_toArray, List.set_cons_zero, List.set_cons_succ]
    refine wpAnyH_take (i := 2) (oi := ?oi2y) (v := ?v2y) ?hi2y (by kernel_rfl) (by kernel_rfl) (by kernel_rfl) ?hq2y (Or.inl ⟨?hw2y, ?hy2y⟩) (by assumption) ?rest2y
    case hi2y => (simp only [List.getElem?_toArray, List.getElem?_cons_succ, List.getElem?_cons_zero]; try rfl)
    case hq2y => exact fun _ _ _ h => h
    case hw2y => rfl
    case hy2y => (intro w hSw; (try dsimp only at hSw); go_simp <;> with_reducible rfl)
    try simp only [Act.put, List.setIfInBounds_toArray, List.set_cons_zero, List.set_cons_succ]
    refine wpAnyH_take (i := 3) (oi := ?oi3y) (v := ?v3y) ?hi3y (by kernel_rfl) (by kernel_rfl) (by kernel_rfl) ?hq3y (Or.inl ⟨?hw3y, ?hy3y⟩) (by assumption) ?rest3y
    case hi3y => (simp only [List.getElem?_toArray, List.getElem?_cons_succ, List.getElem?_cons_zero]; try rfl)
    case hq3y => exact fun _ _ _ h => h
    case hw3y => rfl
    case hy3y => (intro w hSw; (try dsimp only at hSw); go_simp <;> with_reducible rfl)
    try simp only [Act.put, List.setIfInBounds_toArray, List.set_cons_zero, List.set_cons_succ]
    refine wpAnyH_take (i := 4) (oi := ?oi4y) (v := ?v4y) ?hi4y (by kernel_rfl) (by kernel_rfl) (by kernel_rfl) ?hq4y (Or.inl ⟨?hw4y, ?hy4y⟩) (by assumption) ?rest4y
    case hi4y => (simp only [List.getElem?_toArray, List.getElem?_cons_succ, List.getElem?_cons_zero]; try rfl)
    case hq4y => exact fun _ _ _ h => h
    case hw4y => rfl
    case hy4y => (intro w hSw; (try dsimp only at hSw); go_simp <;> with_reducible rfl)
    try simp only [Act.put, List.setIfInBounds_toArray, List.set_cons_zero, List.set_cons_succ]
    refine wpAnyH_take (i := 5) (oi := ?oi5y) (v := ?v5y) ?hi5y (by kernel_rfl) (by kernel_rfl) (by kernel_rfl) ?hq5y (Or.inl ⟨?hw5y, ?hy5y⟩) (by assumption) ?rest5y
    case hi5y => (simp only [List.getElem?_toArray, List.getElem?_cons_succ, List.getElem?_cons_zero]; try rfl)
    case hq5y => exact fun _ _ _ h => h
    case hw5y => rfl
    case hy5y => (intro w hSw; (try dsimp only at hSw); go_simp <;> with_reducible rfl)
    try simp only [Act.put, List.setIfInBounds_toArray, List.set_cons_zero, List.set_cons_succ]
    refine wpAnyH_take (i := 6) (oi := ?oi6y) (v := ?v6y) ?hi6y (by kernel_rfl) (by kernel_rfl) (by kernel_rfl) ?hq6y (Or.inl ⟨?hw6y, ?hy6y⟩) (by assumption) ?rest6y
    case hi6y => (simp only [List.getElem?_toArray, List.getElem?_cons_succ, List.getElem?_cons_zero]; try rfl)
    case hq6y => exact fun _ _ _ h => h
    case hw6y => rfl
    case hy6y => (intro w hSw; (try dsimp only at hSw); go_simp <;> with_reducible rfl)
    try simp only [Act.put, List.setIfInBounds_toArray, List.set_cons_zero, List.set_cons_succ]
    refine wpAnyH_take (i := 7) (oi := ?oi7y) (v := ?v7y) ?hi7y (by kernel_rfl) (by kernel_rfl) (by kernel_rfl) ?hq7y (Or.inl ⟨?hw7y, ?hy7y⟩) (by assumption) ?rest7y
    case hi7y => (simp only [List.getElem?_toArray, List.getElem?_cons_succ, List.getElem?_cons_zero]; try rfl)
    case hq7y => exact fun _ _ _ h => h
    case hw7y => rfl
    case hy7y => (intro w hSw; (try dsimp only at hSw); go_simp <;> with_reducible rfl)
    try simp only [Act.put, List.setIfInBounds_toArray, List.set_cons_zero, List.set_cons_succ]
    refine wpAnyH_take (i := 8) (oi := ?oi8y) (v := ?v8y) ?hi8y (by kernel_rfl) (by kernel_rfl) (by kernel_rfl) ?hq8y (Or.inl ⟨?hw8y, ?hy8y⟩) (by assumption) ?rest8y
    case hi8y => (simp only [List.getElem?_toArray, List.getElem?_cons_succ, List.getElem?_cons_zero]; try rfl)
    case hq8y => exact fun _ _ _ h => h
    case hw8y => rfl
    case hy8y => (intro w hSw; (try dsimp only at hSw); go_simp <;> with_reducible rfl)
    try simp only [Act.put, List.setIfInBounds_toArray, List.set_cons_zero, List.set_cons_succ]
    refine wpAnyH_take (i := 9) (oi := ?oi9y) (v := ?v9y) ?hi9y (by kernel_rfl) (by kernel_rfl) (by kernel_rfl) ?hq9y (Or.inl ⟨?hw9y, ?hy9y⟩) (by assumption) ?rest9y
    case hi9y => (simp only [List.getElem?_toArray, List.getElem?_cons_succ, List.getElem?_cons_zero]; try rfl)
    case hq9y => exact fun _ _ _ h => h
    case hw9y => rfl
    case hy9y => (intro w hSw; (try dsimp only at hSw); go_simp <;> with_reducible rfl)
    try simp only [Act.put, List.setIfInBounds_toArray, List.set_cons_zero, List.set_cons_succ]
    refine wpAnyH_ready (rs := [10]) (by kernel_rfl) (by simp) ?_
    refine AllReadyH.cons (o := ?o10y) ?hi10y (fun K hK => ?st10y) AllReadyH.nil
    case hi10y => (simp only [List.getElem?_toArray, List.getElem?_cons_succ, List.getElem?_cons_zero]; try rfl)
    go_simp
    refine (block_any b _).mono ?_
    rintro e w10 ⟨v10, rfl, ho10, hb10⟩
    obtain ⟨A10, c10, rfl, hl10, hm10, hr10, _⟩ := ho10.form
    rw [blockL_len] at hr10 ⊢
    have hc10 := run_str w10 A10 64 c10 _ hr10
    have hr0b := (show RB w9.drew _ _ _ from hr9.drew).below hb10
    have hb010 := (Below.drew hb9).trans (hb10.mono hb9.size)
    refine hK.out _ _ (run_str _ _ _ _ _ hr0b) (fun hHeld2 => ?_)
    clear hK K hHeld
    have hHeld := hHeld2
    clear hHeld2
    try simp only [Act.put, List.setIfInBounds_toArray, List.set_cons_zero, List.set_cons_succ]
    refine wpAnyH_ready (rs := [11]) (by kernel_rfl) (by simp) ?_
    refine AllReadyH.cons (o := ?o11y) ?hi11y (fun K hK => ?st11y) AllReadyH.nil
    case hi11y => (simp only [List.getElem?_toArray, List.getElem?_cons_succ, List.getElem?_cons_zero]; try rfl)
    go_simp
    refine hK.out _ _ (run_str _ _ _ _ _ hr0b) (fun hHeld2 => ?_)
    clear hK K hHeld
    have hHeld := hHeld2
    clear hHeld2
    try simp only [Act.put, List.setIfInBounds_toArray, List.set_cons_zero, List.set_cons_succ]
    refine wpAnyH_take (i := 12) (oi := ?oi12y) (v := ?v12y) ?hi12y (by kernel_rfl) (by kernel_rfl) (by kernel_rfl) ?hq12y (Or.inl ⟨?hw12y, ?hy12y⟩) (by assumption) ?rest12y
    case hi12y => (simp only [List.getElem?_toArray, List.getElem?_cons_succ, List.getElem?_cons_zero]; try rfl)
    case hq12y => exact fun _ _ _ h => h
    case hw12y => rfl
    case hy12y => (intro w hSw; (try dsimp only at hSw); go_simp <;> with_reducible rfl)
    try simp only [Act.put, List.setIfInBounds_toArray, List.set_cons_zero, List.set_cons_succ]
    refine wpAnyH_take (i := 13) (oi := ?oi13y) (v := ?v13y) ?hi13y (by kernel_rfl) (by kernel_rfl) (by kernel_rfl) ?hq13y (Or.inl ⟨?hw13y, ?hy13y⟩) (by assumption) ?rest13y
    case hi13y => (simp only [List.getElem?_toArray, List.getElem?_cons_succ, List.getElem?_cons_zero]; try rfl)
    case hq13y => exact fun _ _ _ h => h
    case hw13y => rfl
    case hy13y => (intro w hSw; (try dsimp only at hSw); go_simp <;> with_reducible rfl)
    try simp only [Act.put, List.setIfInBounds_toArray, List.set_cons_zero, List.set_cons_succ]
    refine wpAnyH_take (i := 14) (oi := ?oi14y) (v := ?v14y) ?hi14y (by kernel_rfl) (by kernel_rfl) (by kernel_rfl) ?hq14y (Or.inl ⟨?hw14y, ?hy14y⟩) (by assumption) ?rest14y
    case hi14y => (simp only [List.getElem?_toArray, List.getElem?_cons_succ, List.getElem?_cons_zero]; try rfl)
    case hq14y => exact fun _ _ _ h => h
    case hw14y => rfl
    case hy14y => (intro w hSw; (try dsimp only at hSw); go_simp <;> with_reducible rfl)
    try simp only [Act.put, List.setIfInBounds_toArray, List.set_cons_zero, List.set_cons_succ]
    refine wpAnyH_done (by kernel_rfl) ?_ _
    go_wp2_with fail
    go_ret
    exact ⟨by simp, hb010⟩

set_option maxRecDepth 100000 in
set_option maxHeartbeats 3200000 in
theorem tears_good {w : World} (a b : UInt8) (m : Nat) (hm : m ≤ 64) :
    Calls Try.prog 5 #[.int .u8 (a.toNat : Int), .int .u8 (b.toNat : Int), .int .i64 (m : Int)] w fun e w' => e = .returned (.bool true) ∧ Below w.heap.size w w' := by
  have hz0 : ¬ (m : Int) < 0 := by omega
  have hz1 : ¬ (64 : Int) < (m : Int) := by omega
  go_enter Try.func5, Try.ntmps5
  go_wp2_with fail
  refine (new_dev 1 _ (by omega) (by omega)).mono ?_
  rintro e w1 ⟨g, bm, gs, rfl, hg, hbm, hgs, hb1, hd1⟩
  go_wp2_with fail
  refine (lives_any _).mono ?_
  rintro e w2 ⟨rfl, hb12⟩
  have hb2 := hb1.trans (hb12.mono hb1.size)
  have hd2 := hd1.below hb12
  clear hb1 hd1 hb12
  go_wp2_with fail
  refine (block_any a _).mono ?_
  rintro e w3 ⟨v3, rfl, ho3, hb23⟩
  have hb3 := hb2.trans (hb23.mono hb2.size)
  have hd3 := hd2.below hb23
  clear hd2 hb2 hb23
  go_wp2_with fail
  refine (write_own g 1 bm gs 0 0 _ v3 (-1) 0 0 1 _ _ (fun _ => none) _ _ hd3 (REP.start 1) (by omega) (by omega) (by omega) ho3 (blockL_len a) (by simp [maxLen]) (by rfl)).mono ?_
  rintro e w4 ⟨rfl, hk4, D4, hd4, hr4⟩
  have hb4 := keep_below hb3 hk4 (fun i hi h => by omega)
  clear hd3 ho3 hk4 hb3
  go_wp2_with fail
  refine (flush_ok g 1 bm gs _ _ 1 0 1 _ D4 _ _ hd4 hr4 (by omega) (by decide) (by rfl)).mono ?_
  rintro e w5 ⟨rfl, hk5, hd5⟩
  have hb5 := keep_below hb4 hk5 (fun i hi h => by omega)
  have hsure5 : flushS (fun j => if j = 0 then some (blockL a) else none) (List.replicate 1 zero64) = [blockL a] := by simp [flushS]
  rw [hsure5] at hd5
  clear hd4 hr4 hk5 hb4 hsure5
  go_wp2_with fail
  refine (block_any b _).mono ?_
  rintro e w6 ⟨v6, rfl, ho6, hb56⟩
  have hb6 := hb5.trans (hb56.mono hb5.size)
  have hd6 := hd5.below hb56
  clear hd5 hb5 hb56
  go_wp2_with fail
  refine (write_own g 1 bm gs 0 0 _ v6 _ 1 1 2 _ _ (fun _ => none) _ _ hd6 (REP.start 1) (by omega) (by omega) (by decide) ho6 (blockL_len b) (by simp [maxLen]) (by rfl)).mono ?_
  rintro e w7 ⟨rfl, hk7, D7, hd7, hr7⟩
  have hb7 := keep_below hb6 hk7 (fun i hi h => by omega)
  clear hd6 ho6 hk7 hb6
  go_wp2_with fail
  refine (crash_ok g 1 bm gs _ m none 0 0 [] _ 2 1 0 _ D7 _ _ hd7 hr7 (by omega) hm (IR.nil _ _) (by simp) (by decide) (fun ad h _ => by cases h) (by omega)).mono ?_
  rintro e w8 ⟨rfl, hk8, hd8⟩
  have hb8 := keep_below hb7 hk8 (fun i hi h => by omega)
  have hsure8 : settleS (fun j => if j = 0 then some (blockL b) else none) (([] : List Int).foldl (fun s i => settleS (fun j => if j = 0 then some (blockL b) else none) s i 64) [blockL a]) 0 m = [((blockL b).take m ++ (blockL a).drop m)] := by simp [settleS]
  rw [hsure8] at hd8
  clear hd7 hr7 hk8 hb7 hsure8
  go_wp2_with fail
  refine (read_sure g 1 bm gs 0 0 (-1) 2 1 _ _ ((blockL b).take m ++ (blockL a).drop m) _ hd8 (by omega) (by omega) (by omega) rfl (Go.Maps.atKey_of_not_has rfl _) rfl).mono ?_
  rintro e w9 ⟨b0, rfl, hb0, hb89, hr9⟩
  have hb9 := hb8.trans (hb89.mono hb8.size)
  have hres : (((blockL b).take m ++ (blockL a).drop m)).length = 64 := by rw [List.length_append, List.length_take, List.length_drop, blockL_len, blockL_len]; omega
  have hl0 : b0 < w9.heap.size := by
    obtain ⟨bb, off, e, hc⟩ := hr9.2 (by omega)
    cases e
    exact World.block_lt_of_cell? _ _ (hc 0 _ (List.getElem?_eq_getElem (by rw [hres]; omega)))
  clear hd8 hb8 hb89
  go_wp2_with fail
  have hbase : w9.heap.size ≤ w9.heap.size := Nat.le_refl _
  obtain ⟨base, hbe⟩ : ∃ base, base = w9.heap.size := ⟨_, rfl⟩
  rw [← hbe] at hl0
  have hwb : w.heap.size ≤ base := by rw [hbe]; exact hb9.size
  refine wp_region_held_drew (S := (fun w' => (convert 32 9 (.slice (some ⟨b0, 0, none⟩) 64 64)).run Try.prog w' = .ok (.string ⟨((blockL b).take m ++ (blockL a).drop m).toArray⟩) w')) (by kernel_rfl) (run_str _ _ _ _ _ hr9.drew) (fun hHeld => ?_)
  refine wpAnyH_take (i := 0) (oi := ?oi0p) (v := ?v0p) ?hi0p (by kernel_rfl) (by kernel_rfl) (by kernel_rfl) ?hq0p (Or.inl ⟨?hw0p, ?hy0p⟩) (by assumption) ?rest0p
  case hi0p => (simp only [List.getElem?_toArray, List.getElem?_cons_succ, List.getElem?_cons_zero]; try rfl)
  case hq0p => exact fun _ _ _ h => h
  case hw0p => rfl
  case hy0p => (intro w hSw; (try dsimp only at hSw); go_simp <;> with_reducible rfl)
  try simp only [Act.put, List.setIfInBounds_toArray, List.set_cons_zero, List.set_cons_succ]
  refine wpAnyH_take (i := 1) (oi := ?oi1p) (v := ?v1p) ?hi1p (by kernel_rfl) (by kernel_rfl) (by kernel_rfl) ?hq1p (Or.inl ⟨?hw1p, ?hy1p⟩) (by assumption) ?rest1p
  case hi1p => (simp only [List.getElem?_toArray, List.getElem?_cons_succ, List.getElem?_cons_zero]; try rfl)
  case hq1p => exact fun _ _ _ h => h
  case hw1p => rfl
  case hy1p => (intro w hSw; (try dsimp only at hSw); go_simp <;> with_reducible rfl)
  try simp only [Act.put, List.setIfInBounds_toArray, List.set_cons_zero, List.set_cons_succ]
  refine wpAnyH_take (i := 2) (oi := ?oi2p) (v := ?v2p) ?hi2p (by kernel_rfl) (by kernel_rfl) (by kernel_rfl) ?hq2p (Or.inl ⟨?hw2p, ?hy2p⟩) (by assumption) ?rest2p
  case hi2p => (simp only [List.getElem?_toArray, List.getElem?_cons_succ, List.getElem?_cons_zero]; try rfl)
  case hq2p => exact fun _ _ _ h => h
  case hw2p => rfl
  case hy2p => (intro w hSw; (try dsimp only at hSw); go_simp <;> with_reducible rfl)
  try simp only [Act.put, List.setIfInBounds_toArray, List.set_cons_zero, List.set_cons_succ]
  refine wpAnyH_take (i := 3) (oi := ?oi3p) (v := ?v3p) ?hi3p (by kernel_rfl) (by kernel_rfl) (by kernel_rfl) ?hq3p (Or.inl ⟨?hw3p, ?hy3p⟩) (by assumption) ?rest3p
  case hi3p => (simp only [List.getElem?_toArray, List.getElem?_cons_succ, List.getElem?_cons_zero]; try rfl)
  case hq3p => exact fun _ _ _ h => h
  case hw3p => rfl
  case hy3p => (intro w hSw; (try dsimp only at hSw); go_simp <;> with_reducible rfl)
  try simp only [Act.put, List.setIfInBounds_toArray, List.set_cons_zero, List.set_cons_succ]
  refine wpAnyH_take (i := 4) (oi := ?oi4p) (v := ?v4p) ?hi4p (by kernel_rfl) (by kernel_rfl) (by kernel_rfl) ?hq4p (Or.inl ⟨?hw4p, ?hy4p⟩) (by assumption) ?rest4p
  case hi4p => (simp only [List.getElem?_toArray, List.getElem?_cons_succ, List.getElem?_cons_zero]; try rfl)
  case hq4p => exact fun _ _ _ h => h
  case hw4p => rfl
  case hy4p => (intro w hSw; (try dsimp only at hSw); go_simp <;> with_reducible rfl)
  try simp only [Act.put, List.setIfInBounds_toArray, List.set_cons_zero, List.set_cons_succ]
  refine wpAnyH_take (i := 5) (oi := ?oi5p) (v := ?v5p) ?hi5p (by kernel_rfl) (by kernel_rfl) (by kernel_rfl) ?hq5p (Or.inl ⟨?hw5p, ?hy5p⟩) (by assumption) ?rest5p
  case hi5p => (simp only [List.getElem?_toArray, List.getElem?_cons_succ, List.getElem?_cons_zero]; try rfl)
  case hq5p => exact fun _ _ _ h => h
  case hw5p => rfl
  case hy5p => (intro w hSw; (try dsimp only at hSw); go_simp <;> with_reducible rfl)
  try simp only [Act.put, List.setIfInBounds_toArray, List.set_cons_zero, List.set_cons_succ]
  refine wpAnyH_take (i := 6) (oi := ?oi6p) (v := ?v6p) ?hi6p (by kernel_rfl) (by kernel_rfl) (by kernel_rfl) ?hq6p (Or.inl ⟨?hw6p, ?hy6p⟩) (by assumption) ?rest6p
  case hi6p => (simp only [List.getElem?_toArray, List.getElem?_cons_succ, List.getElem?_cons_zero]; try rfl)
  case hq6p => exact fun _ _ _ h => h
  case hw6p => rfl
  case hy6p => (intro w hSw; (try dsimp only at hSw); go_simp <;> with_reducible rfl)
  try simp only [Act.put, List.setIfInBounds_toArray, List.set_cons_zero, List.set_cons_succ]
  refine wpAnyH_take (i := 7) (oi := ?oi7p) (v := ?v7p) ?hi7p (by kernel_rfl) (by kernel_rfl) (by kernel_rfl) ?hq7p (Or.inl ⟨?hw7p, ?hy7p⟩) (by assumption) ?rest7p
  case hi7p => (simp only [List.getElem?_toArray, List.getElem?_cons_succ, List.getElem?_cons_zero]; try rfl)
  case hq7p => exact fun _ _ _ h => h
  case hw7p => rfl
  case hy7p => (intro w hSw; (try dsimp only at hSw); go_simp <;> with_reducible rfl)
  try simp only [Act.put, List.setIfInBounds_toArray, List.set_cons_zero, List.set_cons_succ]
  refine wpAnyH_take (i := 8) (oi := ?oi8p) (v := ?v8p) ?hi8p (by kernel_rfl) (by kernel_rfl) (by kernel_rfl) ?hq8p (Or.inl ⟨?hw8p, ?hy8p⟩) (by assumption) ?rest8p
  case hi8p => (simp only [List.getElem?_toArray, List.getElem?_cons_succ, List.getElem?_cons_zero]; try rfl)
  case hq8p => exact fun _ _ _ h => h
  case hw8p => rfl
  case hy8p => (intro w hSw; (try dsimp only at hSw); go_simp <;> with_reducible rfl)
  try simp only [Act.put, List.setIfInBounds_toArray, List.set_cons_zero, List.set_cons_succ]
  refine wpAnyH_take (i := 10) (oi := ?oi10p) (v := ?v10p) ?hi10p (by kernel_rfl) (by kernel_rfl) (by kernel_rfl) ?hq10p (Or.inl ⟨?hw10p, ?hy10p⟩) (by assumption) ?rest10p
  case hi10p => (simp only [List.getElem?_toArray, List.getElem?_cons_succ, List.getElem?_cons_zero]; try rfl)
  case hq10p => exact fun _ _ _ h => h
  case hw10p => rfl
  case hy10p => (intro w hSw; (try dsimp only at hSw); go_simp <;> with_reducible rfl)
  try simp only [Act.put, List.setIfInBounds_toArray, List.set_cons_zero, List.set_cons_succ]
  refine wpAnyH_take (i := 12) (oi := ?oi12p) (v := ?v12p) ?hi12p (by kernel_rfl) (by kernel_rfl) (by kernel_rfl) ?hq12p (Or.inl ⟨?hw12p, ?hy12p⟩) (by assumption) ?rest12p
  case hi12p => (simp only [List.getElem?_toArray, List.getElem?_cons_succ, List.getElem?_cons_zero]; try rfl)
  case hq12p => exact fun _ _ _ h => h
  case hw12p => rfl
  case hy12p => (intro w hSw; (try dsimp only at hSw); go_simp <;> with_reducible rfl)
  try simp only [Act.put, List.setIfInBounds_toArray, List.set_cons_zero, List.set_cons_succ]
  refine wpAnyH_take (i := 15) (oi := ?oi15p) (v := ?v15p) ?hi15p (by kernel_rfl) (by kernel_rfl) (by kernel_rfl) ?hq15p (Or.inl ⟨?hw15p, ?hy15p⟩) (by assumption) ?rest15p
  case hi15p => (simp only [List.getElem?_toArray, List.getElem?_cons_succ, List.getElem?_cons_zero]; try rfl)
  case hq15p => exact fun _ _ _ h => h
  case hw15p => rfl
  case hy15p => (intro w hSw; (try dsimp only at hSw); go_simp <;> with_reducible rfl)
  try simp only [Act.put, List.setIfInBounds_toArray, List.set_cons_zero, List.set_cons_succ]
  refine wpAnyH_take (i := 17) (oi := ?oi17p) (v := ?v17p) ?hi17p (by kernel_rfl) (by kernel_rfl) (by kernel_rfl) ?hq17p (Or.inl ⟨?hw17p, ?hy17p⟩) (by assumption) ?rest17p
  case hi17p => (simp only [List.getElem?_toArray, List.getElem?_cons_succ, List.getElem?_cons_zero]; try rfl)
  case hq17p => exact fun _ _ _ h => h
  case hw17p => rfl
  case hy17p => (intro w hSw; (try dsimp only at hSw); go_simp <;> with_reducible rfl)
  try simp only [Act.put, List.setIfInBounds_toArray, List.set_cons_zero, List.set_cons_succ]
  refine wpAnyH_ready (rs := [9, 11]) (by kernel_rfl) (by simp) ?_
  refine AllReadyH.cons (o := ?o9q) ?hi9q (fun K hK => ?st9q) (AllReadyH.cons (o := ?o11q) ?hi11q (fun K hK => ?st11q) AllReadyH.nil)
  case hi9q => (simp only [List.getElem?_toArray, List.getElem?_cons_succ, List.getElem?_cons_zero]; try rfl)
  case hi11q => (simp only [List.getElem?_toArray, List.getElem?_cons_succ, List.getElem?_cons_zero]; try rfl)
  case st9q =>
    have hrA := hr9.drew.alloc (.cells #[] 5)
    have hoA : OB w9.heap.size (w9.drew.alloc (.cells #[] 5)) (.slice (some ⟨w9.heap.size, 0, none⟩) 0 0) [] := OB.built w9.heap.size w9.drew [] (Nat.le_refl _) (by simp [maxLen])
    have hbA : Below w.heap.size w (w9.drew.alloc (.cells #[] 5)) := (Below.drew hb9).alloc hb9.size _
    go_simp
    refine hK.out _ _ (run_str _ _ _ _ _ hrA) (fun hHeld2 => ?_)
    clear hK K hHeld
    have hHeld := hHeld2
    clear hHeld2
    try simp only [Act.put, List.setIfInBounds_toArray, List.set_cons_zero, List.set_cons_succ]
    refine wpAnyH_ready (rs := [11]) (by kernel_rfl) (by simp) ?_
    refine AllReadyH.cons (o := ?o11r) ?hi11r (fun K hK => ?st11r) AllReadyH.nil
    case hi11r => (simp only [List.getElem?_toArray, List.getElem?_cons_succ, List.getElem?_cons_zero]; try rfl)
    go_simp
    refine (block_any b _).mono ?_
    rintro e wc ⟨vc, rfl, hoc, hbcc⟩
    obtain ⟨A1, c1, rfl, hl1, hm1, hr75, _⟩ := hoc.form
    rw [blockL_len] at hr75 hl1 ⊢
    unfold maxLen at hm1
    have hrc := hrA.below hbcc
    have hbc := hbA.trans (hbcc.mono hbA.size)
    have ho73 : OB base wc (.slice (some ⟨w9.heap.size, 0, none⟩) 0 0) [] := by
      rw [hbe]
      exact hoA.kept (Keep.of_below hbcc) (fun k hk h => absurd (hoA.lt k hk).2 (Nat.not_lt.2 h))
    have hbase : base ≤ wc.heap.size := by rw [hbe]; exact Nat.le_trans (by simp) hbcc.size
    refine hK.out _ _ (run_str _ _ _ _ _ hrc) (fun hHeld2 => ?_)
    clear hK K hHeld
    have hHeld := hHeld2
    clear hHeld2
    try simp only [Act.put, List.setIfInBounds_toArray, List.set_cons_zero, List.set_cons_succ]
    have hto := fun W : World => run_to W A1 64 c1 (m : Int) (by omega) (by omega)
    simp only [Int.toNat_natCast] at hto
    refine wpAnyH_take (i := 13) (oi := ?oi13s) (v := ?v13s) ?hi13s (by kernel_rfl) (by kernel_rfl) (by kernel_rfl) ?hq13s (Or.inl ⟨?hw13s, ?hy13s⟩) (by assumption) ?rest13s
    case hi13s => (simp only [List.getElem?_toArray, List.getElem?_cons_succ, List.getElem?_cons_zero]; try rfl)
    case hq13s => exact fun _ _ _ h => h
    case hw13s => rfl
    case hy13s => (intro w hSw; (try dsimp only at hSw); go_simp <;> with_reducible rfl)
    try simp only [Act.put, List.setIfInBounds_toArray, List.set_cons_zero, List.set_cons_succ]
    refine wpAnyH_ready (rs := [14]) (by kernel_rfl) (by simp) ?_
    refine AllReadyH.cons (o := ?o14s) ?hi14s (fun K hK => ?st14s) AllReadyH.nil
    case hi14s => (simp only [List.getElem?_toArray, List.getElem?_cons_succ, List.getElem?_cons_zero]; try rfl)
    rw [if_pos (by rfl)]
    refine wp_app (.tmp 73) (.tmp 77) rfl base _ [] rfl ho73 A1 m c1 ((blockL b).take m) rfl (hr75.take m hm) (by simp; omega) hbase ?_
    intro v14 w14 hg14
    have ho14 := hg14.own
    rw [List.nil_append] at ho14
    have hr14 := hrc.kept hg14.keep (fun ad e h => by cases e; have := (ho73.lt _ h).1; simp at this; omega)
    have hb14 := keep_below hbc hg14.keep (fun i hi h => by have := (ho73.lt i h).1; omega)
    have hs14 := hg14.keep.size
    refine hK.out _ _ (run_str _ _ _ _ _ hr14) (fun hHeld2 => ?_)
    clear hK K hHeld
    have hHeld := hHeld2
    clear hHeld2
    try simp only [Act.put, List.setIfInBounds_toArray, List.set_cons_zero, List.set_cons_succ]
    refine wpAnyH_ready (rs := [16]) (by kernel_rfl) (by simp) ?_
    refine AllReadyH.cons (o := ?o16s) ?hi16s (fun K hK => ?st16s) AllReadyH.nil
    case hi16s => (simp only [List.getElem?_toArray, List.getElem?_cons_succ, List.getElem?_cons_zero]; try rfl)
    go_simp
    refine (block_any a _).mono ?_
    rintro e w16 ⟨v16, rfl, ho16, hb16⟩
    obtain ⟨A2, c2, rfl, hl16, hm16, hr16, _⟩ := ho16.form
    rw [blockL_len] at hr16 hl16 ⊢
    have hr0d := hr14.below hb16
    have hb016 := hb14.trans (hb16.mono hb14.size)
    have ho14' := ho14.kept (Keep.of_below hb16) (fun k hk h => by have := (ho14.lt k hk).2; omega)
    unfold maxLen at hm16
    have hfrom := fun W : World => run_from W A2 64 c2 (m : Int) (by omega) (by omega)
    simp only [Int.toNat_natCast] at hfrom
    refine hK.out _ _ (run_str _ _ _ _ _ hr0d) (fun hHeld2 => ?_)
    clear hK K hHeld
    have hHeld := hHeld2
    clear hHeld2
    try simp only [Act.put, List.setIfInBounds_toArray, List.set_cons_zero, List.set_cons_succ]
    refine wpAnyH_take (i := 18) (oi := ?oi18s) (v := ?v18s) ?hi18s (by kernel_rfl) (by kernel_rfl) (by kernel_rfl) ?hq18s (Or.inl ⟨?hw18s, ?hy18s⟩) (by assumption) ?rest18s
    case hi18s => (simp only [List.getElem?_toArray, List.getElem?_cons_succ, List.getElem?_cons_zero]; try rfl)
    case hq18s => exact fun _ _ _ h => h
    case hw18s => rfl
    case hy18s => (intro w hSw; (try dsimp only at hSw); go_simp <;> with_reducible rfl)
    try simp only [Act.put, List.setIfInBounds_toArray, List.set_cons_zero, List.set_cons_succ]
    refine wpAnyH_ready (rs := [19]) (by kernel_rfl) (by simp) ?_
    refine AllReadyH.cons (o := ?o19s) ?hi19s (fun K hK => ?st19s) AllReadyH.nil
    case hi19s => (simp only [List.getElem?_toArray, List.getElem?_cons_succ, List.getElem?_cons_zero]; try rfl)
    rw [if_pos (by rfl)]
    refine wp_app (.tmp 78) (.tmp 82) rfl base v14 _ rfl ho14' (subA A2 c2 m) (64 - m) (c2 - m) ((blockL a).drop m) rfl (hr16.sub m hm hl16) (by rw [List.length_take, blockL_len]; omega) (Nat.le_trans hbase (Nat.le_trans hs14 hb16.size)) ?_
    intro v19 w19 hg19
    have ho19 := hg19.own
    have hr19 := hr0d.kept hg19.keep (fun ad e h => by cases e; have := (ho14'.lt _ h).1; simp at this; omega)
    have hb19 := keep_below hb016 hg19.keep (fun i hi h => by have := (ho14'.lt i h).1; omega)
    obtain ⟨A19, c19, rfl, hl19, hm19, hrr19, _⟩ := ho19.form
    rw [hres] at hrr19 ⊢
    have hc19 := run_str w19 A19 64 c19 _ hrr19
    refine hK.out _ _ (run_str _ _ _ _ _ hr19) (fun hHeld2 => ?_)
    clear hK K hHeld
    have hHeld := hHeld2
    clear hHeld2
    try simp only [Act.put, List.setIfInBounds_toArray, List.set_cons_zero, List.set_cons_succ]
    refine wpAnyH_ready (rs := [20]) (by kernel_rfl) (by simp) ?_
    refine AllReadyH.cons (o := ?o20s) ?hi20s (fun K hK => ?st20s) AllReadyH.nil
    case hi20s => (simp only [List.getElem?_toArray, List.getElem?_cons_succ, List.getElem?_cons_zero]; try rfl)
    go_simp
    refine hK.out _ _ (run_str _ _ _ _ _ hr19) (fun hHeld2 => ?_)
    clear hK K hHeld
    have hHeld := hHeld2
    clear hHeld2
    try simp only [Act.put, List.setIfInBounds_toArray, List.set_cons_zero, List.set_cons_succ]
    refine wpAnyH_take (i := 21) (oi := ?oi21s) (v := ?v21s) ?hi21s (by kernel_rfl) (by kernel_rfl) (by kernel_rfl) ?hq21s (Or.inl ⟨?hw21s, ?hy21s⟩) (by assumption) ?rest21s
    case hi21s => (simp only [List.getElem?_toArray, List.getElem?_cons_succ, List.getElem?_cons_zero]; try rfl)
    case hq21s => exact fun _ _ _ h => h
    case hw21s => rfl
    case hy21s => (intro w hSw; (try dsimp only at hSw); go_simp <;> with_reducible rfl)
    try simp only [Act.put, List.setIfInBounds_toArray, List.set_cons_zero, List.set_cons_succ]
    refine wpAnyH_take (i := 22) (oi := ?oi22s) (v := ?v22s) ?hi22s (by kernel_rfl) (by kernel_rfl) (by kernel_rfl) ?hq22s (Or.inl ⟨?hw22s, ?hy22s⟩) (by assumption) ?rest22s
    case hi22s => (simp only [List.getElem?_toArray, List.getElem?_cons_succ, List.getElem?_cons_zero]; try rfl)
    case hq22s => exact fun _ _ _ h => h
    case hw22s => rfl
    case hy22s => (intro w hSw; (try dsimp only at hSw); go_simp <;> with_reducible rfl)
    try simp only [Act.put, List.setIfInBounds_toArray, List.set_cons_zero, List.set_cons_succ]
    refine wpAnyH_take (i := 23) (oi := ?oi23s) (v := ?v23s) ?hi23s (by kernel_rfl) (by kernel_rfl) (by kernel_rfl) ?hq23s (Or.inl ⟨?hw23s, ?hy23s⟩) (by assumption) ?rest23s
    case hi23s => (simp only [List.getElem?_toArray, List.getElem?_cons_succ, List.getElem?_cons_zero]; try rfl)
    case hq23s => exact fun _ _ _ h => h
    case hw23s => rfl
    case hy23s => (intro w hSw; (try dsimp only at hSw); go_simp <;> with_reducible rfl)
    try simp only [Act.put, List.setIfInBounds_toArray, List.set_cons_zero, List.set_cons_succ]
    refine wpAnyH_done (by kernel_rfl) ?_ _
    go_wp2_with fail
    go_ret
    exact ⟨by simp, hb19⟩
  case st11q =>
    go_simp
    refine (block_any b _).mono ?_
    rintro e wb ⟨vc, rfl, hoc, hbcc⟩
    obtain ⟨A1, c1, rfl, hl1, hm1, hrB, _⟩ := hoc.form
    rw [blockL_len] at hrB hl1 ⊢
    unfold maxLen at hm1
    have hrb0 := hr9.drew.below hbcc
    have hbb := (Below.drew hb9).trans (hbcc.mono hb9.size)
    refine hK.out _ _ (run_str _ _ _ _ _ hrb0) (fun hHeld2 => ?_)
    clear hK K hHeld
    have hHeld := hHeld2
    clear hHeld2
    try simp only [Act.put, List.setIfInBounds_toArray, List.set_cons_zero, List.set_cons_succ]
    have hto := fun W : World => run_to W A1 64 c1 (m : Int) (by omega) (by omega)
    simp only [Int.toNat_natCast] at hto
    refine wpAnyH_take (i := 13) (oi := ?oi13t) (v := ?v13t) ?hi13t (by kernel_rfl) (by kernel_rfl) (by kernel_rfl) ?hq13t (Or.inl ⟨?hw13t, ?hy13t⟩) (by assumption) ?rest13t
    case hi13t => (simp only [List.getElem?_toArray, List.getElem?_cons_succ, List.getElem?_cons_zero]; try rfl)
    case hq13t => exact fun _ _ _ h => h
    case hw13t => rfl
    case hy13t => (intro w hSw; (try dsimp only at hSw); go_simp <;> with_reducible rfl)
    try simp only [Act.put, List.setIfInBounds_toArray, List.set_cons_zero, List.set_cons_succ]
    refine wpAnyH_ready (rs := [9]) (by kernel_rfl) (by simp) ?_
    refine AllReadyH.cons (o := ?o9t) ?hi9t (fun K hK => ?st9t) AllReadyH.nil
    case hi9t => (simp only [List.getElem?_toArray, List.getElem?_cons_succ, List.getElem?_cons_zero]; try rfl)
    go_simp
    have hrc := hrb0.alloc (.cells #[] 5)
    have hr75 := hrB.alloc (.cells #[] 5)
    have hbc := hbb.alloc hbb.size (.cells #[] 5)
    have ho73 : OB base (wb.alloc (.cells #[] 5)) (.slice (some ⟨wb.heap.size, 0, none⟩) 0 0) [] := OB.built base wb [] (by rw [hbe]; exact hbcc.size) (by simp [maxLen])
    have hbase : base ≤ (wb.alloc (.cells #[] 5)).heap.size := by rw [hbe]; exact Nat.le_trans hbcc.size (by simp)
    generalize wb.alloc (.cells #[] 5) = wc at *
    refine hK.out _ _ (run_str _ _ _ _ _ hrc) (fun hHeld2 => ?_)
    clear hK K hHeld
    have hHeld := hHeld2
    clear hHeld2
    try simp only [Act.put, List.setIfInBounds_toArray, List.set_cons_zero, List.set_cons_succ]
    refine wpAnyH_ready (rs := [14]) (by kernel_rfl) (by simp) ?_
    refine AllReadyH.cons (o := ?o14u) ?hi14u (fun K hK => ?st14u) AllReadyH.nil
    case hi14u => (simp only [List.getElem?_toArray, List.getElem?_cons_succ, List.getElem?_cons_zero]; try rfl)
    rw [if_pos (by rfl)]
    refine wp_app (.tmp 73) (.tmp 77) rfl base _ [] rfl ho73 A1 m c1 ((blockL b).take m) rfl (hr75.take m hm) (by simp; omega) hbase ?_
    intro v14 w14 hg14
    have ho14 := hg14.own
    rw [List.nil_append] at ho14
    have hr14 := hrc.kept hg14.keep (fun ad e h => by cases e; have := (ho73.lt _ h).1; simp at this; omega)
    have hb14 := keep_below hbc hg14.keep (fun i hi h => by have := (ho73.lt i h).1; omega)
    have hs14 := hg14.keep.size
    refine hK.out _ _ (run_str _ _ _ _ _ hr14) (fun hHeld2 => ?_)
    clear hK K hHeld
    have hHeld := hHeld2
    clear hHeld2
    try simp only [Act.put, List.setIfInBounds_toArray, List.set_cons_zero, List.set_cons_succ]
    refine wpAnyH_ready (rs := [16]) (by kernel_rfl) (by simp) ?_
    refine AllReadyH.cons (o := ?o16u) ?hi16u (fun K hK => ?st16u) AllReadyH.nil
    case hi16u => (simp only [List.getElem?_toArray, List.getElem?_cons_succ, List.getElem?_cons_zero]; try rfl)
    go_simp
    refine (block_any a _).mono ?_
    rintro e w16 ⟨v16, rfl, ho16, hb16⟩
    obtain ⟨A2, c2, rfl, hl16, hm16, hr16, _⟩ := ho16.form
    rw [blockL_len] at hr16 hl16 ⊢
    have hr0d := hr14.below hb16
    have hb016 := hb14.trans (hb16.mono hb14.size)
    have ho14' := ho14.kept (Keep.of_below hb16) (fun k hk h => by have := (ho14.lt k hk).2; omega)
    unfold maxLen at hm16
    have hfrom := fun W : World => run_from W A2 64 c2 (m : Int) (by omega) (by omega)
    simp only [Int.toNat_natCast] at hfrom
    refine hK.out _ _ (run_str _ _ _ _ _ hr0d) (fun hHeld2 => ?_)
    clear hK K hHeld
    have hHeld := hHeld2
    clear hHeld2
    try simp only [Act.put, List.setIfInBounds_toArray, List.set_cons_zero, List.set_cons_succ]
    refine wpAnyH_take (i := 18) (oi := ?oi18u) (v := ?v18u) ?hi18u (by kernel_rfl) (by kernel_rfl) (by kernel_rfl) ?hq18u (Or.inl ⟨?hw18u, ?hy18u⟩) (by assumption) ?rest18u
    case hi18u => (simp only [List.getElem?_toArray, List.getElem?_cons_succ, List.getElem?_cons_zero]; try rfl)
    case hq18u => exact fun _ _ _ h => h
    case hw18u => rfl
    case hy18u => (intro w hSw; (try dsimp only at hSw); go_simp <;> with_reducible rfl)
    try simp only [Act.put, List.setIfInBounds_toArray, List.set_cons_zero, List.set_cons_succ]
    refine wpAnyH_ready (rs := [19]) (by kernel_rfl) (by simp) ?_
    refine AllReadyH.cons (o := ?o19u) ?hi19u (fun K hK => ?st19u) AllReadyH.nil
    case hi19u => (simp only [List.getElem?_toArray, List.getElem?_cons_succ, List.getElem?_cons_zero]; try rfl)
    rw [if_pos (by rfl)]
    refine wp_app (.tmp 78) (.tmp 82) rfl base v14 _ rfl ho14' (subA A2 c2 m) (64 - m) (c2 - m) ((blockL a).drop m) rfl (hr16.sub m hm hl16) (by rw [List.length_take, blockL_len]; omega) (Nat.le_trans hbase (Nat.le_trans hs14 hb16.size)) ?_
    intro v19 w19 hg19
    have ho19 := hg19.own
    have hr19 := hr0d.kept hg19.keep (fun ad e h => by cases e; have := (ho14'.lt _ h).1; simp at this; omega)
    have hb19 := keep_below hb016 hg19.keep (fun i hi h => by have := (ho14'.lt i h).1; omega)
    obtain ⟨A19, c19, rfl, hl19, hm19, hrr19, _⟩ := ho19.form
    rw [hres] at hrr19 ⊢
    have hc19 := run_str w19 A19 64 c19 _ hrr19
    refine hK.out _ _ (run_str _ _ _ _ _ hr19) (fun hHeld2 => ?_)
    clear hK K hHeld
    have hHeld := hHeld2
    clear hHeld2
    try simp only [Act.put, List.setIfInBounds_toArray, List.set_cons_zero, List.set_cons_succ]
    refine wpAnyH_ready (rs := [20]) (by kernel_rfl) (by simp) ?_
    refine AllReadyH.cons (o := ?o20u) ?hi20u (fun K hK => ?st20u) AllReadyH.nil
    case hi20u => (simp only [List.getElem?_toArray, List.getElem?_cons_succ, List.getElem?_cons_zero]; try rfl)
    go_simp
    refine hK.out _ _ (run_str _ _ _ _ _ hr19) (fun hHeld2 => ?_)
    clear hK K hHeld
    have hHeld := hHeld2
    clear hHeld2
    try simp only [Act.put, List.setIfInBounds_toArray, List.set_cons_zero, List.set_cons_succ]
    refine wpAnyH_take (i := 21) (oi := ?oi21u) (v := ?v21u) ?hi21u (by kernel_rfl) (by kernel_rfl) (by kernel_rfl) ?hq21u (Or.inl ⟨?hw21u, ?hy21u⟩) (by assumption) ?rest21u
    case hi21u => (simp only [List.getElem?_toArray, List.getElem?_cons_succ, List.getElem?_cons_zero]; try rfl)
    case hq21u => exact fun _ _ _ h => h
    case hw21u => rfl
    case hy21u => (intro w hSw; (try dsimp only at hSw); go_simp <;> with_reducible rfl)
    try simp only [Act.put, List.setIfInBounds_toArray, List.set_cons_zero, List.set_cons_succ]
    refine wpAnyH_take (i := 22) (oi := ?oi22u) (v := ?v22u) ?hi22u (by kernel_rfl) (by kernel_rfl) (by kernel_rfl) ?hq22u (Or.inl ⟨?hw22u, ?hy22u⟩) (by assumption) ?rest22u
    case hi22u => (simp only [List.getElem?_toArray, List.getElem?_cons_succ, List.getElem?_cons_zero]; try rfl)
    case hq22u => exact fun _ _ _ h => h
    case hw22u => rfl
    case hy22u => (intro w hSw; (try dsimp only at hSw); go_simp <;> with_reducible rfl)
    try simp only [Act.put, List.setIfInBounds_toArray, List.set_cons_zero, List.set_cons_succ]
    refine wpAnyH_take (i := 23) (oi := ?oi23u) (v := ?v23u) ?hi23u (by kernel_rfl) (by kernel_rfl) (by kernel_rfl) ?hq23u (Or.inl ⟨?hw23u, ?hy23u⟩) (by assumption) ?rest23u
    case hi23u => (simp only [List.getElem?_toArray, List.getElem?_cons_succ, List.getElem?_cons_zero]; try rfl)
    case hq23u => exact fun _ _ _ h => h
    case hw23u => rfl
    case hy23u => (intro w hSw; (try dsimp only at hSw); go_simp <;> with_reducible rfl)
    try simp only [Act.put, List.setIfInBounds_toArray, List.set_cons_zero, List.set_cons_succ]
    refine wpAnyH_done (by kernel_rfl) ?_ _
    go_wp2_with fail
    go_ret
    exact ⟨by simp, hb19⟩

theorem sectorTears_walk {w : World} (a0 : Int) (w0 : (Lit.int .u8 a0).wf = true) (b0 : Int) (w1 : (Lit.int .u8 b0).wf = true) (n : Int) (w2 : (Lit.int .i64 n).wf = true) :
    Calls Try.prog 5 #[.int .u8 a0, .int .u8 b0, .int .i64 n] w fun e w' => e = .returned (.bool true) ∧ Below w.heap.size w w' := by
  obtain ⟨a, rfl⟩ := nat_u8 w0
  obtain ⟨b, rfl⟩ := nat_u8 w1
  by_cases h : n < 0 ∨ 64 < n
  · exact tears_bad a b n h
  · obtain ⟨m, rfl⟩ : ∃ m : Nat, n = (m : Int) := ⟨n.toNat, by omega⟩
    exact tears_good a b m (by omega)

namespace sectorTearsDone
open Go.ChangeShapes Go.WideShapes Go.ChangeAt
set_option maxRecDepth 100000 in
theorem lifted (os : Os) (started : os.Started) (H : Type) (enc : TypeId × Value → H) :
    ReturnsInHanded {} Try.checked os 5 .any (Rows.sectorTearsSpec.pre6 enc Try.prog Try.f5 Rows.sectorTearsRow.domain false) (Rows.sectorTearsSpec.post enc Try.prog Try.f5 false true false false) := by
  refine returnsInHanded_of_change_sized (C := Try.checked) own started (by kernel_rfl) Try.func5
    (ChangeSpec.witness6 (enc := enc) (C := Try.checked) false ⟨#[], #[Value.int .u8 0, Value.int .u8 0, Value.int .i64 0], []⟩ 8 (by kernel_rfl) (by kernel_rfl) (by kernel_rfl) (by kernel_rfl)) ?_
  intro W base args ds gs before hval0 hW hcnd hsz0 _
  have hsz : (DataW.weightsEach Try.prog (Try.f5.params.toList ++ Rows.sectorTearsSpec.plain.varTypes Try.prog) (ds ++ gs)).all (· ≤ reachBytes) = true := hsz0
  clear hsz0
  have hval : ∀ (j : Nat) t v, Try.f5.params[j]? = some t → args[j]? = some v → Value.okWide Try.prog W .any base t v := hval0
  have hW' := hW
  obtain ⟨p, q, hA0, hV, rfl, hfz, hnd⟩ := hW
  have hA : DataW.TrodAll enc Try.prog W 0 (fun _ => true) true Try.f5.params.toList args.toList ds p := hA0
  rw [Try.params5] at hA hval hsz
  obtain ⟨v0, vs0, d0, ds0, p0, q0, hargs, rfl, rfl, h0, r0⟩ := trodAll_cons hA
  obtain ⟨v1, vs1, d1, ds1, p1, q1, rfl, rfl, rfl, h1, r1⟩ := trodAll_cons r0
  obtain ⟨v2, vs2, d2, ds2, p2, q2, rfl, rfl, rfl, h2, r2⟩ := trodAll_cons r1
  obtain ⟨rfl, rfl, rfl⟩ := trodAll_nil r2
  obtain rfl : args = #[v0, v1, v2] := by cases args; simp_all
  obtain ⟨rfl, rfl⟩ := trodVars_none hV
  obtain ⟨a0, rfl, rfl, rfl, w0⟩ := open_int Try.underlying5 (hval 0 5 v0 rfl rfl) h0
  obtain ⟨a1, rfl, rfl, rfl, w1⟩ := open_int Try.underlying5 (hval 1 5 v1 rfl rfl) h1
  obtain ⟨a2, rfl, rfl, rfl, w2⟩ := open_int Try.underlying3 (hval 2 3 v2 rfl rfl) h2
  clear hA0 hval0
  refine (sectorTears_walk (w := W) a0 w0 a1 w1 a2 w2).mono fun e W' ⟨he, bel⟩ => ?_
  subst he
  exact ⟨_, rfl, _, _, _, [], _, [], hW', trodAll_mk1 (shut_bool Try.underlying4 _), (trodAll_cons_mk (shut_int Try.underlying5 w0) (trodAll_cons_mk (shut_int Try.underlying5 w1) (trodAll_cons_mk (shut_int Try.underlying3 w2) trodAll_mk0))), rfl, bel.frame _, fun h => by cases h⟩

theorem over : Rows.sectorTearsRow.holds Try.pinned (OpenSpec.ofChange Rows.sectorTearsSpec) :=
  OpenClaim.holds_of_wide 5 Try.f5 rfl rfl rfl rfl rfl rfl rfl ⟨rfl, rfl, rfl, rfl, rfl⟩ rfl rfl rfl rfl rfl (by kernel_rfl) Try.func5 (by kernel_rfl)
    (of_decide_eq_true (by kernel_rfl)) (by unfold Func.isWrapper; first | (rw [if_pos (by decide +kernel)]; kernel_rfl) | (rw [if_neg (by decide +kernel)]; exact ⟨rfl, rfl⟩))
    (fun os started H enc _ => lifted os started H enc)

/-- The statement. -/
theorem proved : Rows.SectorTearsSaid := over
end sectorTearsDone
end Go.Proofs.Ytoioigkbcfmfkaa
