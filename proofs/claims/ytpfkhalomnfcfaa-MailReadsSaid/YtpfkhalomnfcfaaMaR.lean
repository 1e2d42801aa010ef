/- The reference's May of mail. No condition but that its items lie in memory. -/
import Derived.Test.YtpfkhalomnfcfaaMaS
import Derived.Test.YtpfkhalomnfcfaaRAskM
namespace Go.Proofs.Ytpfkhalomnfcfaa
open Go.RowKit Go.Maps Go.Shelf
set_option linter.unusedVariables false
set_option linter.unusedSimpArgs false

set_option maxRecDepth 100000 in
set_option maxHeartbeats 25600000 in
theorem rmmay_A (x : MV) (A : Option Addr) (cap : Nat) (B : Option Addr) (capb : Nat) (w : World) (hl : IL w A x.l.length x.l) (hal : IL w B x.a.l.length x.a.l) (hwl : WL x.l) (hwal : WL x.a.l) (hn : x.l.length ≤ 9223372036854775807) (hn2 : x.a.l.length ≤ 9223372036854775807) (hg7 : x.a.g.length ≤ 9223372036854775807)
    (hL : hasM x.k = [97]) (hk1 : 1 ≤ x.k) (hk2 : x.k ≤ 14) :
    Calls Try.prog 10 #[x.v A cap B capb] w fun e w' => e = .returned (.bool (mayM x)) ∧ Below w.heap.size w w' := by
  obtain ⟨k, o, l, ⟨a1, a2, a3, a4, a5, a6, a7, ag, al⟩, ⟨yc, ym, ye, yn⟩⟩ := x
  dsimp only at hl hal hwl hwal hn hn2 hg7 hL hk1 hk2
  have H111 : hasB (hasM k) 111 = false := by rw [hL]; rfl
  have H105 : hasB (hasM k) 105 = false := by rw [hL]; rfl
  have H97 : hasB (hasM k) 97 = true := by rw [hL]; rfl
  have H121 : hasB (hasM k) 121 = false := by rw [hL]; rfl
  have hM : mayM ⟨k, o, l, ⟨a1, a2, a3, a4, a5, a6, a7, ag, al⟩, ⟨yc, ym, ye, yn⟩⟩ = (decide (o = 0) && (decide (l.length = 0) && (mayA ⟨a1, a2, a3, a4, a5, a6, a7, ag, al⟩ && sameY ⟨yc, ym, ye, yn⟩ y0))) := by
    have : mayM ⟨k, o, l, ⟨a1, a2, a3, a4, a5, a6, a7, ag, al⟩, ⟨yc, ym, ye, yn⟩⟩ = mayKM (hasM k) ⟨k, o, l, ⟨a1, a2, a3, a4, a5, a6, a7, ag, al⟩, ⟨yc, ym, ye, yn⟩⟩ := rfl
    rw [this]
    unfold mayKM
    dsimp only
    rw [H111, H105, H97, H121, decide_eq_true hk1, decide_eq_true hk2]
    rfl
  obtain ⟨f1, hf1⟩ : ∃ b, decide (o = 0) = b := ⟨_, rfl⟩
  obtain ⟨f2, hf2⟩ : ∃ b, decide (l.length = 0) = b := ⟨_, rfl⟩
  obtain ⟨f3, hf3⟩ : ∃ b, mayA ⟨a1, a2, a3, a4, a5, a6, a7, ag, al⟩ = b := ⟨_, rfl⟩
  obtain ⟨f4, hf4⟩ : ∃ b, sameY ⟨yc, ym, ye, yn⟩ y0 = b := ⟨_, rfl⟩
  rw [hf1, hf2, hf3, hf4] at hM
  have e4 := run_ans_eql ⟨yc, ym, ye, yn⟩ y0 (sameY ⟨yc, ym, ye, yn⟩ y0) rfl
  unfold y0 at e4
  dsimp only at e4
  have hbxa0 : Blk (w.alloc (.cells #[.int .i64 k, .int .i64 o, .slice A l.length cap, .int .i64 a1, .int .i64 a2, .int .i64 a3, .int .i64 a4, .int .i64 a5, .int .i64 a6, .int .i64 a7, .string ⟨ag.toArray⟩, .slice B al.length capb, .int .i64 yc, .int .i64 ym, .int .i64 ye, .int .i64 yn] 29)) w.heap.size 29 #[.int .i64 k, .int .i64 o, .slice A l.length cap, .int .i64 a1, .int .i64 a2, .int .i64 a3, .int .i64 a4, .int .i64 a5, .int .i64 a6, .int .i64 a7, .string ⟨ag.toArray⟩, .slice B al.length capb, .int .i64 yc, .int .i64 ym, .int .i64 ye, .int .i64 yn] := Blk.new _ _ _
  have hb0 := (Below.refl w.heap.size w).alloc (Nat.le_refl _) (.cells #[.int .i64 k, .int .i64 o, .slice A l.length cap, .int .i64 a1, .int .i64 a2, .int .i64 a3, .int .i64 a4, .int .i64 a5, .int .i64 a6, .int .i64 a7, .string ⟨ag.toArray⟩, .slice B al.length capb, .int .i64 yc, .int .i64 ym, .int .i64 ye, .int .i64 yn] 29)
  have hill0 := hl.alloc (.cells #[.int .i64 k, .int .i64 o, .slice A l.length cap, .int .i64 a1, .int .i64 a2, .int .i64 a3, .int .i64 a4, .int .i64 a5, .int .i64 a6, .int .i64 a7, .string ⟨ag.toArray⟩, .slice B al.length capb, .int .i64 yc, .int .i64 ym, .int .i64 ye, .int .i64 yn] 29)
  have hilm0 := hal.alloc (.cells #[.int .i64 k, .int .i64 o, .slice A l.length cap, .int .i64 a1, .int .i64 a2, .int .i64 a3, .int .i64 a4, .int .i64 a5, .int .i64 a6, .int .i64 a7, .string ⟨ag.toArray⟩, .slice B al.length capb, .int .i64 yc, .int .i64 ym, .int .i64 ye, .int .i64 yn] 29)
  have g1 : ¬ k < 1 := by omega
  have g2 : ¬ 14 < k := by omega
  clear hl hal
  unfold MV.v MV.cs
  dsimp only
  go_enter Try.func10, Try.ntmps10
  have key := rmhas1_at k 111 111 false rfl H111 (w.alloc (.cells #[.int .i64 k, .int .i64 o, .slice A l.length cap, .int .i64 a1, .int .i64 a2, .int .i64 a3, .int .i64 a4, .int .i64 a5, .int .i64 a6, .int .i64 a7, .string ⟨ag.toArray⟩, .slice B al.length capb, .int .i64 yc, .int .i64 ym, .int .i64 ye, .int .i64 yn] 29))
  have hSa0 := boxM hbxa0
  go_wp2_with fail
  refine key.mono ?_
  rintro e w1 ⟨rfl, hx1⟩
  clear key
  have hb1 := hb0.trans (hx1.mono hb0.size)
  have hbxa1 := hbxa0.kept (Keep.of_below hx1) (fun h => absurd hbxa0.lt (Nat.not_lt.2 h))
  have hill1 := hill0.below hx1
  have hilm1 := hilm0.below hx1
  clear hbxa0 hill0 hilm0 hSa0
  have key := rmhas1_at k 111 111 false rfl H111 w1
  have hSa1 := boxM hbxa1
  go_wp2_with fail
  refine key.mono ?_
  rintro e w2 ⟨rfl, hx2⟩
  clear key
  have hb2 := hb1.trans (hx2.mono hb1.size)
  have hbxa2 := hbxa1.kept (Keep.of_below hx2) (fun h => absurd hbxa1.lt (Nat.not_lt.2 h))
  have hill2 := hill1.below hx2
  have hilm2 := hilm1.below hx2
  clear hbxa1 hill1 hilm1 hSa1
  by_cases p0 : o = 0
  case neg =>
    have p1 : (o == 0) = false := beq_eq_false_iff_ne.2 p0
    have p2 : decide (o = 0) = false := decide_eq_false p0
    have p3 : (o != 0) = true := bne_iff_ne.2 p0
    have z1 : f1 = false := by rw [← hf1]; exact decide_eq_false p0
    have hno : mayM ⟨k, o, l, ⟨a1, a2, a3, a4, a5, a6, a7, ag, al⟩, ⟨yc, ym, ye, yn⟩⟩ = false := by rw [hM, z1]; rfl
    have hSa2 := boxM hbxa2
    go_wp2
    go_ret
    exact ⟨by rw [hno]; rfl, hb2⟩
  have z1 : f1 = true := by rw [← hf1]; exact decide_eq_true p0
  have p1 : (o == 0) = true := beq_iff_eq.2 p0
  have p2 : decide (o = 0) = true := decide_eq_true p0
  have p3 : (o != 0) = false := by rw [bne, p1]; rfl
  have p4 : decide (¬ o = 0) = false := by rw [decide_not, p2]; rfl
  clear p0
  have key := refmay_b A l.length cap l w2 hill2 hn hwl.long
  have hSa2 := boxM hbxa2
  go_wp2_with fail
  refine key.mono ?_
  rintro e w3 ⟨rfl, hx3⟩
  clear key
  have hb3 := hb2.trans (hx3.mono hb2.size)
  have hbxa3 := hbxa2.kept (Keep.of_below hx3) (fun h => absurd hbxa2.lt (Nat.not_lt.2 h))
  have hill3 := hill2.below hx3
  have hilm3 := hilm2.below hx3
  clear hbxa2 hill2 hilm2 hSa2
  cases hv2 : mayL l with
  | false =>
    have z2 : f2 = false := by rw [← hf2]; refine decide_eq_false (fun h => ?_); rw [List.eq_nil_of_length_eq_zero h] at hv2; cases hv2
    have hno : mayM ⟨k, o, l, ⟨a1, a2, a3, a4, a5, a6, a7, ag, al⟩, ⟨yc, ym, ye, yn⟩⟩ = false := by rw [hM, z1, z2]; rfl
    have hSa3 := boxM hbxa3
    go_wp2
    go_ret
    exact ⟨by rw [hno]; rfl, hb3⟩
  | true =>
    have key := rmhas1_at k 105 105 false rfl H105 w3
    have hSa3 := boxM hbxa3
    go_wp2_with fail
    refine key.mono ?_
    rintro e w4 ⟨rfl, hx4⟩
    clear key
    have hb4 := hb3.trans (hx4.mono hb3.size)
    have hbxa4 := hbxa3.kept (Keep.of_below hx4) (fun h => absurd hbxa3.lt (Nat.not_lt.2 h))
    have hill4 := hill3.below hx4
    have hilm4 := hilm3.below hx4
    clear hbxa3 hill3 hilm3 hSa3
    by_cases p5 : 0 < l.length
    case pos =>
      have p6 : (0 : Int) < (l.length : Int) := by omega
      have z2 : f2 = false := by rw [← hf2]; exact decide_eq_false (by omega)
      have hno : mayM ⟨k, o, l, ⟨a1, a2, a3, a4, a5, a6, a7, ag, al⟩, ⟨yc, ym, ye, yn⟩⟩ = false := by rw [hM, z1, z2]; rfl
      have hSa4 := boxM hbxa4
      go_wp2
      go_ret
      exact ⟨by rw [hno]; rfl, hb4⟩
    have z2 : f2 = true := by rw [← hf2]; exact decide_eq_true (by omega)
    have p6 : ¬ (0 : Int) < (l.length : Int) := by omega
    cases hv3 : mayA ⟨a1, a2, a3, a4, a5, a6, a7, ag, al⟩ with
    | false =>
      have hSa4 := boxM hbxa4
      go_wp2_with fail
      refine wp_region_held_drew (S := (fun w' => w'.cell? ⟨w.heap.size, 0, none⟩ = some (.int .i64 k) ∧ w'.cell? ⟨w.heap.size, 1, none⟩ = some (.int .i64 o) ∧ w'.cell? ⟨w.heap.size, 2, none⟩ = some (.slice A l.length cap) ∧ w'.cell? ⟨w.heap.size, 3, none⟩ = some (.int .i64 a1) ∧ w'.cell? ⟨w.heap.size, 4, none⟩ = some (.int .i64 a2) ∧ w'.cell? ⟨w.heap.size, 5, none⟩ = some (.int .i64 a3) ∧ w'.cell? ⟨w.heap.size, 6, none⟩ = some (.int .i64 a4) ∧ w'.cell? ⟨w.heap.size, 7, none⟩ = some (.int .i64 a5) ∧ w'.cell? ⟨w.heap.size, 8, none⟩ = some (.int .i64 a6) ∧ w'.cell? ⟨w.heap.size, 9, none⟩ = some (.int .i64 a7) ∧ w'.cell? ⟨w.heap.size, 10, none⟩ = some (.string ⟨ag.toArray⟩) ∧ w'.cell? ⟨w.heap.size, 11, none⟩ = some (.slice B al.length capb) ∧ w'.cell? ⟨w.heap.size, 12, none⟩ = some (.int .i64 yc) ∧ w'.cell? ⟨w.heap.size, 13, none⟩ = some (.int .i64 ym) ∧ w'.cell? ⟨w.heap.size, 14, none⟩ = some (.int .i64 ye) ∧ w'.cell? ⟨w.heap.size, 15, none⟩ = some (.int .i64 yn))) (by kernel_rfl) hSa4 (fun hHeld => ?_)
      iterate 1 (refine tkP (by rfl) (by (simp only [List.getElem?_toArray, List.getElem?_cons_succ, List.getElem?_cons_zero]; rfl)) (by kernel_rfl) (by kernel_rfl) (by kernel_rfl) (by exact fun _ _ _ h => h) (by rfl) (by (intro w hSw; (try dsimp only at hSw); go_simp <;> with_reducible rfl)) (by assumption) ?_; try simp only [Act.put, List.setIfInBounds_toArray, List.set_cons_zero, List.set_cons_succ])
      (refine tkI 2 (by (simp only [List.getElem?_toArray, List.getElem?_cons_succ, List.getElem?_cons_zero]; rfl)) (by kernel_rfl) (by kernel_rfl) (by kernel_rfl) (by exact fun _ _ _ h => h) (by rfl) (by (intro w hSw; (try dsimp only at hSw); go_simp <;> with_reducible rfl)) (by assumption) ?_; try simp only [Act.put, List.setIfInBounds_toArray, List.set_cons_zero, List.set_cons_succ])
      (refine tkI 3 (by (simp only [List.getElem?_toArray, List.getElem?_cons_succ, List.getElem?_cons_zero]; rfl)) (by kernel_rfl) (by kernel_rfl) (by kernel_rfl) (by exact fun _ _ _ h => h) (by rfl) (by (intro w hSw; (try dsimp only at hSw); go_simp <;> with_reducible rfl)) (by assumption) ?_; try simp only [Act.put, List.setIfInBounds_toArray, List.set_cons_zero, List.set_cons_succ])
      refine wpAnyH_ready (rs := [1]) (by kernel_rfl) (by simp) ?_
      refine AllReadyH.cons (by (simp only [List.getElem?_toArray, List.getElem?_cons_succ, List.getElem?_cons_zero]; rfl)) (fun K hK => ?_) AllReadyH.nil
      go_simp
      have key := rmhas1_at k 97 97 true rfl H97 (w4.drew)
      refine key.mono ?_
      rintro e w5 ⟨rfl, hx5⟩
      clear key
      have hx5 : Below (w4.drew).heap.size (w4.drew) w5 := hx5
      have hb5 := (Below.drew hb4).trans (hx5.mono (Below.drew hb4).size)
      have hbxa5 := (hbxa4.drew).kept (Keep.of_below hx5) (fun h => absurd hbxa4.lt (Nat.not_lt.2 h))
      have hill5 := (hill4.drew).below hx5
      have hilm5 := (hilm4.drew).below hx5
      have hSa5 := boxM hbxa5
      go_wp2_with fail
      refine hK.out _ _ hSa5 (fun hHeld2 => ?_)
      clear hK K hHeld
      have hHeld := hHeld2
      clear hHeld2
      try simp only [Act.put, List.setIfInBounds_toArray, List.set_cons_zero, List.set_cons_succ]
      refine wpAnyH_ready (rs := [4]) (by kernel_rfl) (by simp) ?_
      refine AllReadyH.cons (by (simp only [List.getElem?_toArray, List.getElem?_cons_succ, List.getElem?_cons_zero]; rfl)) (fun K hK => ?_) AllReadyH.nil
      go_simp
      have key := raskmay_any ⟨a1, a2, a3, a4, a5, a6, a7, ag, al⟩ B capb (w5) hilm5 hwal hn2 hg7
      rw [hv3] at key
      unfold AV.v at key
      dsimp only at key
      refine key.mono ?_
      rintro e w6 ⟨rfl, hx6⟩
      clear key
      have hx6 : Below (w5).heap.size (w5) w6 := hx6
      have hb6 := hb5.trans (hx6.mono hb5.size)
      have hbxa6 := (hbxa5).kept (Keep.of_below hx6) (fun h => absurd hbxa5.lt (Nat.not_lt.2 h))
      have hill6 := (hill5).below hx6
      have hilm6 := (hilm5).below hx6
      have hSa6 := boxM hbxa6
      go_wp2_with fail
      refine hK.out _ _ hSa6 (fun hHeld2 => ?_)
      clear hK K hHeld
      have hHeld := hHeld2
      clear hHeld2
      try simp only [Act.put, List.setIfInBounds_toArray, List.set_cons_zero, List.set_cons_succ]
      iterate 2 (refine tkP (by rfl) (by (simp only [List.getElem?_toArray, List.getElem?_cons_succ, List.getElem?_cons_zero]; rfl)) (by kernel_rfl) (by kernel_rfl) (by kernel_rfl) (by exact fun _ _ _ h => h) (by rfl) (by (intro w hSw; (try dsimp only at hSw); go_simp <;> with_reducible rfl)) (by assumption) ?_; try simp only [Act.put, List.setIfInBounds_toArray, List.set_cons_zero, List.set_cons_succ])
      iterate 10 (refine tkN (by rfl) (by (simp only [List.getElem?_toArray, List.getElem?_cons_succ, List.getElem?_cons_zero]; rfl)) (by kernel_rfl) (by kernel_rfl) (by kernel_rfl) (by exact fun _ _ _ h => h) (by rfl) (by assumption) ?_; try simp only [Act.put, List.setIfInBounds_toArray, List.set_cons_zero, List.set_cons_succ])
      iterate 1 (refine tkP (by rfl) (by (simp only [List.getElem?_toArray, List.getElem?_cons_succ, List.getElem?_cons_zero]; rfl)) (by kernel_rfl) (by kernel_rfl) (by kernel_rfl) (by exact fun _ _ _ h => h) (by rfl) (by (intro w hSw; (try dsimp only at hSw); go_simp <;> with_reducible rfl)) (by assumption) ?_; try simp only [Act.put, List.setIfInBounds_toArray, List.set_cons_zero, List.set_cons_succ])
      refine wpAnyH_done (by kernel_rfl) ?_ _
      have z3 : f3 = false := by rw [← hf3]; exact hv3
      have hno : mayM ⟨k, o, l, ⟨a1, a2, a3, a4, a5, a6, a7, ag, al⟩, ⟨yc, ym, ye, yn⟩⟩ = false := by rw [hM, z1, z2, z3]; rfl
      go_wp2
      go_ret
      exact ⟨by rw [hno]; rfl, hb6⟩
    | true =>
      have hSa4 := boxM hbxa4
      go_wp2_with fail
      refine wp_region_held_drew (S := (fun w' => w'.cell? ⟨w.heap.size, 0, none⟩ = some (.int .i64 k) ∧ w'.cell? ⟨w.heap.size, 1, none⟩ = some (.int .i64 o) ∧ w'.cell? ⟨w.heap.size, 2, none⟩ = some (.slice A l.length cap) ∧ w'.cell? ⟨w.heap.size, 3, none⟩ = some (.int .i64 a1) ∧ w'.cell? ⟨w.heap.size, 4, none⟩ = some (.int .i64 a2) ∧ w'.cell? ⟨w.heap.size, 5, none⟩ = some (.int .i64 a3) ∧ w'.cell? ⟨w.heap.size, 6, none⟩ = some (.int .i64 a4) ∧ w'.cell? ⟨w.heap.size, 7, none⟩ = some (.int .i64 a5) ∧ w'.cell? ⟨w.heap.size, 8, none⟩ = some (.int .i64 a6) ∧ w'.cell? ⟨w.heap.size, 9, none⟩ = some (.int .i64 a7) ∧ w'.cell? ⟨w.heap.size, 10, none⟩ = some (.string ⟨ag.toArray⟩) ∧ w'.cell? ⟨w.heap.size, 11, none⟩ = some (.slice B al.length capb) ∧ w'.cell? ⟨w.heap.size, 12, none⟩ = some (.int .i64 yc) ∧ w'.cell? ⟨w.heap.size, 13, none⟩ = some (.int .i64 ym) ∧ w'.cell? ⟨w.heap.size, 14, none⟩ = some (.int .i64 ye) ∧ w'.cell? ⟨w.heap.size, 15, none⟩ = some (.int .i64 yn))) (by kernel_rfl) hSa4 (fun hHeld => ?_)
      iterate 1 (refine tkP (by rfl) (by (simp only [List.getElem?_toArray, List.getElem?_cons_succ, List.getElem?_cons_zero]; rfl)) (by kernel_rfl) (by kernel_rfl) (by kernel_rfl) (by exact fun _ _ _ h => h) (by rfl) (by (intro w hSw; (try dsimp only at hSw); go_simp <;> with_reducible rfl)) (by assumption) ?_; try simp only [Act.put, List.setIfInBounds_toArray, List.set_cons_zero, List.set_cons_succ])
      (refine tkI 2 (by (simp only [List.getElem?_toArray, List.getElem?_cons_succ, List.getElem?_cons_zero]; rfl)) (by kernel_rfl) (by kernel_rfl) (by kernel_rfl) (by exact fun _ _ _ h => h) (by rfl) (by (intro w hSw; (try dsimp only at hSw); go_simp <;> with_reducible rfl)) (by assumption) ?_; try simp only [Act.put, List.setIfInBounds_toArray, List.set_cons_zero, List.set_cons_succ])
      (refine tkI 3 (by (simp only [List.getElem?_toArray, List.getElem?_cons_succ, List.getElem?_cons_zero]; rfl)) (by kernel_rfl) (by kernel_rfl) (by kernel_rfl) (by exact fun _ _ _ h => h) (by rfl) (by (intro w hSw; (try dsimp only at hSw); go_simp <;> with_reducible rfl)) (by assumption) ?_; try simp only [Act.put, List.setIfInBounds_toArray, List.set_cons_zero, List.set_cons_succ])
      refine wpAnyH_ready (rs := [1]) (by kernel_rfl) (by simp) ?_
      refine AllReadyH.cons (by (simp only [List.getElem?_toArray, List.getElem?_cons_succ, List.getElem?_cons_zero]; rfl)) (fun K hK => ?_) AllReadyH.nil
      go_simp
      have key := rmhas1_at k 97 97 true rfl H97 (w4.drew)
      refine key.mono ?_
      rintro e w5 ⟨rfl, hx5⟩
      clear key
      have hx5 : Below (w4.drew).heap.size (w4.drew) w5 := hx5
      have hb5 := (Below.drew hb4).trans (hx5.mono (Below.drew hb4).size)
      have hbxa5 := (hbxa4.drew).kept (Keep.of_below hx5) (fun h => absurd hbxa4.lt (Nat.not_lt.2 h))
      have hill5 := (hill4.drew).below hx5
      have hilm5 := (hilm4.drew).below hx5
      have hSa5 := boxM hbxa5
      go_wp2_with fail
      refine hK.out _ _ hSa5 (fun hHeld2 => ?_)
      clear hK K hHeld
      have hHeld := hHeld2
      clear hHeld2
      try simp only [Act.put, List.setIfInBounds_toArray, List.set_cons_zero, List.set_cons_succ]
      refine wpAnyH_ready (rs := [4]) (by kernel_rfl) (by simp) ?_
      refine AllReadyH.cons (by (simp only [List.getElem?_toArray, List.getElem?_cons_succ, List.getElem?_cons_zero]; rfl)) (fun K hK => ?_) AllReadyH.nil
      go_simp
      have key := raskmay_any ⟨a1, a2, a3, a4, a5, a6, a7, ag, al⟩ B capb (w5) hilm5 hwal hn2 hg7
      rw [hv3] at key
      unfold AV.v at key
      dsimp only at key
      refine key.mono ?_
      rintro e w6 ⟨rfl, hx6⟩
      clear key
      have hx6 : Below (w5).heap.size (w5) w6 := hx6
      have hb6 := hb5.trans (hx6.mono hb5.size)
      have hbxa6 := (hbxa5).kept (Keep.of_below hx6) (fun h => absurd hbxa5.lt (Nat.not_lt.2 h))
      have hill6 := (hill5).below hx6
      have hilm6 := (hilm5).below hx6
      have hSa6 := boxM hbxa6
      go_wp2_with fail
      refine hK.out _ _ hSa6 (fun hHeld2 => ?_)
      clear hK K hHeld
      have hHeld := hHeld2
      clear hHeld2
      try simp only [Act.put, List.setIfInBounds_toArray, List.set_cons_zero, List.set_cons_succ]
      iterate 2 (refine tkP (by rfl) (by (simp only [List.getElem?_toArray, List.getElem?_cons_succ, List.getElem?_cons_zero]; rfl)) (by kernel_rfl) (by kernel_rfl) (by kernel_rfl) (by exact fun _ _ _ h => h) (by rfl) (by (intro w hSw; (try dsimp only at hSw); go_simp <;> with_reducible rfl)) (by assumption) ?_; try simp only [Act.put, List.setIfInBounds_toArray, List.set_cons_zero, List.set_cons_succ])
      iterate 1 (refine tkP (by rfl) (by (simp only [List.getElem?_toArray, List.getElem?_cons_succ, List.getElem?_cons_zero]; rfl)) (by kernel_rfl) (by kernel_rfl) (by kernel_rfl) (by exact fun _ _ _ h => h) (by rfl) (by (intro w hSw; (try dsimp only at hSw); go_simp <;> with_reducible rfl)) (by assumption) ?_; try simp only [Act.put, List.setIfInBounds_toArray, List.set_cons_zero, List.set_cons_succ])
      refine wpAnyH_ready (rs := [8]) (by kernel_rfl) (by simp) ?_
      refine AllReadyH.cons (by (simp only [List.getElem?_toArray, List.getElem?_cons_succ, List.getElem?_cons_zero]; rfl)) (fun K hK => ?_) AllReadyH.nil
      go_simp
      have key := rmhas1_at k 97 97 true rfl H97 (w6)
      refine key.mono ?_
      rintro e w7 ⟨rfl, hx7⟩
      clear key
      have hx7 : Below (w6).heap.size (w6) w7 := hx7
      have hb7 := hb6.trans (hx7.mono hb6.size)
      have hbxa7 := (hbxa6).kept (Keep.of_below hx7) (fun h => absurd hbxa6.lt (Nat.not_lt.2 h))
      have hill7 := (hill6).below hx7
      have hilm7 := (hilm6).below hx7
      have hSa7 := boxM hbxa7
      go_wp2_with fail
      refine hK.out _ _ hSa7 (fun hHeld2 => ?_)
      clear hK K hHeld
      have hHeld := hHeld2
      clear hHeld2
      try simp only [Act.put, List.setIfInBounds_toArray, List.set_cons_zero, List.set_cons_succ]
      iterate 2 (refine tkP (by rfl) (by (simp only [List.getElem?_toArray, List.getElem?_cons_succ, List.getElem?_cons_zero]; rfl)) (by kernel_rfl) (by kernel_rfl) (by kernel_rfl) (by exact fun _ _ _ h => h) (by rfl) (by (intro w hSw; (try dsimp only at hSw); go_simp <;> with_reducible rfl)) (by assumption) ?_; try simp only [Act.put, List.setIfInBounds_toArray, List.set_cons_zero, List.set_cons_succ])
      iterate 5 (refine tkN (by rfl) (by (simp only [List.getElem?_toArray, List.getElem?_cons_succ, List.getElem?_cons_zero]; rfl)) (by kernel_rfl) (by kernel_rfl) (by kernel_rfl) (by exact fun _ _ _ h => h) (by rfl) (by assumption) ?_; try simp only [Act.put, List.setIfInBounds_toArray, List.set_cons_zero, List.set_cons_succ])
      iterate 2 (refine tkP (by rfl) (by (simp only [List.getElem?_toArray, List.getElem?_cons_succ, List.getElem?_cons_zero]; rfl)) (by kernel_rfl) (by kernel_rfl) (by kernel_rfl) (by exact fun _ _ _ h => h) (by rfl) (by (intro w hSw; (try dsimp only at hSw); go_simp <;> with_reducible rfl)) (by assumption) ?_; try simp only [Act.put, List.setIfInBounds_toArray, List.set_cons_zero, List.set_cons_succ])
      refine wpAnyH_done (by kernel_rfl) ?_ _
      have z3 : f3 = true := by rw [← hf3]; exact hv3
      have key := rmhas1_at k 121 121 false rfl H121 w7
      go_wp2_with fail
      refine key.mono ?_
      rintro e w8 ⟨rfl, hx8⟩
      clear key
      have hb8 := hb7.trans (hx8.mono hb7.size)
      have hbxa8 := hbxa7.kept (Keep.of_below hx8) (fun h => absurd hbxa7.lt (Nat.not_lt.2 h))
      have hill8 := hill7.below hx8
      have hilm8 := hilm7.below hx8
      clear hbxa7 hill7 hilm7 hSa7
      have hfin : mayM ⟨k, o, l, ⟨a1, a2, a3, a4, a5, a6, a7, ag, al⟩, ⟨yc, ym, ye, yn⟩⟩ = sameY ⟨yc, ym, ye, yn⟩ y0 := by rw [hM, z1, z2, z3, ← hf4]; rfl
      have e5 := e4 w8
      have hSa8 := boxM hbxa8
      go_wp2
      go_ret
      exact ⟨by rw [hfin]; rfl, hb8⟩
set_option maxRecDepth 100000 in
set_option maxHeartbeats 25600000 in
theorem rmmay_Y (x : MV) (A : Option Addr) (cap : Nat) (B : Option Addr) (capb : Nat) (w : World) (hl : IL w A x.l.length x.l) (hal : IL w B x.a.l.length x.a.l) (hwl : WL x.l) (hwal : WL x.a.l) (hn : x.l.length ≤ 9223372036854775807) (hn2 : x.a.l.length ≤ 9223372036854775807) (hg7 : x.a.g.length ≤ 9223372036854775807)
    (hL : hasM x.k = [121]) (hk1 : 1 ≤ x.k) (hk2 : x.k ≤ 14) :
    Calls Try.prog 10 #[x.v A cap B capb] w fun e w' => e = .returned (.bool (mayM x)) ∧ Below w.heap.size w w' := by
  obtain ⟨k, o, l, ⟨a1, a2, a3, a4, a5, a6, a7, ag, al⟩, ⟨yc, ym, ye, yn⟩⟩ := x
  dsimp only at hl hal hwl hwal hn hn2 hg7 hL hk1 hk2
  have H111 : hasB (hasM k) 111 = false := by rw [hL]; rfl
  have H105 : hasB (hasM k) 105 = false := by rw [hL]; rfl
  have H97 : hasB (hasM k) 97 = false := by rw [hL]; rfl
  have H121 : hasB (hasM k) 121 = true := by rw [hL]; rfl
  have hM : mayM ⟨k, o, l, ⟨a1, a2, a3, a4, a5, a6, a7, ag, al⟩, ⟨yc, ym, ye, yn⟩⟩ = (decide (o = 0) && (decide (l.length = 0) && (sameA ⟨a1, a2, a3, a4, a5, a6, a7, ag, al⟩ x0 && mayY ⟨yc, ym, ye, yn⟩))) := by
    have : mayM ⟨k, o, l, ⟨a1, a2, a3, a4, a5, a6, a7, ag, al⟩, ⟨yc, ym, ye, yn⟩⟩ = mayKM (hasM k) ⟨k, o, l, ⟨a1, a2, a3, a4, a5, a6, a7, ag, al⟩, ⟨yc, ym, ye, yn⟩⟩ := rfl
    rw [this]
    unfold mayKM
    dsimp only
    rw [H111, H105, H97, H121, decide_eq_true hk1, decide_eq_true hk2]
    rfl
  obtain ⟨f1, hf1⟩ : ∃ b, decide (o = 0) = b := ⟨_, rfl⟩
  obtain ⟨f2, hf2⟩ : ∃ b, decide (l.length = 0) = b := ⟨_, rfl⟩
  obtain ⟨f3, hf3⟩ : ∃ b, sameA ⟨a1, a2, a3, a4, a5, a6, a7, ag, al⟩ x0 = b := ⟨_, rfl⟩
  obtain ⟨f4, hf4⟩ : ∃ b, mayY ⟨yc, ym, ye, yn⟩ = b := ⟨_, rfl⟩
  rw [hf1, hf2, hf3, hf4] at hM
  have e4 := run_ans_eql ⟨yc, ym, ye, yn⟩ y0 (sameY ⟨yc, ym, ye, yn⟩ y0) rfl
  unfold y0 at e4
  dsimp only at e4
  have hbxa0 : Blk (w.alloc (.cells #[.int .i64 k, .int .i64 o, .slice A l.length cap, .int .i64 a1, .int .i64 a2, .int .i64 a3, .int .i64 a4, .int .i64 a5, .int .i64 a6, .int .i64 a7, .string ⟨ag.toArray⟩, .slice B al.length capb, .int .i64 yc, .int .i64 ym, .int .i64 ye, .int .i64 yn] 29)) w.heap.size 29 #[.int .i64 k, .int .i64 o, .slice A l.length cap, .int .i64 a1, .int .i64 a2, .int .i64 a3, .int .i64 a4, .int .i64 a5, .int .i64 a6, .int .i64 a7, .string ⟨ag.toArray⟩, .slice B al.length capb, .int .i64 yc, .int .i64 ym, .int .i64 ye, .int .i64 yn] := Blk.new _ _ _
  have hb0 := (Below.refl w.heap.size w).alloc (Nat.le_refl _) (.cells #[.int .i64 k, .int .i64 o, .slice A l.length cap, .int .i64 a1, .int .i64 a2, .int .i64 a3, .int .i64 a4, .int .i64 a5, .int .i64 a6, .int .i64 a7, .string ⟨ag.toArray⟩, .slice B al.length capb, .int .i64 yc, .int .i64 ym, .int .i64 ye, .int .i64 yn] 29)
  have hill0 := hl.alloc (.cells #[.int .i64 k, .int .i64 o, .slice A l.length cap, .int .i64 a1, .int .i64 a2, .int .i64 a3, .int .i64 a4, .int .i64 a5, .int .i64 a6, .int .i64 a7, .string ⟨ag.toArray⟩, .slice B al.length capb, .int .i64 yc, .int .i64 ym, .int .i64 ye, .int .i64 yn] 29)
  have hilm0 := hal.alloc (.cells #[.int .i64 k, .int .i64 o, .slice A l.length cap, .int .i64 a1, .int .i64 a2, .int .i64 a3, .int .i64 a4, .int .i64 a5, .int .i64 a6, .int .i64 a7, .string ⟨ag.toArray⟩, .slice B al.length capb, .int .i64 yc, .int .i64 ym, .int .i64 ye, .int .i64 yn] 29)
  have g1 : ¬ k < 1 := by omega
  have g2 : ¬ 14 < k := by omega
  clear hl hal
  unfold MV.v MV.cs
  dsimp only
  go_enter Try.func10, Try.ntmps10
  have key := rmhas1_at k 111 111 false rfl H111 (w.alloc (.cells #[.int .i64 k, .int .i64 o, .slice A l.length cap, .int .i64 a1, .int .i64 a2, .int .i64 a3, .int .i64 a4, .int .i64 a5, .int .i64 a6, .int .i64 a7, .string ⟨ag.toArray⟩, .slice B al.length capb, .int .i64 yc, .int .i64 ym, .int .i64 ye, .int .i64 yn] 29))
  have hSa0 := boxM hbxa0
  go_wp2_with fail
  refine key.mono ?_
  rintro e w1 ⟨rfl, hx1⟩
  clear key
  have hb1 := hb0.trans (hx1.mono hb0.size)
  have hbxa1 := hbxa0.kept (Keep.of_below hx1) (fun h => absurd hbxa0.lt (Nat.not_lt.2 h))
  have hill1 := hill0.below hx1
  have hilm1 := hilm0.below hx1
  clear hbxa0 hill0 hilm0 hSa0
  have key := rmhas1_at k 111 111 false rfl H111 w1
  have hSa1 := boxM hbxa1
  go_wp2_with fail
  refine key.mono ?_
  rintro e w2 ⟨rfl, hx2⟩
  clear key
  have hb2 := hb1.trans (hx2.mono hb1.size)
  have hbxa2 := hbxa1.kept (Keep.of_below hx2) (fun h => absurd hbxa1.lt (Nat.not_lt.2 h))
  have hill2 := hill1.below hx2
  have hilm2 := hilm1.below hx2
  clear hbxa1 hill1 hilm1 hSa1
  by_cases p0 : o = 0
  case neg =>
    have p1 : (o == 0) = false := beq_eq_false_iff_ne.2 p0
    have p2 : decide (o = 0) = false := decide_eq_false p0
    have p3 : (o != 0) = true := bne_iff_ne.2 p0
    have z1 : f1 = false := by rw [← hf1]; exact decide_eq_false p0
    have hno : mayM ⟨k, o, l, ⟨a1, a2, a3, a4, a5, a6, a7, ag, al⟩, ⟨yc, ym, ye, yn⟩⟩ = false := by rw [hM, z1]; rfl
    have hSa2 := boxM hbxa2
    go_wp2
    go_ret
    exact ⟨by rw [hno]; rfl, hb2⟩
  have z1 : f1 = true := by rw [← hf1]; exact decide_eq_true p0
  have p1 : (o == 0) = true := beq_iff_eq.2 p0
  have p2 : decide (o = 0) = true := decide_eq_true p0
  have p3 : (o != 0) = false := by rw [bne, p1]; rfl
  have p4 : decide (¬ o = 0) = false := by rw [decide_not, p2]; rfl
  clear p0
  have key := refmay_b A l.length cap l w2 hill2 hn hwl.long
  have hSa2 := boxM hbxa2
  go_wp2_with fail
  refine key.mono ?_
  rintro e w3 ⟨rfl, hx3⟩
  clear key
  have hb3 := hb2.trans (hx3.mono hb2.size)
  have hbxa3 := hbxa2.kept (Keep.of_below hx3) (fun h => absurd hbxa2.lt (Nat.not_lt.2 h))
  have hill3 := hill2.below hx3
  have hilm3 := hilm2.below hx3
  clear hbxa2 hill2 hilm2 hSa2
  cases hv2 : mayL l with
  | false =>
    have z2 : f2 = false := by rw [← hf2]; refine decide_eq_false (fun h => ?_); rw [List.eq_nil_of_length_eq_zero h] at hv2; cases hv2
    have hno : mayM ⟨k, o, l, ⟨a1, a2, a3, a4, a5, a6, a7, ag, al⟩, ⟨yc, ym, ye, yn⟩⟩ = false := by rw [hM, z1, z2]; rfl
    have hSa3 := boxM hbxa3
    go_wp2
    go_ret
    exact ⟨by rw [hno]; rfl, hb3⟩
  | true =>
    have key := rmhas1_at k 105 105 false rfl H105 w3
    have hSa3 := boxM hbxa3
    go_wp2_with fail
    refine key.mono ?_
    rintro e w4 ⟨rfl, hx4⟩
    clear key
    have hb4 := hb3.trans (hx4.mono hb3.size)
    have hbxa4 := hbxa3.kept (Keep.of_below hx4) (fun h => absurd hbxa3.lt (Nat.not_lt.2 h))
    have hill4 := hill3.below hx4
    have hilm4 := hilm3.below hx4
    clear hbxa3 hill3 hilm3 hSa3
    by_cases p5 : 0 < l.length
    case pos =>
      have p6 : (0 : Int) < (l.length : Int) := by omega
      have z2 : f2 = false := by rw [← hf2]; exact decide_eq_false (by omega)
      have hno : mayM ⟨k, o, l, ⟨a1, a2, a3, a4, a5, a6, a7, ag, al⟩, ⟨yc, ym, ye, yn⟩⟩ = false := by rw [hM, z1, z2]; rfl
      have hSa4 := boxM hbxa4
      go_wp2
      go_ret
      exact ⟨by rw [hno]; rfl, hb4⟩
    have z2 : f2 = true := by rw [← hf2]; exact decide_eq_true (by omega)
    have p6 : ¬ (0 : Int) < (l.length : Int) := by omega
    cases hv3 : mayA ⟨a1, a2, a3, a4, a5, a6, a7, ag, al⟩ with
    | false =>
      cases hs3 : sameA ⟨a1, a2, a3, a4, a5, a6, a7, ag, al⟩ x0 with
      | false =>
        have hSa4 := boxM hbxa4
        go_wp2_with fail
        refine wp_region_held_drew (S := (fun w' => w'.cell? ⟨w.heap.size, 0, none⟩ = some (.int .i64 k) ∧ w'.cell? ⟨w.heap.size, 1, none⟩ = some (.int .i64 o) ∧ w'.cell? ⟨w.heap.size, 2, none⟩ = some (.slice A l.length cap) ∧ w'.cell? ⟨w.heap.size, 3, none⟩ = some (.int .i64 a1) ∧ w'.cell? ⟨w.heap.size, 4, none⟩ = some (.int .i64 a2) ∧ w'.cell? ⟨w.heap.size, 5, none⟩ = some (.int .i64 a3) ∧ w'.cell? ⟨w.heap.size, 6, none⟩ = some (.int .i64 a4) ∧ w'.cell? ⟨w.heap.size, 7, none⟩ = some (.int .i64 a5) ∧ w'.cell? ⟨w.heap.size, 8, none⟩ = some (.int .i64 a6) ∧ w'.cell? ⟨w.heap.size, 9, none⟩ = some (.int .i64 a7) ∧ w'.cell? ⟨w.heap.size, 10, none⟩ = some (.string ⟨ag.toArray⟩) ∧ w'.cell? ⟨w.heap.size, 11, none⟩ = some (.slice B al.length capb) ∧ w'.cell? ⟨w.heap.size, 12, none⟩ = some (.int .i64 yc) ∧ w'.cell? ⟨w.heap.size, 13, none⟩ = some (.int .i64 ym) ∧ w'.cell? ⟨w.heap.size, 14, none⟩ = some (.int .i64 ye) ∧ w'.cell? ⟨w.heap.size, 15, none⟩ = some (.int .i64 yn))) (by kernel_rfl) hSa4 (fun hHeld => ?_)
        iterate 1 (refine tkP (by rfl) (by (simp only [List.getElem?_toArray, List.getElem?_cons_succ, List.getElem?_cons_zero]; rfl)) (by kernel_rfl) (by kernel_rfl) (by kernel_rfl) (by exact fun _ _ _ h => h) (by rfl) (by (intro w hSw; (try dsimp only at hSw); go_simp <;> with_reducible rfl)) (by assumption) ?_; try simp only [Act.put, List.setIfInBounds_toArray, List.set_cons_zero, List.set_cons_succ])
        (refine tkI 2 (by (simp only [List.getElem?_toArray, List.getElem?_cons_succ, List.getElem?_cons_zero]; rfl)) (by kernel_rfl) (by kernel_rfl) (by kernel_rfl) (by exact fun _ _ _ h => h) (by rfl) (by (intro w hSw; (try dsimp only at hSw); go_simp <;> with_reducible rfl)) (by assumption) ?_; try simp only [Act.put, List.setIfInBounds_toArray, List.set_cons_zero, List.set_cons_succ])
        (refine tkI 3 (by (simp only [List.getElem?_toArray, List.getElem?_cons_succ, List.getElem?_cons_zero]; rfl)) (by kernel_rfl) (by kernel_rfl) (by kernel_rfl) (by exact fun _ _ _ h => h) (by rfl) (by (intro w hSw; (try dsimp only at hSw); go_simp <;> with_reducible rfl)) (by assumption) ?_; try simp only [Act.put, List.setIfInBounds_toArray, List.set_cons_zero, List.set_cons_succ])
        refine wpAnyH_ready (rs := [1]) (by kernel_rfl) (by simp) ?_
        refine AllReadyH.cons (by (simp only [List.getElem?_toArray, List.getElem?_cons_succ, List.getElem?_cons_zero]; rfl)) (fun K hK => ?_) AllReadyH.nil
        go_simp
        have key := rmhas1_at k 97 97 false rfl H97 (w4.drew)
        refine key.mono ?_
        rintro e w5 ⟨rfl, hx5⟩
        clear key
        have hx5 : Below (w4.drew).heap.size (w4.drew) w5 := hx5
        have hb5 := (Below.drew hb4).trans (hx5.mono (Below.drew hb4).size)
        have hbxa5 := (hbxa4.drew).kept (Keep.of_below hx5) (fun h => absurd hbxa4.lt (Nat.not_lt.2 h))
        have hill5 := (hill4.drew).below hx5
        have hilm5 := (hilm4.drew).below hx5
        have hSa5 := boxM hbxa5
        go_wp2_with fail
        refine hK.out _ _ hSa5 (fun hHeld2 => ?_)
        clear hK K hHeld
        have hHeld := hHeld2
        clear hHeld2
        try simp only [Act.put, List.setIfInBounds_toArray, List.set_cons_zero, List.set_cons_succ]
        refine wpAnyH_ready (rs := [4]) (by kernel_rfl) (by simp) ?_
        refine AllReadyH.cons (by (simp only [List.getElem?_toArray, List.getElem?_cons_succ, List.getElem?_cons_zero]; rfl)) (fun K hK => ?_) AllReadyH.nil
        go_simp
        have key := raskmay_any ⟨a1, a2, a3, a4, a5, a6, a7, ag, al⟩ B capb (w5) hilm5 hwal hn2 hg7
        rw [hv3] at key
        unfold AV.v at key
        dsimp only at key
        refine key.mono ?_
        rintro e w6 ⟨rfl, hx6⟩
        clear key
        have hx6 : Below (w5).heap.size (w5) w6 := hx6
        have hb6 := hb5.trans (hx6.mono hb5.size)
        have hbxa6 := (hbxa5).kept (Keep.of_below hx6) (fun h => absurd hbxa5.lt (Nat.not_lt.2 h))
        have hill6 := (hill5).below hx6
        have hilm6 := (hilm5).below hx6
        have hSa6 := boxM hbxa6
        go_wp2_with fail
        refine hK.out _ _ hSa6 (fun hHeld2 => ?_)
        clear hK K hHeld
        have hHeld := hHeld2
        clear hHeld2
        try simp only [Act.put, List.setIfInBounds_toArray, List.set_cons_zero, List.set_cons_succ]
        iterate 2 (refine tkP (by rfl) (by (simp only [List.getElem?_toArray, List.getElem?_cons_succ, List.getElem?_cons_zero]; rfl)) (by kernel_rfl) (by kernel_rfl) (by kernel_rfl) (by exact fun _ _ _ h => h) (by rfl) (by (intro w hSw; (try dsimp only at hSw); go_simp <;> with_reducible rfl)) (by assumption) ?_; try simp only [Act.put, List.setIfInBounds_toArray, List.set_cons_zero, List.set_cons_succ])
        iterate 1 (refine tkP (by rfl) (by (simp only [List.getElem?_toArray, List.getElem?_cons_succ, List.getElem?_cons_zero]; rfl)) (by kernel_rfl) (by kernel_rfl) (by kernel_rfl) (by exact fun _ _ _ h => h) (by rfl) (by (intro w hSw; (try dsimp only at hSw); go_simp <;> with_reducible rfl)) (by assumption) ?_; try simp only [Act.put, List.setIfInBounds_toArray, List.set_cons_zero, List.set_cons_succ])
        refine wpAnyH_ready (rs := [8]) (by kernel_rfl) (by simp) ?_
        refine AllReadyH.cons (by (simp only [List.getElem?_toArray, List.getElem?_cons_succ, List.getElem?_cons_zero]; rfl)) (fun K hK => ?_) AllReadyH.nil
        go_simp
        have key := rmhas1_at k 97 97 false rfl H97 (w6)
        refine key.mono ?_
        rintro e w7 ⟨rfl, hx7⟩
        clear key
        have hx7 : Below (w6).heap.size (w6) w7 := hx7
        have hb7 := hb6.trans (hx7.mono hb6.size)
        have hbxa7 := (hbxa6).kept (Keep.of_below hx7) (fun h => absurd hbxa6.lt (Nat.not_lt.2 h))
        have hill7 := (hill6).below hx7
        have hilm7 := (hilm6).below hx7
        have hSa7 := boxM hbxa7
        go_wp2_with fail
        refine hK.out _ _ hSa7 (fun hHeld2 => ?_)
        clear hK K hHeld
        have hHeld := hHeld2
        clear hHeld2
        try simp only [Act.put, List.setIfInBounds_toArray, List.set_cons_zero, List.set_cons_succ]
        iterate 2 (refine tkP (by rfl) (by (simp only [List.getElem?_toArray, List.getElem?_cons_succ, List.getElem?_cons_zero]; rfl)) (by kernel_rfl) (by kernel_rfl) (by kernel_rfl) (by exact fun _ _ _ h => h) (by rfl) (by (intro w hSw; (try dsimp only at hSw); go_simp <;> with_reducible rfl)) (by assumption) ?_; try simp only [Act.put, List.setIfInBounds_toArray, List.set_cons_zero, List.set_cons_succ])
        iterate 3 (refine tkP (by rfl) (by (simp only [List.getElem?_toArray, List.getElem?_cons_succ, List.getElem?_cons_zero]; rfl)) (by kernel_rfl) (by kernel_rfl) (by kernel_rfl) (by exact fun _ _ _ h => h) (by rfl) (by (intro w hSw; (try dsimp only at hSw); go_simp <;> with_reducible rfl)) (by assumption) ?_; try simp only [Act.put, List.setIfInBounds_toArray, List.set_cons_zero, List.set_cons_succ])
        refine wpAnyH_ready (rs := [14]) (by kernel_rfl) (by simp) ?_
        refine AllReadyH.cons (by (simp only [List.getElem?_toArray, List.getElem?_cons_succ, List.getElem?_cons_zero]; rfl)) (fun K hK => ?_) AllReadyH.nil
        go_simp
        have key := rsame_any ⟨a1, a2, a3, a4, a5, a6, a7, ag, al⟩ x0 B none capb 0 (w7) hilm7 (IL.nil _ _) hn2
        rw [hs3] at key
        unfold AV.v x0 at key
        dsimp only at key
        refine key.mono ?_
        rintro e w8 ⟨rfl, hx8⟩
        clear key
        have hx8 : Below (w7).heap.size (w7) w8 := hx8
        have hb8 := hb7.trans (hx8.mono hb7.size)
        have hbxa8 := (hbxa7).kept (Keep.of_below hx8) (fun h => absurd hbxa7.lt (Nat.not_lt.2 h))
        have hill8 := (hill7).below hx8
        have hilm8 := (hilm7).below hx8
        have hSa8 := boxM hbxa8
        go_wp2_with fail
        refine hK.out _ _ hSa8 (fun hHeld2 => ?_)
        clear hK K hHeld
        have hHeld := hHeld2
        clear hHeld2
        try simp only [Act.put, List.setIfInBounds_toArray, List.set_cons_zero, List.set_cons_succ]
        iterate 3 (refine tkP (by rfl) (by (simp only [List.getElem?_toArray, List.getElem?_cons_succ, List.getElem?_cons_zero]; rfl)) (by kernel_rfl) (by kernel_rfl) (by kernel_rfl) (by exact fun _ _ _ h => h) (by rfl) (by (intro w hSw; (try dsimp only at hSw); go_simp <;> with_reducible rfl)) (by assumption) ?_; try simp only [Act.put, List.setIfInBounds_toArray, List.set_cons_zero, List.set_cons_succ])
        refine wpAnyH_done (by kernel_rfl) ?_ _
        have z3 : f3 = false := by rw [← hf3]; exact hs3
        have hno : mayM ⟨k, o, l, ⟨a1, a2, a3, a4, a5, a6, a7, ag, al⟩, ⟨yc, ym, ye, yn⟩⟩ = false := by rw [hM, z1, z2, z3]; rfl
        go_wp2
        go_ret
        exact ⟨by rw [hno]; rfl, hb8⟩
      | true =>
        have hSa4 := boxM hbxa4
        go_wp2_with fail
        refine wp_region_held_drew (S := (fun w' => w'.cell? ⟨w.heap.size, 0, none⟩ = some (.int .i64 k) ∧ w'.cell? ⟨w.heap.size, 1, none⟩ = some (.int .i64 o) ∧ w'.cell? ⟨w.heap.size, 2, none⟩ = some (.slice A l.length cap) ∧ w'.cell? ⟨w.heap.size, 3, none⟩ = some (.int .i64 a1) ∧ w'.cell? ⟨w.heap.size, 4, none⟩ = some (.int .i64 a2) ∧ w'.cell? ⟨w.heap.size, 5, none⟩ = some (.int .i64 a3) ∧ w'.cell? ⟨w.heap.size, 6, none⟩ = some (.int .i64 a4) ∧ w'.cell? ⟨w.heap.size, 7, none⟩ = some (.int .i64 a5) ∧ w'.cell? ⟨w.heap.size, 8, none⟩ = some (.int .i64 a6) ∧ w'.cell? ⟨w.heap.size, 9, none⟩ = some (.int .i64 a7) ∧ w'.cell? ⟨w.heap.size, 10, none⟩ = some (.string ⟨ag.toArray⟩) ∧ w'.cell? ⟨w.heap.size, 11, none⟩ = some (.slice B al.length capb) ∧ w'.cell? ⟨w.heap.size, 12, none⟩ = some (.int .i64 yc) ∧ w'.cell? ⟨w.heap.size, 13, none⟩ = some (.int .i64 ym) ∧ w'.cell? ⟨w.heap.size, 14, none⟩ = some (.int .i64 ye) ∧ w'.cell? ⟨w.heap.size, 15, none⟩ = some (.int .i64 yn))) (by kernel_rfl) hSa4 (fun hHeld => ?_)
        iterate 1 (refine tkP (by rfl) (by (simp only [List.getElem?_toArray, List.getElem?_cons_succ, List.getElem?_cons_zero]; rfl)) (by kernel_rfl) (by kernel_rfl) (by kernel_rfl) (by exact fun _ _ _ h => h) (by rfl) (by (intro w hSw; (try dsimp only at hSw); go_simp <;> with_reducible rfl)) (by assumption) ?_; try simp only [Act.put, List.setIfInBounds_toArray, List.set_cons_zero, List.set_cons_succ])
        (refine tkI 2 (by (simp only [List.getElem?_toArray, List.getElem?_cons_succ, List.getElem?_cons_zero]; rfl)) (by kernel_rfl) (by kernel_rfl) (by kernel_rfl) (by exact fun _ _ _ h => h) (by rfl) (by (intro w hSw; (try dsimp only at hSw); go_simp <;> with_reducible rfl)) (by assumption) ?_; try simp only [Act.put, List.setIfInBounds_toArray, List.set_cons_zero, List.set_cons_succ])
        (refine tkI 3 (by (simp only [List.getElem?_toArray, List.getElem?_cons_succ, List.getElem?_cons_zero]; rfl)) (by kernel_rfl) (by kernel_rfl) (by kernel_rfl) (by exact fun _ _ _ h => h) (by rfl) (by (intro w hSw; (try dsimp only at hSw); go_simp <;> with_reducible rfl)) (by assumption) ?_; try simp only [Act.put, List.setIfInBounds_toArray, List.set_cons_zero, List.set_cons_succ])
        refine wpAnyH_ready (rs := [1]) (by kernel_rfl) (by simp) ?_
        refine AllReadyH.cons (by (simp only [List.getElem?_toArray, List.getElem?_cons_succ, List.getElem?_cons_zero]; rfl)) (fun K hK => ?_) AllReadyH.nil
        go_simp
        have key := rmhas1_at k 97 97 false rfl H97 (w4.drew)
        refine key.mono ?_
        rintro e w5 ⟨rfl, hx5⟩
        clear key
        have hx5 : Below (w4.drew).heap.size (w4.drew) w5 := hx5
        have hb5 := (Below.drew hb4).trans (hx5.mono (Below.drew hb4).size)
        have hbxa5 := (hbxa4.drew).kept (Keep.of_below hx5) (fun h => absurd hbxa4.lt (Nat.not_lt.2 h))
        have hill5 := (hill4.drew).below hx5
        have hilm5 := (hilm4.drew).below hx5
        have hSa5 := boxM hbxa5
        go_wp2_with fail
        refine hK.out _ _ hSa5 (fun hHeld2 => ?_)
        clear hK K hHeld
        have hHeld := hHeld2
        clear hHeld2
        try simp only [Act.put, List.setIfInBounds_toArray, List.set_cons_zero, List.set_cons_succ]
        refine wpAnyH_ready (rs := [4]) (by kernel_rfl) (by simp) ?_
        refine AllReadyH.cons (by (simp only [List.getElem?_toArray, List.getElem?_cons_succ, List.getElem?_cons_zero]; rfl)) (fun K hK => ?_) AllReadyH.nil
        go_simp
        have key := raskmay_any ⟨a1, a2, a3, a4, a5, a6, a7, ag, al⟩ B capb (w5) hilm5 hwal hn2 hg7
        rw [hv3] at key
        unfold AV.v at key
        dsimp only at key
        refine key.mono ?_
        rintro e w6 ⟨rfl, hx6⟩
        clear key
        have hx6 : Below (w5).heap.size (w5) w6 := hx6
        have hb6 := hb5.trans (hx6.mono hb5.size)
        have hbxa6 := (hbxa5).kept (Keep.of_below hx6) (fun h => absurd hbxa5.lt (Nat.not_lt.2 h))
        have hill6 := (hill5).below hx6
        have hilm6 := (hilm5).below hx6
        have hSa6 := boxM hbxa6
        go_wp2_with fail
        refine hK.out _ _ hSa6 (fun hHeld2 => ?_)
        clear hK K hHeld
        have hHeld := hHeld2
        clear hHeld2
        try simp only [Act.put, List.setIfInBounds_toArray, List.set_cons_zero, List.set_cons_succ]
        iterate 2 (refine tkP (by rfl) (by (simp only [List.getElem?_toArray, List.getElem?_cons_succ, List.getElem?_cons_zero]; rfl)) (by kernel_rfl) (by kernel_rfl) (by kernel_rfl) (by exact fun _ _ _ h => h) (by rfl) (by (intro w hSw; (try dsimp only at hSw); go_simp <;> with_reducible rfl)) (by assumption) ?_; try simp only [Act.put, List.setIfInBounds_toArray, List.set_cons_zero, List.set_cons_succ])
        iterate 1 (refine tkP (by rfl) (by (simp only [List.getElem?_toArray, List.getElem?_cons_succ, List.getElem?_cons_zero]; rfl)) (by kernel_rfl) (by kernel_rfl) (by kernel_rfl) (by exact fun _ _ _ h => h) (by rfl) (by (intro w hSw; (try dsimp only at hSw); go_simp <;> with_reducible rfl)) (by assumption) ?_; try simp only [Act.put, List.setIfInBounds_toArray, List.set_cons_zero, List.set_cons_succ])
        refine wpAnyH_ready (rs := [8]) (by kernel_rfl) (by simp) ?_
        refine AllReadyH.cons (by (simp only [List.getElem?_toArray, List.getElem?_cons_succ, List.getElem?_cons_zero]; rfl)) (fun K hK => ?_) AllReadyH.nil
        go_simp
        have key := rmhas1_at k 97 97 false rfl H97 (w6)
        refine key.mono ?_
        rintro e w7 ⟨rfl, hx7⟩
        clear key
        have hx7 : Below (w6).heap.size (w6) w7 := hx7
        have hb7 := hb6.trans (hx7.mono hb6.size)
        have hbxa7 := (hbxa6).kept (Keep.of_below hx7) (fun h => absurd hbxa6.lt (Nat.not_lt.2 h))
        have hill7 := (hill6).below hx7
        have hilm7 := (hilm6).below hx7
        have hSa7 := boxM hbxa7
        go_wp2_with fail
        refine hK.out _ _ hSa7 (fun hHeld2 => ?_)
        clear hK K hHeld
        have hHeld := hHeld2
        clear hHeld2
        try simp only [Act.put, List.setIfInBounds_toArray, List.set_cons_zero, List.set_cons_succ]
        iterate 2 (refine tkP (by rfl) (by (simp only [List.getElem?_toArray, List.getElem?_cons_succ, List.getElem?_cons_zero]; rfl)) (by kernel_rfl) (by kernel_rfl) (by kernel_rfl) (by exact fun _ _ _ h => h) (by rfl) (by (intro w hSw; (try dsimp only at hSw); go_simp <;> with_reducible rfl)) (by assumption) ?_; try simp only [Act.put, List.setIfInBounds_toArray, List.set_cons_zero, List.set_cons_succ])
        iterate 3 (refine tkP (by rfl) (by (simp only [List.getElem?_toArray, List.getElem?_cons_succ, List.getElem?_cons_zero]; rfl)) (by kernel_rfl) (by kernel_rfl) (by kernel_rfl) (by exact fun _ _ _ h => h) (by rfl) (by (intro w hSw; (try dsimp only at hSw); go_simp <;> with_reducible rfl)) (by assumption) ?_; try simp only [Act.put, List.setIfInBounds_toArray, List.set_cons_zero, List.set_cons_succ])
        refine wpAnyH_ready (rs := [14]) (by kernel_rfl) (by simp) ?_
        refine AllReadyH.cons (by (simp only [List.getElem?_toArray, List.getElem?_cons_succ, List.getElem?_cons_zero]; rfl)) (fun K hK => ?_) AllReadyH.nil
        go_simp
        have key := rsame_any ⟨a1, a2, a3, a4, a5, a6, a7, ag, al⟩ x0 B none capb 0 (w7) hilm7 (IL.nil _ _) hn2
        rw [hs3] at key
        unfold AV.v x0 at key
        dsimp only at key
        refine key.mono ?_
        rintro e w8 ⟨rfl, hx8⟩
        clear key
        have hx8 : Below (w7).heap.size (w7) w8 := hx8
        have hb8 := hb7.trans (hx8.mono hb7.size)
        have hbxa8 := (hbxa7).kept (Keep.of_below hx8) (fun h => absurd hbxa7.lt (Nat.not_lt.2 h))
        have hill8 := (hill7).below hx8
        have hilm8 := (hilm7).below hx8
        have hSa8 := boxM hbxa8
        go_wp2_with fail
        refine hK.out _ _ hSa8 (fun hHeld2 => ?_)
        clear hK K hHeld
        have hHeld := hHeld2
        clear hHeld2
        try simp only [Act.put, List.setIfInBounds_toArray, List.set_cons_zero, List.set_cons_succ]
        iterate 3 (refine tkP (by rfl) (by (simp only [List.getElem?_toArray, List.getElem?_cons_succ, List.getElem?_cons_zero]; rfl)) (by kernel_rfl) (by kernel_rfl) (by kernel_rfl) (by exact fun _ _ _ h => h) (by rfl) (by (intro w hSw; (try dsimp only at hSw); go_simp <;> with_reducible rfl)) (by assumption) ?_; try simp only [Act.put, List.setIfInBounds_toArray, List.set_cons_zero, List.set_cons_succ])
        refine wpAnyH_done (by kernel_rfl) ?_ _
        have z3 : f3 = true := by rw [← hf3]; exact hs3
        have key := rmhas1_at k 121 121 true rfl H121 w8
        go_wp2_with fail
        refine key.mono ?_
        rintro e w9 ⟨rfl, hx9⟩
        clear key
        have hb9 := hb8.trans (hx9.mono hb8.size)
        have hbxa9 := hbxa8.kept (Keep.of_below hx9) (fun h => absurd hbxa8.lt (Nat.not_lt.2 h))
        have hill9 := hill8.below hx9
        have hilm9 := hilm8.below hx9
        clear hbxa8 hill8 hilm8 hSa8
        have hSa9 := boxM hbxa9
        have hC : mayY ⟨yc, ym, ye, yn⟩ = (mayC yc ym && (decide (0 ≤ ye) && decide (ye ≤ 1000))) := by unfold mayY mayC; simp only [Bool.and_assoc]
        rw [hC] at hf4
        go_wp2_with fail
        refine (refmay09_any yc ym _).mono ?_
        rintro e w' ⟨rfl, hww⟩
        subst w'
        have hfin := Lib.hid (show mayM ⟨k, o, l, ⟨a1, a2, a3, a4, a5, a6, a7, ag, al⟩, ⟨yc, ym, ye, yn⟩⟩ = f4 by rw [hM, z1, z2, z3]; rfl)
        have hf5 := Lib.hid hf4
        clear hM hf4
        cases hc : mayC yc ym with
        | false =>
          go_wp2
          go_ret
          exact ⟨by rw [hfin.out, ← hf5.out, hc]; rfl, hb9⟩
        | true =>
          by_cases r1 : 0 ≤ ye
          case neg =>
            have hr1 := Lib.hid (decide_eq_false r1)
            go_wp2
            go_ret
            exact ⟨by rw [hfin.out, ← hf5.out, hc, hr1.out]; rfl, hb9⟩
          have hr1 := Lib.hid (decide_eq_true r1)
          by_cases r2 : ye ≤ 1000
          case pos =>
            have hr2 := Lib.hid (decide_eq_true r2)
            go_wp2
            go_ret
            exact ⟨by rw [hfin.out, ← hf5.out, hc, hr1.out, hr2.out]; rfl, hb9⟩
          case neg =>
            have hr2 := Lib.hid (decide_eq_false r2)
            go_wp2
            go_ret
            exact ⟨by rw [hfin.out, ← hf5.out, hc, hr1.out, hr2.out]; rfl, hb9⟩
    | true =>
      have hSa4 := boxM hbxa4
      go_wp2_with fail
      refine wp_region_held_drew (S := (fun w' => w'.cell? ⟨w.heap.size, 0, none⟩ = some (.int .i64 k) ∧ w'.cell? ⟨w.heap.size, 1, none⟩ = some (.int .i64 o) ∧ w'.cell? ⟨w.heap.size, 2, none⟩ = some (.slice A l.length cap) ∧ w'.cell? ⟨w.heap.size, 3, none⟩ = some (.int .i64 a1) ∧ w'.cell? ⟨w.heap.size, 4, none⟩ = some (.int .i64 a2) ∧ w'.cell? ⟨w.heap.size, 5, none⟩ = some (.int .i64 a3) ∧ w'.cell? ⟨w.heap.size, 6, none⟩ = some (.int .i64 a4) ∧ w'.cell? ⟨w.heap.size, 7, none⟩ = some (.int .i64 a5) ∧ w'.cell? ⟨w.heap.size, 8, none⟩ = some (.int .i64 a6) ∧ w'.cell? ⟨w.heap.size, 9, none⟩ = some (.int .i64 a7) ∧ w'.cell? ⟨w.heap.size, 10, none⟩ = some (.string ⟨ag.toArray⟩) ∧ w'.cell? ⟨w.heap.size, 11, none⟩ = some (.slice B al.length capb) ∧ w'.cell? ⟨w.heap.size, 12, none⟩ = some (.int .i64 yc) ∧ w'.cell? ⟨w.heap.size, 13, none⟩ = some (.int .i64 ym) ∧ w'.cell? ⟨w.heap.size, 14, none⟩ = some (.int .i64 ye) ∧ w'.cell? ⟨w.heap.size, 15, none⟩ = some (.int .i64 yn))) (by kernel_rfl) hSa4 (fun hHeld => ?_)
      iterate 1 (refine tkP (by rfl) (by (simp only [List.getElem?_toArray, List.getElem?_cons_succ, List.getElem?_cons_zero]; rfl)) (by kernel_rfl) (by kernel_rfl) (by kernel_rfl) (by exact fun _ _ _ h => h) (by rfl) (by (intro w hSw; (try dsimp only at hSw); go_simp <;> with_reducible rfl)) (by assumption) ?_; try simp only [Act.put, List.setIfInBounds_toArray, List.set_cons_zero, List.set_cons_succ])
      (refine tkI 2 (by (simp only [List.getElem?_toArray, List.getElem?_cons_succ, List.getElem?_cons_zero]; rfl)) (by kernel_rfl) (by kernel_rfl) (by kernel_rfl) (by exact fun _ _ _ h => h) (by rfl) (by (intro w hSw; (try dsimp only at hSw); go_simp <;> with_reducible rfl)) (by assumption) ?_; try simp only [Act.put, List.setIfInBounds_toArray, List.set_cons_zero, List.set_cons_succ])
      (refine tkI 3 (by (simp only [List.getElem?_toArray, List.getElem?_cons_succ, List.getElem?_cons_zero]; rfl)) (by kernel_rfl) (by kernel_rfl) (by kernel_rfl) (by exact fun _ _ _ h => h) (by rfl) (by (intro w hSw; (try dsimp only at hSw); go_simp <;> with_reducible rfl)) (by assumption) ?_; try simp only [Act.put, List.setIfInBounds_toArray, List.set_cons_zero, List.set_cons_succ])
      refine wpAnyH_ready (rs := [1]) (by kernel_rfl) (by simp) ?_
      refine AllReadyH.cons (by (simp only [List.getElem?_toArray, List.getElem?_cons_succ, List.getElem?_cons_zero]; rfl)) (fun K hK => ?_) AllReadyH.nil
      go_simp
      have key := rmhas1_at k 97 97 false rfl H97 (w4.drew)
      refine key.mono ?_
      rintro e w5 ⟨rfl, hx5⟩
      clear key
      have hx5 : Below (w4.drew).heap.size (w4.drew) w5 := hx5
      have hb5 := (Below.drew hb4).trans (hx5.mono (Below.drew hb4).size)
      have hbxa5 := (hbxa4.drew).kept (Keep.of_below hx5) (fun h => absurd hbxa4.lt (Nat.not_lt.2 h))
      have hill5 := (hill4.drew).below hx5
      have hilm5 := (hilm4.drew).below hx5
      have hSa5 := boxM hbxa5
      go_wp2_with fail
      refine hK.out _ _ hSa5 (fun hHeld2 => ?_)
      clear hK K hHeld
      have hHeld := hHeld2
      clear hHeld2
      try simp only [Act.put, List.setIfInBounds_toArray, List.set_cons_zero, List.set_cons_succ]
      refine wpAnyH_ready (rs := [4]) (by kernel_rfl) (by simp) ?_
      refine AllReadyH.cons (by (simp only [List.getElem?_toArray, List.getElem?_cons_succ, List.getElem?_cons_zero]; rfl)) (fun K hK => ?_) AllReadyH.nil
      go_simp
      have key := raskmay_any ⟨a1, a2, a3, a4, a5, a6, a7, ag, al⟩ B capb (w5) hilm5 hwal hn2 hg7
      rw [hv3] at key
      unfold AV.v at key
      dsimp only at key
      refine key.mono ?_
      rintro e w6 ⟨rfl, hx6⟩
      clear key
      have hx6 : Below (w5).heap.size (w5) w6 := hx6
      have hb6 := hb5.trans (hx6.mono hb5.size)
      have hbxa6 := (hbxa5).kept (Keep.of_below hx6) (fun h => absurd hbxa5.lt (Nat.not_lt.2 h))
      have hill6 := (hill5).below hx6
      have hilm6 := (hilm5).below hx6
      have hSa6 := boxM hbxa6
      go_wp2_with fail
      refine hK.out _ _ hSa6 (fun hHeld2 => ?_)
      clear hK K hHeld
      have hHeld := hHeld2
      clear hHeld2
      try simp only [Act.put, List.setIfInBounds_toArray, List.set_cons_zero, List.set_cons_succ]
      iterate 2 (refine tkP (by rfl) (by (simp only [List.getElem?_toArray, List.getElem?_cons_succ, List.getElem?_cons_zero]; rfl)) (by kernel_rfl) (by kernel_rfl) (by kernel_rfl) (by exact fun _ _ _ h => h) (by rfl) (by (intro w hSw; (try dsimp only at hSw); go_simp <;> with_reducible rfl)) (by assumption) ?_; try simp only [Act.put, List.setIfInBounds_toArray, List.set_cons_zero, List.set_cons_succ])
      iterate 10 (refine tkN (by rfl) (by (simp only [List.getElem?_toArray, List.getElem?_cons_succ, List.getElem?_cons_zero]; rfl)) (by kernel_rfl) (by kernel_rfl) (by kernel_rfl) (by exact fun _ _ _ h => h) (by rfl) (by assumption) ?_; try simp only [Act.put, List.setIfInBounds_toArray, List.set_cons_zero, List.set_cons_succ])
      iterate 1 (refine tkP (by rfl) (by (simp only [List.getElem?_toArray, List.getElem?_cons_succ, List.getElem?_cons_zero]; rfl)) (by kernel_rfl) (by kernel_rfl) (by kernel_rfl) (by exact fun _ _ _ h => h) (by rfl) (by (intro w hSw; (try dsimp only at hSw); go_simp <;> with_reducible rfl)) (by assumption) ?_; try simp only [Act.put, List.setIfInBounds_toArray, List.set_cons_zero, List.set_cons_succ])
      refine wpAnyH_done (by kernel_rfl) ?_ _
      have z3 : f3 = false := by rw [← hf3]; cases hq : sameA ⟨a1, a2, a3, a4, a5, a6, a7, ag, al⟩ x0 with | false => rfl | true => (rw [(sameA_iff _ _).1 hq, x0_no] at hv3; cases hv3)
      have hno : mayM ⟨k, o, l, ⟨a1, a2, a3, a4, a5, a6, a7, ag, al⟩, ⟨yc, ym, ye, yn⟩⟩ = false := by rw [hM, z1, z2, z3]; rfl
      go_wp2
      go_ret
      exact ⟨by rw [hno]; rfl, hb6⟩
set_option maxRecDepth 100000 in
set_option maxHeartbeats 25600000 in
theorem rmmay_OI (x : MV) (A : Option Addr) (cap : Nat) (B : Option Addr) (capb : Nat) (w : World) (hl : IL w A x.l.length x.l) (hal : IL w B x.a.l.length x.a.l) (hwl : WL x.l) (hwal : WL x.a.l) (hn : x.l.length ≤ 9223372036854775807) (hn2 : x.a.l.length ≤ 9223372036854775807) (hg7 : x.a.g.length ≤ 9223372036854775807)
    (hL : hasM x.k = [111, 105]) (hk1 : 1 ≤ x.k) (hk2 : x.k ≤ 14) :
    Calls Try.prog 10 #[x.v A cap B capb] w fun e w' => e = .returned (.bool (mayM x)) ∧ Below w.heap.size w w' := by
  obtain ⟨k, o, l, ⟨a1, a2, a3, a4, a5, a6, a7, ag, al⟩, ⟨yc, ym, ye, yn⟩⟩ := x
  dsimp only at hl hal hwl hwal hn hn2 hg7 hL hk1 hk2
  have H111 : hasB (hasM k) 111 = true := by rw [hL]; rfl
  have H105 : hasB (hasM k) 105 = true := by rw [hL]; rfl
  have H97 : hasB (hasM k) 97 = false := by rw [hL]; rfl
  have H121 : hasB (hasM k) 121 = false := by rw [hL]; rfl
  have hM : mayM ⟨k, o, l, ⟨a1, a2, a3, a4, a5, a6, a7, ag, al⟩, ⟨yc, ym, ye, yn⟩⟩ = ((decide (1 ≤ o) && decide (o ≤ 1099511627776)) && (mayL l && (sameA ⟨a1, a2, a3, a4, a5, a6, a7, ag, al⟩ x0 && sameY ⟨yc, ym, ye, yn⟩ y0))) := by
    have : mayM ⟨k, o, l, ⟨a1, a2, a3, a4, a5, a6, a7, ag, al⟩, ⟨yc, ym, ye, yn⟩⟩ = mayKM (hasM k) ⟨k, o, l, ⟨a1, a2, a3, a4, a5, a6, a7, ag, al⟩, ⟨yc, ym, ye, yn⟩⟩ := rfl
    rw [this]
    unfold mayKM
    dsimp only
    rw [H111, H105, H97, H121, decide_eq_true hk1, decide_eq_true hk2]
    rfl
  obtain ⟨f1, hf1⟩ : ∃ b, (decide (1 ≤ o) && decide (o ≤ 1099511627776)) = b := ⟨_, rfl⟩
  obtain ⟨f2, hf2⟩ : ∃ b, mayL l = b := ⟨_, rfl⟩
  obtain ⟨f3, hf3⟩ : ∃ b, sameA ⟨a1, a2, a3, a4, a5, a6, a7, ag, al⟩ x0 = b := ⟨_, rfl⟩
  obtain ⟨f4, hf4⟩ : ∃ b, sameY ⟨yc, ym, ye, yn⟩ y0 = b := ⟨_, rfl⟩
  rw [hf1, hf2, hf3, hf4] at hM
  have e4 := run_ans_eql ⟨yc, ym, ye, yn⟩ y0 (sameY ⟨yc, ym, ye, yn⟩ y0) rfl
  unfold y0 at e4
  dsimp only at e4
  have hbxa0 : Blk (w.alloc (.cells #[.int .i64 k, .int .i64 o, .slice A l.length cap, .int .i64 a1, .int .i64 a2, .int .i64 a3, .int .i64 a4, .int .i64 a5, .int .i64 a6, .int .i64 a7, .string ⟨ag.toArray⟩, .slice B al.length capb, .int .i64 yc, .int .i64 ym, .int .i64 ye, .int .i64 yn] 29)) w.heap.size 29 #[.int .i64 k, .int .i64 o, .slice A l.length cap, .int .i64 a1, .int .i64 a2, .int .i64 a3, .int .i64 a4, .int .i64 a5, .int .i64 a6, .int .i64 a7, .string ⟨ag.toArray⟩, .slice B al.length capb, .int .i64 yc, .int .i64 ym, .int .i64 ye, .int .i64 yn] := Blk.new _ _ _
  have hb0 := (Below.refl w.heap.size w).alloc (Nat.le_refl _) (.cells #[.int .i64 k, .int .i64 o, .slice A l.length cap, .int .i64 a1, .int .i64 a2, .int .i64 a3, .int .i64 a4, .int .i64 a5, .int .i64 a6, .int .i64 a7, .string ⟨ag.toArray⟩, .slice B al.length capb, .int .i64 yc, .int .i64 ym, .int .i64 ye, .int .i64 yn] 29)
  have hill0 := hl.alloc (.cells #[.int .i64 k, .int .i64 o, .slice A l.length cap, .int .i64 a1, .int .i64 a2, .int .i64 a3, .int .i64 a4, .int .i64 a5, .int .i64 a6, .int .i64 a7, .string ⟨ag.toArray⟩, .slice B al.length capb, .int .i64 yc, .int .i64 ym, .int .i64 ye, .int .i64 yn] 29)
  have hilm0 := hal.alloc (.cells #[.int .i64 k, .int .i64 o, .slice A l.length cap, .int .i64 a1, .int .i64 a2, .int .i64 a3, .int .i64 a4, .int .i64 a5, .int .i64 a6, .int .i64 a7, .string ⟨ag.toArray⟩, .slice B al.length capb, .int .i64 yc, .int .i64 ym, .int .i64 ye, .int .i64 yn] 29)
  have g1 : ¬ k < 1 := by omega
  have g2 : ¬ 14 < k := by omega
  clear hl hal
  unfold MV.v MV.cs
  dsimp only
  go_enter Try.func10, Try.ntmps10
  have key := rmhas1_at k 111 111 true rfl H111 (w.alloc (.cells #[.int .i64 k, .int .i64 o, .slice A l.length cap, .int .i64 a1, .int .i64 a2, .int .i64 a3, .int .i64 a4, .int .i64 a5, .int .i64 a6, .int .i64 a7, .string ⟨ag.toArray⟩, .slice B al.length capb, .int .i64 yc, .int .i64 ym, .int .i64 ye, .int .i64 yn] 29))
  have hSa0 := boxM hbxa0
  go_wp2_with fail
  refine key.mono ?_
  rintro e w1 ⟨rfl, hx1⟩
  clear key
  have hb1 := hb0.trans (hx1.mono hb0.size)
  have hbxa1 := hbxa0.kept (Keep.of_below hx1) (fun h => absurd hbxa0.lt (Nat.not_lt.2 h))
  have hill1 := hill0.below hx1
  have hilm1 := hilm0.below hx1
  clear hbxa0 hill0 hilm0 hSa0
  by_cases p1 : o < 1
  case pos =>
    have z1 : f1 = false := by rw [← hf1, decide_eq_false (show ¬ 1 ≤ o by omega)]; rfl
    have hno : mayM ⟨k, o, l, ⟨a1, a2, a3, a4, a5, a6, a7, ag, al⟩, ⟨yc, ym, ye, yn⟩⟩ = false := by rw [hM, z1]; rfl
    have hSa1 := boxM hbxa1
    go_wp2
    go_ret
    exact ⟨by rw [hno]; rfl, hb1⟩
  by_cases p2 : 1099511627776 < o
  case pos =>
    have z1 : f1 = false := by rw [← hf1, decide_eq_false (show ¬ o ≤ 1099511627776 by omega), Bool.and_false]
    have hno : mayM ⟨k, o, l, ⟨a1, a2, a3, a4, a5, a6, a7, ag, al⟩, ⟨yc, ym, ye, yn⟩⟩ = false := by rw [hM, z1]; rfl
    have hSa1 := boxM hbxa1
    go_wp2
    go_ret
    exact ⟨by rw [hno]; rfl, hb1⟩
  have z1 : f1 = true := by rw [← hf1, decide_eq_true (show 1 ≤ o by omega), decide_eq_true (show o ≤ 1099511627776 by omega)]; rfl
  have key := rmhas1_at k 111 111 true rfl H111 w1
  have hSa1 := boxM hbxa1
  go_wp2_with fail
  refine key.mono ?_
  rintro e w2 ⟨rfl, hx2⟩
  clear key
  have hb2 := hb1.trans (hx2.mono hb1.size)
  have hbxa2 := hbxa1.kept (Keep.of_below hx2) (fun h => absurd hbxa1.lt (Nat.not_lt.2 h))
  have hill2 := hill1.below hx2
  have hilm2 := hilm1.below hx2
  clear hbxa1 hill1 hilm1 hSa1
  have key := refmay_b A l.length cap l w2 hill2 hn hwl.long
  have hSa2 := boxM hbxa2
  go_wp2_with fail
  refine key.mono ?_
  rintro e w3 ⟨rfl, hx3⟩
  clear key
  have hb3 := hb2.trans (hx3.mono hb2.size)
  have hbxa3 := hbxa2.kept (Keep.of_below hx3) (fun h => absurd hbxa2.lt (Nat.not_lt.2 h))
  have hill3 := hill2.below hx3
  have hilm3 := hilm2.below hx3
  clear hbxa2 hill2 hilm2 hSa2
  cases hv2 : mayL l with
  | false =>
    have z2 : f2 = false := by rw [← hf2]; exact hv2
    have hno : mayM ⟨k, o, l, ⟨a1, a2, a3, a4, a5, a6, a7, ag, al⟩, ⟨yc, ym, ye, yn⟩⟩ = false := by rw [hM, z1, z2]; rfl
    have hSa3 := boxM hbxa3
    go_wp2
    go_ret
    exact ⟨by rw [hno]; rfl, hb3⟩
  | true =>
    have key := rmhas1_at k 105 105 true rfl H105 w3
    have hSa3 := boxM hbxa3
    go_wp2_with fail
    refine key.mono ?_
    rintro e w4 ⟨rfl, hx4⟩
    clear key
    have hb4 := hb3.trans (hx4.mono hb3.size)
    have hbxa4 := hbxa3.kept (Keep.of_below hx4) (fun h => absurd hbxa3.lt (Nat.not_lt.2 h))
    have hill4 := hill3.below hx4
    have hilm4 := hilm3.below hx4
    clear hbxa3 hill3 hilm3 hSa3
    have z2 : f2 = true := by rw [← hf2]; exact hv2
    cases hv3 : mayA ⟨a1, a2, a3, a4, a5, a6, a7, ag, al⟩ with
    | false =>
      cases hs3 : sameA ⟨a1, a2, a3, a4, a5, a6, a7, ag, al⟩ x0 with
      | false =>
        have hSa4 := boxM hbxa4
        go_wp2_with fail
        refine wp_region_held_drew (S := (fun w' => w'.cell? ⟨w.heap.size, 0, none⟩ = some (.int .i64 k) ∧ w'.cell? ⟨w.heap.size, 1, none⟩ = some (.int .i64 o) ∧ w'.cell? ⟨w.heap.size, 2, none⟩ = some (.slice A l.length cap) ∧ w'.cell? ⟨w.heap.size, 3, none⟩ = some (.int .i64 a1) ∧ w'.cell? ⟨w.heap.size, 4, none⟩ = some (.int .i64 a2) ∧ w'.cell? ⟨w.heap.size, 5, none⟩ = some (.int .i64 a3) ∧ w'.cell? ⟨w.heap.size, 6, none⟩ = some (.int .i64 a4) ∧ w'.cell? ⟨w.heap.size, 7, none⟩ = some (.int .i64 a5) ∧ w'.cell? ⟨w.heap.size, 8, none⟩ = some (.int .i64 a6) ∧ w'.cell? ⟨w.heap.size, 9, none⟩ = some (.int .i64 a7) ∧ w'.cell? ⟨w.heap.size, 10, none⟩ = some (.string ⟨ag.toArray⟩) ∧ w'.cell? ⟨w.heap.size, 11, none⟩ = some (.slice B al.length capb) ∧ w'.cell? ⟨w.heap.size, 12, none⟩ = some (.int .i64 yc) ∧ w'.cell? ⟨w.heap.size, 13, none⟩ = some (.int .i64 ym) ∧ w'.cell? ⟨w.heap.size, 14, none⟩ = some (.int .i64 ye) ∧ w'.cell? ⟨w.heap.size, 15, none⟩ = some (.int .i64 yn))) (by kernel_rfl) hSa4 (fun hHeld => ?_)
        iterate 1 (refine tkP (by rfl) (by (simp only [List.getElem?_toArray, List.getElem?_cons_succ, List.getElem?_cons_zero]; rfl)) (by kernel_rfl) (by kernel_rfl) (by kernel_rfl) (by exact fun _ _ _ h => h) (by rfl) (by (intro w hSw; (try dsimp only at hSw); go_simp <;> with_reducible rfl)) (by assumption) ?_; try simp only [Act.put, List.setIfInBounds_toArray, List.set_cons_zero, List.set_cons_succ])
        (refine tkI 2 (by (simp only [List.getElem?_toArray, List.getElem?_cons_succ, List.getElem?_cons_zero]; rfl)) (by kernel_rfl) (by kernel_rfl) (by kernel_rfl) (by exact fun _ _ _ h => h) (by rfl) (by (intro w hSw; (try dsimp only at hSw); go_simp <;> with_reducible rfl)) (by assumption) ?_; try simp only [Act.put, List.setIfInBounds_toArray, List.set_cons_zero, List.set_cons_succ])
        (refine tkI 3 (by (simp only [List.getElem?_toArray, List.getElem?_cons_succ, List.getElem?_cons_zero]; rfl)) (by kernel_rfl) (by kernel_rfl) (by kernel_rfl) (by exact fun _ _ _ h => h) (by rfl) (by (intro w hSw; (try dsimp only at hSw); go_simp <;> with_reducible rfl)) (by assumption) ?_; try simp only [Act.put, List.setIfInBounds_toArray, List.set_cons_zero, List.set_cons_succ])
        refine wpAnyH_ready (rs := [1]) (by kernel_rfl) (by simp) ?_
        refine AllReadyH.cons (by (simp only [List.getElem?_toArray, List.getElem?_cons_succ, List.getElem?_cons_zero]; rfl)) (fun K hK => ?_) AllReadyH.nil
        go_simp
        have key := rmhas1_at k 97 97 false rfl H97 (w4.drew)
        refine key.mono ?_
        rintro e w5 ⟨rfl, hx5⟩
        clear key
        have hx5 : Below (w4.drew).heap.size (w4.drew) w5 := hx5
        have hb5 := (Below.drew hb4).trans (hx5.mono (Below.drew hb4).size)
        have hbxa5 := (hbxa4.drew).kept (Keep.of_below hx5) (fun h => absurd hbxa4.lt (Nat.not_lt.2 h))
        have hill5 := (hill4.drew).below hx5
        have hilm5 := (hilm4.drew).below hx5
        have hSa5 := boxM hbxa5
        go_wp2_with fail
        refine hK.out _ _ hSa5 (fun hHeld2 => ?_)
        clear hK K hHeld
        have hHeld := hHeld2
        clear hHeld2
        try simp only [Act.put, List.setIfInBounds_toArray, List.set_cons_zero, List.set_cons_succ]
        refine wpAnyH_ready (rs := [4]) (by kernel_rfl) (by simp) ?_
        refine AllReadyH.cons (by (simp only [List.getElem?_toArray, List.getElem?_cons_succ, List.getElem?_cons_zero]; rfl)) (fun K hK => ?_) AllReadyH.nil
        go_simp
        have key := raskmay_any ⟨a1, a2, a3, a4, a5, a6, a7, ag, al⟩ B capb (w5) hilm5 hwal hn2 hg7
        rw [hv3] at key
        unfold AV.v at key
        dsimp only at key
        refine key.mono ?_
        rintro e w6 ⟨rfl, hx6⟩
        clear key
        have hx6 : Below (w5).heap.size (w5) w6 := hx6
        have hb6 := hb5.trans (hx6.mono hb5.size)
        have hbxa6 := (hbxa5).kept (Keep.of_below hx6) (fun h => absurd hbxa5.lt (Nat.not_lt.2 h))
        have hill6 := (hill5).below hx6
        have hilm6 := (hilm5).below hx6
        have hSa6 := boxM hbxa6
        go_wp2_with fail
        refine hK.out _ _ hSa6 (fun hHeld2 => ?_)
        clear hK K hHeld
        have hHeld := hHeld2
        clear hHeld2
        try simp only [Act.put, List.setIfInBounds_toArray, List.set_cons_zero, List.set_cons_succ]
        iterate 2 (refine tkP (by rfl) (by (simp only [List.getElem?_toArray, List.getElem?_cons_succ, List.getElem?_cons_zero]; rfl)) (by kernel_rfl) (by kernel_rfl) (by kernel_rfl) (by exact fun _ _ _ h => h) (by rfl) (by (intro w hSw; (try dsimp only at hSw); go_simp <;> with_reducible rfl)) (by assumption) ?_; try simp only [Act.put, List.setIfInBounds_toArray, List.set_cons_zero, List.set_cons_succ])
        iterate 1 (refine tkP (by rfl) (by (simp only [List.getElem?_toArray, List.getElem?_cons_succ, List.getElem?_cons_zero]; rfl)) (by kernel_rfl) (by kernel_rfl) (by kernel_rfl) (by exact fun _ _ _ h => h) (by rfl) (by (intro w hSw; (try dsimp only at hSw); go_simp <;> with_reducible rfl)) (by assumption) ?_; try simp only [Act.put, List.setIfInBounds_toArray, List.set_cons_zero, List.set_cons_succ])
        refine wpAnyH_ready (rs := [8]) (by kernel_rfl) (by simp) ?_
        refine AllReadyH.cons (by (simp only [List.getElem?_toArray, List.getElem?_cons_succ, List.getElem?_cons_zero]; rfl)) (fun K hK => ?_) AllReadyH.nil
        go_simp
        have key := rmhas1_at k 97 97 false rfl H97 (w6)
        refine key.mono ?_
        rintro e w7 ⟨rfl, hx7⟩
        clear key
        have hx7 : Below (w6).heap.size (w6) w7 := hx7
        have hb7 := hb6.trans (hx7.mono hb6.size)
        have hbxa7 := (hbxa6).kept (Keep.of_below hx7) (fun h => absurd hbxa6.lt (Nat.not_lt.2 h))
        have hill7 := (hill6).below hx7
        have hilm7 := (hilm6).below hx7
        have hSa7 := boxM hbxa7
        go_wp2_with fail
        refine hK.out _ _ hSa7 (fun hHeld2 => ?_)
        clear hK K hHeld
        have hHeld := hHeld2
        clear hHeld2
        try simp only [Act.put, List.setIfInBounds_toArray, List.set_cons_zero, List.set_cons_succ]
        iterate 2 (refine tkP (by rfl) (by (simp only [List.getElem?_toArray, List.getElem?_cons_succ, List.getElem?_cons_zero]; rfl)) (by kernel_rfl) (by kernel_rfl) (by kernel_rfl) (by exact fun _ _ _ h => h) (by rfl) (by (intro w hSw; (try dsimp only at hSw); go_simp <;> with_reducible rfl)) (by assumption) ?_; try simp only [Act.put, List.setIfInBounds_toArray, List.set_cons_zero, List.set_cons_succ])
        iterate 3 (refine tkP (by rfl) (by (simp only [List.getElem?_toArray, List.getElem?_cons_succ, List.getElem?_cons_zero]; rfl)) (by kernel_rfl) (by kernel_rfl) (by kernel_rfl) (by exact fun _ _ _ h => h) (by rfl) (by (intro w hSw; (try dsimp only at hSw); go_simp <;> with_reducible rfl)) (by assumption) ?_; try simp only [Act.put, List.setIfInBounds_toArray, List.set_cons_zero, List.set_cons_succ])
        refine wpAnyH_ready (rs := [14]) (by kernel_rfl) (by simp) ?_
        refine AllReadyH.cons (by (simp only [List.getElem?_toArray, List.getElem?_cons_succ, List.getElem?_cons_zero]; rfl)) (fun K hK => ?_) AllReadyH.nil
        go_simp
        have key := rsame_any ⟨a1, a2, a3, a4, a5, a6, a7, ag, al⟩ x0 B none capb 0 (w7) hilm7 (IL.nil _ _) hn2
        rw [hs3] at key
        unfold AV.v x0 at key
        dsimp only at key
        refine key.mono ?_
        rintro e w8 ⟨rfl, hx8⟩
        clear key
        have hx8 : Below (w7).heap.size (w7) w8 := hx8
        have hb8 := hb7.trans (hx8.mono hb7.size)
        have hbxa8 := (hbxa7).kept (Keep.of_below hx8) (fun h => absurd hbxa7.lt (Nat.not_lt.2 h))
        have hill8 := (hill7).below hx8
        have hilm8 := (hilm7).below hx8
        have hSa8 := boxM hbxa8
        go_wp2_with fail
        refine hK.out _ _ hSa8 (fun hHeld2 => ?_)
        clear hK K hHeld
        have hHeld := hHeld2
        clear hHeld2
        try simp only [Act.put, List.setIfInBounds_toArray, List.set_cons_zero, List.set_cons_succ]
        iterate 3 (refine tkP (by rfl) (by (simp only [List.getElem?_toArray, List.getElem?_cons_succ, List.getElem?_cons_zero]; rfl)) (by kernel_rfl) (by kernel_rfl) (by kernel_rfl) (by exact fun _ _ _ h => h) (by rfl) (by (intro w hSw; (try dsimp only at hSw); go_simp <;> with_reducible rfl)) (by assumption) ?_; try simp only [Act.put, List.setIfInBounds_toArray, List.set_cons_zero, List.set_cons_succ])
        refine wpAnyH_done (by kernel_rfl) ?_ _
        have z3 : f3 = false := by rw [← hf3]; exact hs3
        have hno : mayM ⟨k, o, l, ⟨a1, a2, a3, a4, a5, a6, a7, ag, al⟩, ⟨yc, ym, ye, yn⟩⟩ = false := by rw [hM, z1, z2, z3]; rfl
        go_wp2
        go_ret
        exact ⟨by rw [hno]; rfl, hb8⟩
      | true =>
        have hSa4 := boxM hbxa4
        go_wp2_with fail
        refine wp_region_held_drew (S := (fun w' => w'.cell? ⟨w.heap.size, 0, none⟩ = some (.int .i64 k) ∧ w'.cell? ⟨w.heap.size, 1, none⟩ = some (.int .i64 o) ∧ w'.cell? ⟨w.heap.size, 2, none⟩ = some (.slice A l.length cap) ∧ w'.cell? ⟨w.heap.size, 3, none⟩ = some (.int .i64 a1) ∧ w'.cell? ⟨w.heap.size, 4, none⟩ = some (.int .i64 a2) ∧ w'.cell? ⟨w.heap.size, 5, none⟩ = some (.int .i64 a3) ∧ w'.cell? ⟨w.heap.size, 6, none⟩ = some (.int .i64 a4) ∧ w'.cell? ⟨w.heap.size, 7, none⟩ = some (.int .i64 a5) ∧ w'.cell? ⟨w.heap.size, 8, none⟩ = some (.int .i64 a6) ∧ w'.cell? ⟨w.heap.size, 9, none⟩ = some (.int .i64 a7) ∧ w'.cell? ⟨w.heap.size, 10, none⟩ = some (.string ⟨ag.toArray⟩) ∧ w'.cell? ⟨w.heap.size, 11, none⟩ = some (.slice B al.length capb) ∧ w'.cell? ⟨w.heap.size, 12, none⟩ = some (.int .i64 yc) ∧ w'.cell? ⟨w.heap.size, 13, none⟩ = some (.int .i64 ym) ∧ w'.cell? ⟨w.heap.size, 14, none⟩ = some (.int .i64 ye) ∧ w'.cell? ⟨w.heap.size, 15, none⟩ = some (.int .i64 yn))) (by kernel_rfl) hSa4 (fun hHeld => ?_)
        iterate 1 (refine tkP (by rfl) (by (simp only [List.getElem?_toArray, List.getElem?_cons_succ, List.getElem?_cons_zero]; rfl)) (by kernel_rfl) (by kernel_rfl) (by kernel_rfl) (by exact fun _ _ _ h => h) (by rfl) (by (intro w hSw; (try dsimp only at hSw); go_simp <;> with_reducible rfl)) (by assumption) ?_; try simp only [Act.put, List.setIfInBounds_toArray, List.set_cons_zero, List.set_cons_succ])
        (refine tkI 2 (by (simp only [List.getElem?_toArray, List.getElem?_cons_succ, List.getElem?_cons_zero]; rfl)) (by kernel_rfl) (by kernel_rfl) (by kernel_rfl) (by exact fun _ _ _ h => h) (by rfl) (by (intro w hSw; (try dsimp only at hSw); go_simp <;> with_reducible rfl)) (by assumption) ?_; try simp only [Act.put, List.setIfInBounds_toArray, List.set_cons_zero, List.set_cons_succ])
        (refine tkI 3 (by (simp only [List.getElem?_toArray, List.getElem?_cons_succ, List.getElem?_cons_zero]; rfl)) (by kernel_rfl) (by kernel_rfl) (by kernel_rfl) (by exact fun _ _ _ h => h) (by rfl) (by (intro w hSw; (try dsimp only at hSw); go_simp <;> with_reducible rfl)) (by assumption) ?_; try simp only [Act.put, List.setIfInBounds_toArray, List.set_cons_zero, List.set_cons_succ])
        refine wpAnyH_ready (rs := [1]) (by kernel_rfl) (by simp) ?_
        refine AllReadyH.cons (by (simp only [List.getElem?_toArray, List.getElem?_cons_succ, List.getElem?_cons_zero]; rfl)) (fun K hK => ?_) AllReadyH.nil
        go_simp
        have key := rmhas1_at k 97 97 false rfl H97 (w4.drew)
        refine key.mono ?_
        rintro e w5 ⟨rfl, hx5⟩
        clear key
        have hx5 : Below (w4.drew).heap.size (w4.drew) w5 := hx5
        have hb5 := (Below.drew hb4).trans (hx5.mono (Below.drew hb4).size)
        have hbxa5 := (hbxa4.drew).kept (Keep.of_below hx5) (fun h => absurd hbxa4.lt (Nat.not_lt.2 h))
        have hill5 := (hill4.drew).below hx5
        have hilm5 := (hilm4.drew).below hx5
        have hSa5 := boxM hbxa5
        go_wp2_with fail
        refine hK.out _ _ hSa5 (fun hHeld2 => ?_)
        clear hK K hHeld
        have hHeld := hHeld2
        clear hHeld2
        try simp only [Act.put, List.setIfInBounds_toArray, List.set_cons_zero, List.set_cons_succ]
        refine wpAnyH_ready (rs := [4]) (by kernel_rfl) (by simp) ?_
        refine AllReadyH.cons (by (simp only [List.getElem?_toArray, List.getElem?_cons_succ, List.getElem?_cons_zero]; rfl)) (fun K hK => ?_) AllReadyH.nil
        go_simp
        have key := raskmay_any ⟨a1, a2, a3, a4, a5, a6, a7, ag, al⟩ B capb (w5) hilm5 hwal hn2 hg7
        rw [hv3] at key
        unfold AV.v at key
        dsimp only at key
        refine key.mono ?_
        rintro e w6 ⟨rfl, hx6⟩
        clear key
        have hx6 : Below (w5).heap.size (w5) w6 := hx6
        have hb6 := hb5.trans (hx6.mono hb5.size)
        have hbxa6 := (hbxa5).kept (Keep.of_below hx6) (fun h => absurd hbxa5.lt (Nat.not_lt.2 h))
        have hill6 := (hill5).below hx6
        have hilm6 := (hilm5).below hx6
        have hSa6 := boxM hbxa6
        go_wp2_with fail
        refine hK.out _ _ hSa6 (fun hHeld2 => ?_)
        clear hK K hHeld
        have hHeld := hHeld2
        clear hHeld2
        try simp only [Act.put, List.setIfInBounds_toArray, List.set_cons_zero, List.set_cons_succ]
        iterate 2 (refine tkP (by rfl) (by (simp only [List.getElem?_toArray, List.getElem?_cons_succ, List.getElem?_cons_zero]; rfl)) (by kernel_rfl) (by kernel_rfl) (by kernel_rfl) (by exact fun _ _ _ h => h) (by rfl) (by (intro w hSw; (try dsimp only at hSw); go_simp <;> with_reducible rfl)) (by assumption) ?_; try simp only [Act.put, List.setIfInBounds_toArray, List.set_cons_zero, List.set_cons_succ])
        iterate 1 (refine tkP (by rfl) (by (simp only [List.getElem?_toArray, List.getElem?_cons_succ, List.getElem?_cons_zero]; rfl)) (by kernel_rfl) (by kernel_rfl) (by kernel_rfl) (by exact fun _ _ _ h => h) (by rfl) (by (intro w hSw; (try dsimp only at hSw); go_simp <;> with_reducible rfl)) (by assumption) ?_; try simp only [Act.put, List.setIfInBounds_toArray, List.set_cons_zero, List.set_cons_succ])
        refine wpAnyH_ready (rs := [8]) (by kernel_rfl) (by simp) ?_
        refine AllReadyH.cons (by (simp only [List.getElem?_toArray, List.getElem?_cons_succ, List.getElem?_cons_zero]; rfl)) (fun K hK => ?_) AllReadyH.nil
        go_simp
        have key := rmhas1_at k 97 97 false rfl H97 (w6)
        refine key.mono ?_
        rintro e w7 ⟨rfl, hx7⟩
        clear key
        have hx7 : Below (w6).heap.size (w6) w7 := hx7
        have hb7 := hb6.trans (hx7.mono hb6.size)
        have hbxa7 := (hbxa6).kept (Keep.of_below hx7) (fun h => absurd hbxa6.lt (Nat.not_lt.2 h))
        have hill7 := (hill6).below hx7
        have hilm7 := (hilm6).below hx7
        have hSa7 := boxM hbxa7
        go_wp2_with fail
        refine hK.out _ _ hSa7 (fun hHeld2 => ?_)
        clear hK K hHeld
        have hHeld := hHeld2
        clear hHeld2
        try simp only [Act.put, List.setIfInBounds_toArray, List.set_cons_zero, List.set_cons_succ]
        iterate 2 (refine tkP (by rfl) (by (simp only [List.getElem?_toArray, List.getElem?_cons_succ, List.getElem?_cons_zero]; rfl)) (by kernel_rfl) (by kernel_rfl) (by kernel_rfl) (by exact fun _ _ _ h => h) (by rfl) (by (intro w hSw; (try dsimp only at hSw); go_simp <;> with_reducible rfl)) (by assumption) ?_; try simp only [Act.put, List.setIfInBounds_toArray, List.set_cons_zero, List.set_cons_succ])
        iterate 3 (refine tkP (by rfl) (by (simp only [List.getElem?_toArray, List.getElem?_cons_succ, List.getElem?_cons_zero]; rfl)) (by kernel_rfl) (by kernel_rfl) (by kernel_rfl) (by exact fun _ _ _ h => h) (by rfl) (by (intro w hSw; (try dsimp only at hSw); go_simp <;> with_reducible rfl)) (by assumption) ?_; try simp only [Act.put, List.setIfInBounds_toArray, List.set_cons_zero, List.set_cons_succ])
        refine wpAnyH_ready (rs := [14]) (by kernel_rfl) (by simp) ?_
        refine AllReadyH.cons (by (simp only [List.getElem?_toArray, List.getElem?_cons_succ, List.getElem?_cons_zero]; rfl)) (fun K hK => ?_) AllReadyH.nil
        go_simp
        have key := rsame_any ⟨a1, a2, a3, a4, a5, a6, a7, ag, al⟩ x0 B none capb 0 (w7) hilm7 (IL.nil _ _) hn2
        rw [hs3] at key
        unfold AV.v x0 at key
        dsimp only at key
        refine key.mono ?_
        rintro e w8 ⟨rfl, hx8⟩
        clear key
        have hx8 : Below (w7).heap.size (w7) w8 := hx8
        have hb8 := hb7.trans (hx8.mono hb7.size)
        have hbxa8 := (hbxa7).kept (Keep.of_below hx8) (fun h => absurd hbxa7.lt (Nat.not_lt.2 h))
        have hill8 := (hill7).below hx8
        have hilm8 := (hilm7).below hx8
        have hSa8 := boxM hbxa8
        go_wp2_with fail
        refine hK.out _ _ hSa8 (fun hHeld2 => ?_)
        clear hK K hHeld
        have hHeld := hHeld2
        clear hHeld2
        try simp only [Act.put, List.setIfInBounds_toArray, List.set_cons_zero, List.set_cons_succ]
        iterate 3 (refine tkP (by rfl) (by (simp only [List.getElem?_toArray, List.getElem?_cons_succ, List.getElem?_cons_zero]; rfl)) (by kernel_rfl) (by kernel_rfl) (by kernel_rfl) (by exact fun _ _ _ h => h) (by rfl) (by (intro w hSw; (try dsimp only at hSw); go_simp <;> with_reducible rfl)) (by assumption) ?_; try simp only [Act.put, List.setIfInBounds_toArray, List.set_cons_zero, List.set_cons_succ])
        refine wpAnyH_done (by kernel_rfl) ?_ _
        have z3 : f3 = true := by rw [← hf3]; exact hs3
        have key := rmhas1_at k 121 121 false rfl H121 w8
        go_wp2_with fail
        refine key.mono ?_
        rintro e w9 ⟨rfl, hx9⟩
        clear key
        have hb9 := hb8.trans (hx9.mono hb8.size)
        have hbxa9 := hbxa8.kept (Keep.of_below hx9) (fun h => absurd hbxa8.lt (Nat.not_lt.2 h))
        have hill9 := hill8.below hx9
        have hilm9 := hilm8.below hx9
        clear hbxa8 hill8 hilm8 hSa8
        have hfin : mayM ⟨k, o, l, ⟨a1, a2, a3, a4, a5, a6, a7, ag, al⟩, ⟨yc, ym, ye, yn⟩⟩ = sameY ⟨yc, ym, ye, yn⟩ y0 := by rw [hM, z1, z2, z3, ← hf4]; rfl
        have e5 := e4 w9
        have hSa9 := boxM hbxa9
        go_wp2
        go_ret
        exact ⟨by rw [hfin]; rfl, hb9⟩
    | true =>
      have hSa4 := boxM hbxa4
      go_wp2_with fail
      refine wp_region_held_drew (S := (fun w' => w'.cell? ⟨w.heap.size, 0, none⟩ = some (.int .i64 k) ∧ w'.cell? ⟨w.heap.size, 1, none⟩ = some (.int .i64 o) ∧ w'.cell? ⟨w.heap.size, 2, none⟩ = some (.slice A l.length cap) ∧ w'.cell? ⟨w.heap.size, 3, none⟩ = some (.int .i64 a1) ∧ w'.cell? ⟨w.heap.size, 4, none⟩ = some (.int .i64 a2) ∧ w'.cell? ⟨w.heap.size, 5, none⟩ = some (.int .i64 a3) ∧ w'.cell? ⟨w.heap.size, 6, none⟩ = some (.int .i64 a4) ∧ w'.cell? ⟨w.heap.size, 7, none⟩ = some (.int .i64 a5) ∧ w'.cell? ⟨w.heap.size, 8, none⟩ = some (.int .i64 a6) ∧ w'.cell? ⟨w.heap.size, 9, none⟩ = some (.int .i64 a7) ∧ w'.cell? ⟨w.heap.size, 10, none⟩ = some (.string ⟨ag.toArray⟩) ∧ w'.cell? ⟨w.heap.size, 11, none⟩ = some (.slice B al.length capb) ∧ w'.cell? ⟨w.heap.size, 12, none⟩ = some (.int .i64 yc) ∧ w'.cell? ⟨w.heap.size, 13, none⟩ = some (.int .i64 ym) ∧ w'.cell? ⟨w.heap.size, 14, none⟩ = some (.int .i64 ye) ∧ w'.cell? ⟨w.heap.size, 15, none⟩ = some (.int .i64 yn))) (by kernel_rfl) hSa4 (fun hHeld => ?_)
      iterate 1 (refine tkP (by rfl) (by (simp only [List.getElem?_toArray, List.getElem?_cons_succ, List.getElem?_cons_zero]; rfl)) (by kernel_rfl) (by kernel_rfl) (by kernel_rfl) (by exact fun _ _ _ h => h) (by rfl) (by (intro w hSw; (try dsimp only at hSw); go_simp <;> with_reducible rfl)) (by assumption) ?_; try simp only [Act.put, List.setIfInBounds_toArray, List.set_cons_zero, List.set_cons_succ])
      (refine tkI 2 (by (simp only [List.getElem?_toArray, List.getElem?_cons_succ, List.getElem?_cons_zero]; rfl)) (by kernel_rfl) (by kernel_rfl) (by kernel_rfl) (by exact fun _ _ _ h => h) (by rfl) (by (intro w hSw; (try dsimp only at hSw); go_simp <;> with_reducible rfl)) (by assumption) ?_; try simp only [Act.put, List.setIfInBounds_toArray, List.set_cons_zero, List.set_cons_succ])
      (refine tkI 3 (by (simp only [List.getElem?_toArray, List.getElem?_cons_succ, List.getElem?_cons_zero]; rfl)) (by kernel_rfl) (by kernel_rfl) (by kernel_rfl) (by exact fun _ _ _ h => h) (by rfl) (by (intro w hSw; (try dsimp only at hSw); go_simp <;> with_reducible rfl)) (by assumption) ?_; try simp only [Act.put, List.setIfInBounds_toArray, List.set_cons_zero, List.set_cons_succ])
      refine wpAnyH_ready (rs := [1]) (by kernel_rfl) (by simp) ?_
      refine AllReadyH.cons (by (simp only [List.getElem?_toArray, List.getElem?_cons_succ, List.getElem?_cons_zero]; rfl)) (fun K hK => ?_) AllReadyH.nil
      go_simp
      have key := rmhas1_at k 97 97 false rfl H97 (w4.drew)
      refine key.mono ?_
      rintro e w5 ⟨rfl, hx5⟩
      clear key
      have hx5 : Below (w4.drew).heap.size (w4.drew) w5 := hx5
      have hb5 := (Below.drew hb4).trans (hx5.mono (Below.drew hb4).size)
      have hbxa5 := (hbxa4.drew).kept (Keep.of_below hx5) (fun h => absurd hbxa4.lt (Nat.not_lt.2 h))
      have hill5 := (hill4.drew).below hx5
      have hilm5 := (hilm4.drew).below hx5
      have hSa5 := boxM hbxa5
      go_wp2_with fail
      refine hK.out _ _ hSa5 (fun hHeld2 => ?_)
      clear hK K hHeld
      have hHeld := hHeld2
      clear hHeld2
      try simp only [Act.put, List.setIfInBounds_toArray, List.set_cons_zero, List.set_cons_succ]
      refine wpAnyH_ready (rs := [4]) (by kernel_rfl) (by simp) ?_
      refine AllReadyH.cons (by (simp only [List.getElem?_toArray, List.getElem?_cons_succ, List.getElem?_cons_zero]; rfl)) (fun K hK => ?_) AllReadyH.nil
      go_simp
      have key := raskmay_any ⟨a1, a2, a3, a4, a5, a6, a7, ag, al⟩ B capb (w5) hilm5 hwal hn2 hg7
      rw [hv3] at key
      unfold AV.v at key
      dsimp only at key
      refine key.mono ?_
      rintro e w6 ⟨rfl, hx6⟩
      clear key
      have hx6 : Below (w5).heap.size (w5) w6 := hx6
      have hb6 := hb5.trans (hx6.mono hb5.size)
      have hbxa6 := (hbxa5).kept (Keep.of_below hx6) (fun h => absurd hbxa5.lt (Nat.not_lt.2 h))
      have hill6 := (hill5).below hx6
      have hilm6 := (hilm5).below hx6
      have hSa6 := boxM hbxa6
      go_wp2_with fail
      refine hK.out _ _ hSa6 (fun hHeld2 => ?_)
      clear hK K hHeld
      have hHeld := hHeld2
      clear hHeld2
      try simp only [Act.put, List.setIfInBounds_toArray, List.set_cons_zero, List.set_cons_succ]
      iterate 2 (refine tkP (by rfl) (by (simp only [List.getElem?_toArray, List.getElem?_cons_succ, List.getElem?_cons_zero]; rfl)) (by kernel_rfl) (by kernel_rfl) (by kernel_rfl) (by exact fun _ _ _ h => h) (by rfl) (by (intro w hSw; (try dsimp only at hSw); go_simp <;> with_reducible rfl)) (by assumption) ?_; try simp only [Act.put, List.setIfInBounds_toArray, List.set_cons_zero, List.set_cons_succ])
      iterate 10 (refine tkN (by rfl) (by (simp only [List.getElem?_toArray, List.getElem?_cons_succ, List.getElem?_cons_zero]; rfl)) (by kernel_rfl) (by kernel_rfl) (by kernel_rfl) (by exact fun _ _ _ h => h) (by rfl) (by assumption) ?_; try simp only [Act.put, List.setIfInBounds_toArray, List.set_cons_zero, List.set_cons_succ])
      iterate 1 (refine tkP (by rfl) (by (simp only [List.getElem?_toArray, List.getElem?_cons_succ, List.getElem?_cons_zero]; rfl)) (by kernel_rfl) (by kernel_rfl) (by kernel_rfl) (by exact fun _ _ _ h => h) (by rfl) (by (intro w hSw; (try dsimp only at hSw); go_simp <;> with_reducible rfl)) (by assumption) ?_; try simp only [Act.put, List.setIfInBounds_toArray, List.set_cons_zero, List.set_cons_succ])
      refine wpAnyH_done (by kernel_rfl) ?_ _
      have z3 : f3 = false := by rw [← hf3]; cases hq : sameA ⟨a1, a2, a3, a4, a5, a6, a7, ag, al⟩ x0 with | false => rfl | true => (rw [(sameA_iff _ _).1 hq, x0_no] at hv3; cases hv3)
      have hno : mayM ⟨k, o, l, ⟨a1, a2, a3, a4, a5, a6, a7, ag, al⟩, ⟨yc, ym, ye, yn⟩⟩ = false := by rw [hM, z1, z2, z3]; rfl
      go_wp2
      go_ret
      exact ⟨by rw [hno]; rfl, hb6⟩
set_option maxRecDepth 100000 in
set_option maxHeartbeats 25600000 in
theorem rmmay_O (x : MV) (A : Option Addr) (cap : Nat) (B : Option Addr) (capb : Nat) (w : World) (hl : IL w A x.l.length x.l) (hal : IL w B x.a.l.length x.a.l) (hwl : WL x.l) (hwal : WL x.a.l) (hn : x.l.length ≤ 9223372036854775807) (hn2 : x.a.l.length ≤ 9223372036854775807) (hg7 : x.a.g.length ≤ 9223372036854775807)
    (hL : hasM x.k = [111]) (hk1 : 1 ≤ x.k) (hk2 : x.k ≤ 14) :
    Calls Try.prog 10 #[x.v A cap B capb] w fun e w' => e = .returned (.bool (mayM x)) ∧ Below w.heap.size w w' := by
  obtain ⟨k, o, l, ⟨a1, a2, a3, a4, a5, a6, a7, ag, al⟩, ⟨yc, ym, ye, yn⟩⟩ := x
  dsimp only at hl hal hwl hwal hn hn2 hg7 hL hk1 hk2
  have H111 : hasB (hasM k) 111 = true := by rw [hL]; rfl
  have H105 : hasB (hasM k) 105 = false := by rw [hL]; rfl
  have H97 : hasB (hasM k) 97 = false := by rw [hL]; rfl
  have H121 : hasB (hasM k) 121 = false := by rw [hL]; rfl
  have hM : mayM ⟨k, o, l, ⟨a1, a2, a3, a4, a5, a6, a7, ag, al⟩, ⟨yc, ym, ye, yn⟩⟩ = ((decide (1 ≤ o) && decide (o ≤ 1099511627776)) && (decide (l.length = 0) && (sameA ⟨a1, a2, a3, a4, a5, a6, a7, ag, al⟩ x0 && sameY ⟨yc, ym, ye, yn⟩ y0))) := by
    have : mayM ⟨k, o, l, ⟨a1, a2, a3, a4, a5, a6, a7, ag, al⟩, ⟨yc, ym, ye, yn⟩⟩ = mayKM (hasM k) ⟨k, o, l, ⟨a1, a2, a3, a4, a5, a6, a7, ag, al⟩, ⟨yc, ym, ye, yn⟩⟩ := rfl
    rw [this]
    unfold mayKM
    dsimp only
    rw [H111, H105, H97, H121, decide_eq_true hk1, decide_eq_true hk2]
    rfl
  obtain ⟨f1, hf1⟩ : ∃ b, (decide (1 ≤ o) && decide (o ≤ 1099511627776)) = b := ⟨_, rfl⟩
  obtain ⟨f2, hf2⟩ : ∃ b, decide (l.length = 0) = b := ⟨_, rfl⟩
  obtain ⟨f3, hf3⟩ : ∃ b, sameA ⟨a1, a2, a3, a4, a5, a6, a7, ag, al⟩ x0 = b := ⟨_, rfl⟩
  obtain ⟨f4, hf4⟩ : ∃ b, sameY ⟨yc, ym, ye, yn⟩ y0 = b := ⟨_, rfl⟩
  rw [hf1, hf2, hf3, hf4] at hM
  have e4 := run_ans_eql ⟨yc, ym, ye, yn⟩ y0 (sameY ⟨yc, ym, ye, yn⟩ y0) rfl
  unfold y0 at e4
  dsimp only at e4
  have hbxa0 : Blk (w.alloc (.cells #[.int .i64 k, .int .i64 o, .slice A l.length cap, .int .i64 a1, .int .i64 a2, .int .i64 a3, .int .i64 a4, .int .i64 a5, .int .i64 a6, .int .i64 a7, .string ⟨ag.toArray⟩, .slice B al.length capb, .int .i64 yc, .int .i64 ym, .int .i64 ye, .int .i64 yn] 29)) w.heap.size 29 #[.int .i64 k, .int .i64 o, .slice A l.length cap, .int .i64 a1, .int .i64 a2, .int .i64 a3, .int .i64 a4, .int .i64 a5, .int .i64 a6, .int .i64 a7, .string ⟨ag.toArray⟩, .slice B al.length capb, .int .i64 yc, .int .i64 ym, .int .i64 ye, .int .i64 yn] := Blk.new _ _ _
  have hb0 := (Below.refl w.heap.size w).alloc (Nat.le_refl _) (.cells #[.int .i64 k, .int .i64 o, .slice A l.length cap, .int .i64 a1, .int .i64 a2, .int .i64 a3, .int .i64 a4, .int .i64 a5, .int .i64 a6, .int .i64 a7, .string ⟨ag.toArray⟩, .slice B al.length capb, .int .i64 yc, .int .i64 ym, .int .i64 ye, .int .i64 yn] 29)
  have hill0 := hl.alloc (.cells #[.int .i64 k, .int .i64 o, .slice A l.length cap, .int .i64 a1, .int .i64 a2, .int .i64 a3, .int .i64 a4, .int .i64 a5, .int .i64 a6, .int .i64 a7, .string ⟨ag.toArray⟩, .slice B al.length capb, .int .i64 yc, .int .i64 ym, .int .i64 ye, .int .i64 yn] 29)
  have hilm0 := hal.alloc (.cells #[.int .i64 k, .int .i64 o, .slice A l.length cap, .int .i64 a1, .int .i64 a2, .int .i64 a3, .int .i64 a4, .int .i64 a5, .int .i64 a6, .int .i64 a7, .string ⟨ag.toArray⟩, .slice B al.length capb, .int .i64 yc, .int .i64 ym, .int .i64 ye, .int .i64 yn] 29)
  have g1 : ¬ k < 1 := by omega
  have g2 : ¬ 14 < k := by omega
  clear hl hal
  unfold MV.v MV.cs
  dsimp only
  go_enter Try.func10, Try.ntmps10
  have key := rmhas1_at k 111 111 true rfl H111 (w.alloc (.cells #[.int .i64 k, .int .i64 o, .slice A l.length cap, .int .i64 a1, .int .i64 a2, .int .i64 a3, .int .i64 a4, .int .i64 a5, .int .i64 a6, .int .i64 a7, .string ⟨ag.toArray⟩, .slice B al.length capb, .int .i64 yc, .int .i64 ym, .int .i64 ye, .int .i64 yn] 29))
  have hSa0 := boxM hbxa0
  go_wp2_with fail
  refine key.mono ?_
  rintro e w1 ⟨rfl, hx1⟩
  clear key
  have hb1 := hb0.trans (hx1.mono hb0.size)
  have hbxa1 := hbxa0.kept (Keep.of_below hx1) (fun h => absurd hbxa0.lt (Nat.not_lt.2 h))
  have hill1 := hill0.below hx1
  have hilm1 := hilm0.below hx1
  clear hbxa0 hill0 hilm0 hSa0
  by_cases p1 : o < 1
  case pos =>
    have z1 : f1 = false := by rw [← hf1, decide_eq_false (show ¬ 1 ≤ o by omega)]; rfl
    have hno : mayM ⟨k, o, l, ⟨a1, a2, a3, a4, a5, a6, a7, ag, al⟩, ⟨yc, ym, ye, yn⟩⟩ = false := by rw [hM, z1]; rfl
    have hSa1 := boxM hbxa1
    go_wp2
    go_ret
    exact ⟨by rw [hno]; rfl, hb1⟩
  by_cases p2 : 1099511627776 < o
  case pos =>
    have z1 : f1 = false := by rw [← hf1, decide_eq_false (show ¬ o ≤ 1099511627776 by omega), Bool.and_false]
    have hno : mayM ⟨k, o, l, ⟨a1, a2, a3, a4, a5, a6, a7, ag, al⟩, ⟨yc, ym, ye, yn⟩⟩ = false := by rw [hM, z1]; rfl
    have hSa1 := boxM hbxa1
    go_wp2
    go_ret
    exact ⟨by rw [hno]; rfl, hb1⟩
  have z1 : f1 = true := by rw [← hf1, decide_eq_true (show 1 ≤ o by omega), decide_eq_true (show o ≤ 1099511627776 by omega)]; rfl
  have key := rmhas1_at k 111 111 true rfl H111 w1
  have hSa1 := boxM hbxa1
  go_wp2_with fail
  refine key.mono ?_
  rintro e w2 ⟨rfl, hx2⟩
  clear key
  have hb2 := hb1.trans (hx2.mono hb1.size)
  have hbxa2 := hbxa1.kept (Keep.of_below hx2) (fun h => absurd hbxa1.lt (Nat.not_lt.2 h))
  have hill2 := hill1.below hx2
  have hilm2 := hilm1.below hx2
  clear hbxa1 hill1 hilm1 hSa1
  have key := refmay_b A l.length cap l w2 hill2 hn hwl.long
  have hSa2 := boxM hbxa2
  go_wp2_with fail
  refine key.mono ?_
  rintro e w3 ⟨rfl, hx3⟩
  clear key
  have hb3 := hb2.trans (hx3.mono hb2.size)
  have hbxa3 := hbxa2.kept (Keep.of_below hx3) (fun h => absurd hbxa2.lt (Nat.not_lt.2 h))
  have hill3 := hill2.below hx3
  have hilm3 := hilm2.below hx3
  clear hbxa2 hill2 hilm2 hSa2
  cases hv2 : mayL l with
  | false =>
    have z2 : f2 = false := by rw [← hf2]; refine decide_eq_false (fun h => ?_); rw [List.eq_nil_of_length_eq_zero h] at hv2; cases hv2
    have hno : mayM ⟨k, o, l, ⟨a1, a2, a3, a4, a5, a6, a7, ag, al⟩, ⟨yc, ym, ye, yn⟩⟩ = false := by rw [hM, z1, z2]; rfl
    have hSa3 := boxM hbxa3
    go_wp2
    go_ret
    exact ⟨by rw [hno]; rfl, hb3⟩
  | true =>
    have key := rmhas1_at k 105 105 false rfl H105 w3
    have hSa3 := boxM hbxa3
    go_wp2_with fail
    refine key.mono ?_
    rintro e w4 ⟨rfl, hx4⟩
    clear key
    have hb4 := hb3.trans (hx4.mono hb3.size)
    have hbxa4 := hbxa3.kept (Keep.of_below hx4) (fun h => absurd hbxa3.lt (Nat.not_lt.2 h))
    have hill4 := hill3.below hx4
    have hilm4 := hilm3.below hx4
    clear hbxa3 hill3 hilm3 hSa3
    by_cases p5 : 0 < l.length
    case pos =>
      have p6 : (0 : Int) < (l.length : Int) := by omega
      have z2 : f2 = false := by rw [← hf2]; exact decide_eq_false (by omega)
      have hno : mayM ⟨k, o, l, ⟨a1, a2, a3, a4, a5, a6, a7, ag, al⟩, ⟨yc, ym, ye, yn⟩⟩ = false := by rw [hM, z1, z2]; rfl
      have hSa4 := boxM hbxa4
      go_wp2
      go_ret
      exact ⟨by rw [hno]; rfl, hb4⟩
    have z2 : f2 = true := by rw [← hf2]; exact decide_eq_true (by omega)
    have p6 : ¬ (0 : Int) < (l.length : Int) := by omega
    cases hv3 : mayA ⟨a1, a2, a3, a4, a5, a6, a7, ag, al⟩ with
    | false =>
      cases hs3 : sameA ⟨a1, a2, a3, a4, a5, a6, a7, ag, al⟩ x0 with
      | false =>
        have hSa4 := boxM hbxa4
        go_wp2_with fail
        refine wp_region_held_drew (S := (fun w' => w'.cell? ⟨w.heap.size, 0, none⟩ = some (.int .i64 k) ∧ w'.cell? ⟨w.heap.size, 1, none⟩ = some (.int .i64 o) ∧ w'.cell? ⟨w.heap.size, 2, none⟩ = some (.slice A l.length cap) ∧ w'.cell? ⟨w.heap.size, 3, none⟩ = some (.int .i64 a1) ∧ w'.cell? ⟨w.heap.size, 4, none⟩ = some (.int .i64 a2) ∧ w'.cell? ⟨w.heap.size, 5, none⟩ = some (.int .i64 a3) ∧ w'.cell? ⟨w.heap.size, 6, none⟩ = some (.int .i64 a4) ∧ w'.cell? ⟨w.heap.size, 7, none⟩ = some (.int .i64 a5) ∧ w'.cell? ⟨w.heap.size, 8, none⟩ = some (.int .i64 a6) ∧ w'.cell? ⟨w.heap.size, 9, none⟩ = some (.int .i64 a7) ∧ w'.cell? ⟨w.heap.size, 10, none⟩ = some (.string ⟨ag.toArray⟩) ∧ w'.cell? ⟨w.heap.size, 11, none⟩ = some (.slice B al.length capb) ∧ w'.cell? ⟨w.heap.size, 12, none⟩ = some (.int .i64 yc) ∧ w'.cell? ⟨w.heap.size, 13, none⟩ = some (.int .i64 ym) ∧ w'.cell? ⟨w.heap.size, 14, none⟩ = some (.int .i64 ye) ∧ w'.cell? ⟨w.heap.size, 15, none⟩ = some (.int .i64 yn))) (by kernel_rfl) hSa4 (fun hHeld => ?_)
        iterate 1 (refine tkP (by rfl) (by (simp only [List.getElem?_toArray, List.getElem?_cons_succ, List.getElem?_cons_zero]; rfl)) (by kernel_rfl) (by kernel_rfl) (by kernel_rfl) (by exact fun _ _ _ h => h) (by rfl) (by (intro w hSw; (try dsimp only at hSw); go_simp <;> with_reducible rfl)) (by assumption) ?_; try simp only [Act.put, List.setIfInBounds_toArray, List.set_cons_zero, List.set_cons_succ])
        (refine tkI 2 (by (simp only [List.getElem?_toArray, List.getElem?_cons_succ, List.getElem?_cons_zero]; rfl)) (by kernel_rfl) (by kernel_rfl) (by kernel_rfl) (by exact fun _ _ _ h => h) (by rfl) (by (intro w hSw; (try dsimp only at hSw); go_simp <;> with_reducible rfl)) (by assumption) ?_; try simp only [Act.put, List.setIfInBounds_toArray, List.set_cons_zero, List.set_cons_succ])
        (refine tkI 3 (by (simp only [List.getElem?_toArray, List.getElem?_cons_succ, List.getElem?_cons_zero]; rfl)) (by kernel_rfl) (by kernel_rfl) (by kernel_rfl) (by exact fun _ _ _ h => h) (by rfl) (by (intro w hSw; (try dsimp only at hSw); go_simp <;> with_reducible rfl)) (by assumption) ?_; try simp only [Act.put, List.setIfInBounds_toArray, List.set_cons_zero, List.set_cons_succ])
        refine wpAnyH_ready (rs := [1]) (by kernel_rfl) (by simp) ?_
        refine AllReadyH.cons (by (simp only [List.getElem?_toArray, List.getElem?_cons_succ, List.getElem?_cons_zero]; rfl)) (fun K hK => ?_) AllReadyH.nil
        go_simp
        have key := rmhas1_at k 97 97 false rfl H97 (w4.drew)
        refine key.mono ?_
        rintro e w5 ⟨rfl, hx5⟩
        clear key
        have hx5 : Below (w4.drew).heap.size (w4.drew) w5 := hx5
        have hb5 := (Below.drew hb4).trans (hx5.mono (Below.drew hb4).size)
        have hbxa5 := (hbxa4.drew).kept (Keep.of_below hx5) (fun h => absurd hbxa4.lt (Nat.not_lt.2 h))
        have hill5 := (hill4.drew).below hx5
        have hilm5 := (hilm4.drew).below hx5
        have hSa5 := boxM hbxa5
        go_wp2_with fail
        refine hK.out _ _ hSa5 (fun hHeld2 => ?_)
        clear hK K hHeld
        have hHeld := hHeld2
        clear hHeld2
        try simp only [Act.put, List.setIfInBounds_toArray, List.set_cons_zero, List.set_cons_succ]
        refine wpAnyH_ready (rs := [4]) (by kernel_rfl) (by simp) ?_
        refine AllReadyH.cons (by (simp only [List.getElem?_toArray, List.getElem?_cons_succ, List.getElem?_cons_zero]; rfl)) (fun K hK => ?_) AllReadyH.nil
        go_simp
        have key := raskmay_any ⟨a1, a2, a3, a4, a5, a6, a7, ag, al⟩ B capb (w5) hilm5 hwal hn2 hg7
        rw [hv3] at key
        unfold AV.v at key
        dsimp only at key
        refine key.mono ?_
        rintro e w6 ⟨rfl, hx6⟩
        clear key
        have hx6 : Below (w5).heap.size (w5) w6 := hx6
        have hb6 := hb5.trans (hx6.mono hb5.size)
        have hbxa6 := (hbxa5).kept (Keep.of_below hx6) (fun h => absurd hbxa5.lt (Nat.not_lt.2 h))
        have hill6 := (hill5).below hx6
        have hilm6 := (hilm5).below hx6
        have hSa6 := boxM hbxa6
        go_wp2_with fail
        refine hK.out _ _ hSa6 (fun hHeld2 => ?_)
        clear hK K hHeld
        have hHeld := hHeld2
        clear hHeld2
        try simp only [Act.put, List.setIfInBounds_toArray, List.set_cons_zero, List.set_cons_succ]
        iterate 2 (refine tkP (by rfl) (by (simp only [List.getElem?_toArray, List.getElem?_cons_succ, List.getElem?_cons_zero]; rfl)) (by kernel_rfl) (by kernel_rfl) (by kernel_rfl) (by exact fun _ _ _ h => h) (by rfl) (by (intro w hSw; (try dsimp only at hSw); go_simp <;> with_reducible rfl)) (by assumption) ?_; try simp only [Act.put, List.setIfInBounds_toArray, List.set_cons_zero, List.set_cons_succ])
        iterate 1 (refine tkP (by rfl) (by (simp only [List.getElem?_toArray, List.getElem?_cons_succ, List.getElem?_cons_zero]; rfl)) (by kernel_rfl) (by kernel_rfl) (by kernel_rfl) (by exact fun _ _ _ h => h) (by rfl) (by (intro w hSw; (try dsimp only at hSw); go_simp <;> with_reducible rfl)) (by assumption) ?_; try simp only [Act.put, List.setIfInBounds_toArray, List.set_cons_zero, List.set_cons_succ])
        refine wpAnyH_ready (rs := [8]) (by kernel_rfl) (by simp) ?_
        refine AllReadyH.cons (by (simp only [List.getElem?_toArray, List.getElem?_cons_succ, List.getElem?_cons_zero]; rfl)) (fun K hK => ?_) AllReadyH.nil
        go_simp
        have key := rmhas1_at k 97 97 false rfl H97 (w6)
        refine key.mono ?_
        rintro e w7 ⟨rfl, hx7⟩
        clear key
        have hx7 : Below (w6).heap.size (w6) w7 := hx7
        have hb7 := hb6.trans (hx7.mono hb6.size)
        have hbxa7 := (hbxa6).kept (Keep.of_below hx7) (fun h => absurd hbxa6.lt (Nat.not_lt.2 h))
        have hill7 := (hill6).below hx7
        have hilm7 := (hilm6).below hx7
        have hSa7 := boxM hbxa7
        go_wp2_with fail
        refine hK.out _ _ hSa7 (fun hHeld2 => ?_)
        clear hK K hHeld
        have hHeld := hHeld2
        clear hHeld2
        try simp only [Act.put, List.setIfInBounds_toArray, List.set_cons_zero, List.set_cons_succ]
        iterate 2 (refine tkP (by rfl) (by (simp only [List.getElem?_toArray, List.getElem?_cons_succ, List.getElem?_cons_zero]; rfl)) (by kernel_rfl) (by kernel_rfl) (by kernel_rfl) (by exact fun _ _ _ h => h) (by rfl) (by (intro w hSw; (try dsimp only at hSw); go_simp <;> with_reducible rfl)) (by assumption) ?_; try simp only [Act.put, List.setIfInBounds_toArray, List.set_cons_zero, List.set_cons_succ])
        iterate 3 (refine tkP (by rfl) (by (simp only [List.getElem?_toArray, List.getElem?_cons_succ, List.getElem?_cons_zero]; rfl)) (by kernel_rfl) (by kernel_rfl) (by kernel_rfl) (by exact fun _ _ _ h => h) (by rfl) (by (intro w hSw; (try dsimp only at hSw); go_simp <;> with_reducible rfl)) (by assumption) ?_; try simp only [Act.put, List.setIfInBounds_toArray, List.set_cons_zero, List.set_cons_succ])
        refine wpAnyH_ready (rs := [14]) (by kernel_rfl) (by simp) ?_
        refine AllReadyH.cons (by (simp only [List.getElem?_toArray, List.getElem?_cons_succ, List.getElem?_cons_zero]; rfl)) (fun K hK => ?_) AllReadyH.nil
        go_simp
        have key := rsame_any ⟨a1, a2, a3, a4, a5, a6, a7, ag, al⟩ x0 B none capb 0 (w7) hilm7 (IL.nil _ _) hn2
        rw [hs3] at key
        unfold AV.v x0 at key
        dsimp only at key
        refine key.mono ?_
        rintro e w8 ⟨rfl, hx8⟩
        clear key
        have hx8 : Below (w7).heap.size (w7) w8 := hx8
        have hb8 := hb7.trans (hx8.mono hb7.size)
        have hbxa8 := (hbxa7).kept (Keep.of_below hx8) (fun h => absurd hbxa7.lt (Nat.not_lt.2 h))
        have hill8 := (hill7).below hx8
        have hilm8 := (hilm7).below hx8
        have hSa8 := boxM hbxa8
        go_wp2_with fail
        refine hK.out _ _ hSa8 (fun hHeld2 => ?_)
        clear hK K hHeld
        have hHeld := hHeld2
        clear hHeld2
        try simp only [Act.put, List.setIfInBounds_toArray, List.set_cons_zero, List.set_cons_succ]
        iterate 3 (refine tkP (by rfl) (by (simp only [List.getElem?_toArray, List.getElem?_cons_succ, List.getElem?_cons_zero]; rfl)) (by kernel_rfl) (by kernel_rfl) (by kernel_rfl) (by exact fun _ _ _ h => h) (by rfl) (by (intro w hSw; (try dsimp only at hSw); go_simp <;> with_reducible rfl)) (by assumption) ?_; try simp only [Act.put, List.setIfInBounds_toArray, List.set_cons_zero, List.set_cons_succ])
        refine wpAnyH_done (by kernel_rfl) ?_ _
        have z3 : f3 = false := by rw [← hf3]; exact hs3
        have hno : mayM ⟨k, o, l, ⟨a1, a2, a3, a4, a5, a6, a7, ag, al⟩, ⟨yc, ym, ye, yn⟩⟩ = false := by rw [hM, z1, z2, z3]; rfl
        go_wp2
        go_ret
        exact ⟨by rw [hno]; rfl, hb8⟩
      | true =>
        have hSa4 := boxM hbxa4
        go_wp2_with fail
        refine wp_region_held_drew (S := (fun w' => w'.cell? ⟨w.heap.size, 0, none⟩ = some (.int .i64 k) ∧ w'.cell? ⟨w.heap.size, 1, none⟩ = some (.int .i64 o) ∧ w'.cell? ⟨w.heap.size, 2, none⟩ = some (.slice A l.length cap) ∧ w'.cell? ⟨w.heap.size, 3, none⟩ = some (.int .i64 a1) ∧ w'.cell? ⟨w.heap.size, 4, none⟩ = some (.int .i64 a2) ∧ w'.cell? ⟨w.heap.size, 5, none⟩ = some (.int .i64 a3) ∧ w'.cell? ⟨w.heap.size, 6, none⟩ = some (.int .i64 a4) ∧ w'.cell? ⟨w.heap.size, 7, none⟩ = some (.int .i64 a5) ∧ w'.cell? ⟨w.heap.size, 8, none⟩ = some (.int .i64 a6) ∧ w'.cell? ⟨w.heap.size, 9, none⟩ = some (.int .i64 a7) ∧ w'.cell? ⟨w.heap.size, 10, none⟩ = some (.string ⟨ag.toArray⟩) ∧ w'.cell? ⟨w.heap.size, 11, none⟩ = some (.slice B al.length capb) ∧ w'.cell? ⟨w.heap.size, 12, none⟩ = some (.int .i64 yc) ∧ w'.cell? ⟨w.heap.size, 13, none⟩ = some (.int .i64 ym) ∧ w'.cell? ⟨w.heap.size, 14, none⟩ = some (.int .i64 ye) ∧ w'.cell? ⟨w.heap.size, 15, none⟩ = some (.int .i64 yn))) (by kernel_rfl) hSa4 (fun hHeld => ?_)
        iterate 1 (refine tkP (by rfl) (by (simp only [List.getElem?_toArray, List.getElem?_cons_succ, List.getElem?_cons_zero]; rfl)) (by kernel_rfl) (by kernel_rfl) (by kernel_rfl) (by exact fun _ _ _ h => h) (by rfl) (by (intro w hSw; (try dsimp only at hSw); go_simp <;> with_reducible rfl)) (by assumption) ?_; try simp only [Act.put, List.setIfInBounds_toArray, List.set_cons_zero, List.set_cons_succ])
        (refine tkI 2 (by (simp only [List.getElem?_toArray, List.getElem?_cons_succ, List.getElem?_cons_zero]; rfl)) (by kernel_rfl) (by kernel_rfl) (by kernel_rfl) (by exact fun _ _ _ h => h) (by rfl) (by (intro w hSw; (try dsimp only at hSw); go_simp <;> with_reducible rfl)) (by assumption) ?_; try simp only [Act.put, List.setIfInBounds_toArray, List.set_cons_zero, List.set_cons_succ])
        (refine tkI 3 (by (simp only [List.getElem?_toArray, List.getElem?_cons_succ, List.getElem?_cons_zero]; rfl)) (by kernel_rfl) (by kernel_rfl) (by kernel_rfl) (by exact fun _ _ _ h => h) (by rfl) (by (intro w hSw; (try dsimp only at hSw); go_simp <;> with_reducible rfl)) (by assumption) ?_; try simp only [Act.put, List.setIfInBounds_toArray, List.set_cons_zero, List.set_cons_succ])
        refine wpAnyH_ready (rs := [1]) (by kernel_rfl) (by simp) ?_
        refine AllReadyH.cons (by (simp only [List.getElem?_toArray, List.getElem?_cons_succ, List.getElem?_cons_zero]; rfl)) (fun K hK => ?_) AllReadyH.nil
        go_simp
        have key := rmhas1_at k 97 97 false rfl H97 (w4.drew)
        refine key.mono ?_
        rintro e w5 ⟨rfl, hx5⟩
        clear key
        have hx5 : Below (w4.drew).heap.size (w4.drew) w5 := hx5
        have hb5 := (Below.drew hb4).trans (hx5.mono (Below.drew hb4).size)
        have hbxa5 := (hbxa4.drew).kept (Keep.of_below hx5) (fun h => absurd hbxa4.lt (Nat.not_lt.2 h))
        have hill5 := (hill4.drew).below hx5
        have hilm5 := (hilm4.drew).below hx5
        have hSa5 := boxM hbxa5
        go_wp2_with fail
        refine hK.out _ _ hSa5 (fun hHeld2 => ?_)
        clear hK K hHeld
        have hHeld := hHeld2
        clear hHeld2
        try simp only [Act.put, List.setIfInBounds_toArray, List.set_cons_zero, List.set_cons_succ]
        refine wpAnyH_ready (rs := [4]) (by kernel_rfl) (by simp) ?_
        refine AllReadyH.cons (by (simp only [List.getElem?_toArray, List.getElem?_cons_succ, List.getElem?_cons_zero]; rfl)) (fun K hK => ?_) AllReadyH.nil
        go_simp
        have key := raskmay_any ⟨a1, a2, a3, a4, a5, a6, a7, ag, al⟩ B capb (w5) hilm5 hwal hn2 hg7
        rw [hv3] at key
        unfold AV.v at key
        dsimp only at key
        refine key.mono ?_
        rintro e w6 ⟨rfl, hx6⟩
        clear key
        have hx6 : Below (w5).heap.size (w5) w6 := hx6
        have hb6 := hb5.trans (hx6.mono hb5.size)
        have hbxa6 := (hbxa5).kept (Keep.of_below hx6) (fun h => absurd hbxa5.lt (Nat.not_lt.2 h))
        have hill6 := (hill5).below hx6
        have hilm6 := (hilm5).below hx6
        have hSa6 := boxM hbxa6
        go_wp2_with fail
        refine hK.out _ _ hSa6 (fun hHeld2 => ?_)
        clear hK K hHeld
        have hHeld := hHeld2
        clear hHeld2
        try simp only [Act.put, List.setIfInBounds_toArray, List.set_cons_zero, List.set_cons_succ]
        iterate 2 (refine tkP (by rfl) (by (simp only [List.getElem?_toArray, List.getElem?_cons_succ, List.getElem?_cons_zero]; rfl)) (by kernel_rfl) (by kernel_rfl) (by kernel_rfl) (by exact fun _ _ _ h => h) (by rfl) (by (intro w hSw; (try dsimp only at hSw); go_simp <;> with_reducible rfl)) (by assumption) ?_; try simp only [Act.put, List.setIfInBounds_toArray, List.set_cons_zero, List.set_cons_succ])
        iterate 1 (refine tkP (by rfl) (by (simp only [List.getElem?_toArray, List.getElem?_cons_succ, List.getElem?_cons_zero]; rfl)) (by kernel_rfl) (by kernel_rfl) (by kernel_rfl) (by exact fun _ _ _ h => h) (by rfl) (by (intro w hSw; (try dsimp only at hSw); go_simp <;> with_reducible rfl)) (by assumption) ?_; try simp only [Act.put, List.setIfInBounds_toArray, List.set_cons_zero, List.set_cons_succ])
        refine wpAnyH_ready (rs := [8]) (by kernel_rfl) (by simp) ?_
        refine AllReadyH.cons (by (simp only [List.getElem?_toArray, List.getElem?_cons_succ, List.getElem?_cons_zero]; rfl)) (fun K hK => ?_) AllReadyH.nil
        go_simp
        have key := rmhas1_at k 97 97 false rfl H97 (w6)
        refine key.mono ?_
        rintro e w7 ⟨rfl, hx7⟩
        clear key
        have hx7 : Below (w6).heap.size (w6) w7 := hx7
        have hb7 := hb6.trans (hx7.mono hb6.size)
        have hbxa7 := (hbxa6).kept (Keep.of_below hx7) (fun h => absurd hbxa6.lt (Nat.not_lt.2 h))
        have hill7 := (hill6).below hx7
        have hilm7 := (hilm6).below hx7
        have hSa7 := boxM hbxa7
        go_wp2_with fail
        refine hK.out _ _ hSa7 (fun hHeld2 => ?_)
        clear hK K hHeld
        have hHeld := hHeld2
        clear hHeld2
        try simp only [Act.put, List.setIfInBounds_toArray, List.set_cons_zero, List.set_cons_succ]
        iterate 2 (refine tkP (by rfl) (by (simp only [List.getElem?_toArray, List.getElem?_cons_succ, List.getElem?_cons_zero]; rfl)) (by kernel_rfl) (by kernel_rfl) (by kernel_rfl) (by exact fun _ _ _ h => h) (by rfl) (by (intro w hSw; (try dsimp only at hSw); go_simp <;> with_reducible rfl)) (by assumption) ?_; try simp only [Act.put, List.setIfInBounds_toArray, List.set_cons_zero, List.set_cons_succ])
        iterate 3 (refine tkP (by rfl) (by (simp only [List.getElem?_toArray, List.getElem?_cons_succ, List.getElem?_cons_zero]; rfl)) (by kernel_rfl) (by kernel_rfl) (by kernel_rfl) (by exact fun _ _ _ h => h) (by rfl) (by (intro w hSw; (try dsimp only at hSw); go_simp <;> with_reducible rfl)) (by assumption) ?_; try simp only [Act.put, List.setIfInBounds_toArray, List.set_cons_zero, List.set_cons_succ])
        refine wpAnyH_ready (rs := [14]) (by kernel_rfl) (by simp) ?_
        refine AllReadyH.cons (by (simp only [List.getElem?_toArray, List.getElem?_cons_succ, List.getElem?_cons_zero]; rfl)) (fun K hK => ?_) AllReadyH.nil
        go_simp
        have key := rsame_any ⟨a1, a2, a3, a4, a5, a6, a7, ag, al⟩ x0 B none capb 0 (w7) hilm7 (IL.nil _ _) hn2
        rw [hs3] at key
        unfold AV.v x0 at key
        dsimp only at key
        refine key.mono ?_
        rintro e w8 ⟨rfl, hx8⟩
        clear key
        have hx8 : Below (w7).heap.size (w7) w8 := hx8
        have hb8 := hb7.trans (hx8.mono hb7.size)
        have hbxa8 := (hbxa7).kept (Keep.of_below hx8) (fun h => absurd hbxa7.lt (Nat.not_lt.2 h))
        have hill8 := (hill7).below hx8
        have hilm8 := (hilm7).below hx8
        have hSa8 := boxM hbxa8
        go_wp2_with fail
        refine hK.out _ _ hSa8 (fun hHeld2 => ?_)
        clear hK K hHeld
        have hHeld := hHeld2
        clear hHeld2
        try simp only [Act.put, List.setIfInBounds_toArray, List.set_cons_zero, List.set_cons_succ]
        iterate 3 (refine tkP (by rfl) (by (simp only [List.getElem?_toArray, List.getElem?_cons_succ, List.getElem?_cons_zero]; rfl)) (by kernel_rfl) (by kernel_rfl) (by kernel_rfl) (by exact fun _ _ _ h => h) (by rfl) (by (intro w hSw; (try dsimp only at hSw); go_simp <;> with_reducible rfl)) (by assumption) ?_; try simp only [Act.put, List.setIfInBounds_toArray, List.set_cons_zero, List.set_cons_succ])
        refine wpAnyH_done (by kernel_rfl) ?_ _
        have z3 : f3 = true := by rw [← hf3]; exact hs3
        have key := rmhas1_at k 121 121 false rfl H121 w8
        go_wp2_with fail
        refine key.mono ?_
        rintro e w9 ⟨rfl, hx9⟩
        clear key
        have hb9 := hb8.trans (hx9.mono hb8.size)
        have hbxa9 := hbxa8.kept (Keep.of_below hx9) (fun h => absurd hbxa8.lt (Nat.not_lt.2 h))
        have hill9 := hill8.below hx9
        have hilm9 := hilm8.below hx9
        clear hbxa8 hill8 hilm8 hSa8
        have hfin : mayM ⟨k, o, l, ⟨a1, a2, a3, a4, a5, a6, a7, ag, al⟩, ⟨yc, ym, ye, yn⟩⟩ = sameY ⟨yc, ym, ye, yn⟩ y0 := by rw [hM, z1, z2, z3, ← hf4]; rfl
        have e5 := e4 w9
        have hSa9 := boxM hbxa9
        go_wp2
        go_ret
        exact ⟨by rw [hfin]; rfl, hb9⟩
    | true =>
      have hSa4 := boxM hbxa4
      go_wp2_with fail
      refine wp_region_held_drew (S := (fun w' => w'.cell? ⟨w.heap.size, 0, none⟩ = some (.int .i64 k) ∧ w'.cell? ⟨w.heap.size, 1, none⟩ = some (.int .i64 o) ∧ w'.cell? ⟨w.heap.size, 2, none⟩ = some (.slice A l.length cap) ∧ w'.cell? ⟨w.heap.size, 3, none⟩ = some (.int .i64 a1) ∧ w'.cell? ⟨w.heap.size, 4, none⟩ = some (.int .i64 a2) ∧ w'.cell? ⟨w.heap.size, 5, none⟩ = some (.int .i64 a3) ∧ w'.cell? ⟨w.heap.size, 6, none⟩ = some (.int .i64 a4) ∧ w'.cell? ⟨w.heap.size, 7, none⟩ = some (.int .i64 a5) ∧ w'.cell? ⟨w.heap.size, 8, none⟩ = some (.int .i64 a6) ∧ w'.cell? ⟨w.heap.size, 9, none⟩ = some (.int .i64 a7) ∧ w'.cell? ⟨w.heap.size, 10, none⟩ = some (.string ⟨ag.toArray⟩) ∧ w'.cell? ⟨w.heap.size, 11, none⟩ = some (.slice B al.length capb) ∧ w'.cell? ⟨w.heap.size, 12, none⟩ = some (.int .i64 yc) ∧ w'.cell? ⟨w.heap.size, 13, none⟩ = some (.int .i64 ym) ∧ w'.cell? ⟨w.heap.size, 14, none⟩ = some (.int .i64 ye) ∧ w'.cell? ⟨w.heap.size, 15, none⟩ = some (.int .i64 yn))) (by kernel_rfl) hSa4 (fun hHeld => ?_)
      iterate 1 (refine tkP (by rfl) (by (simp only [List.getElem?_toArray, List.getElem?_cons_succ, List.getElem?_cons_zero]; rfl)) (by kernel_rfl) (by kernel_rfl) (by kernel_rfl) (by exact fun _ _ _ h => h) (by rfl) (by (intro w hSw; (try dsimp only at hSw); go_simp <;> with_reducible rfl)) (by assumption) ?_; try simp only [Act.put, List.setIfInBounds_toArray, List.set_cons_zero, List.set_cons_succ])
      (refine tkI 2 (by (simp only [List.getElem?_toArray, List.getElem?_cons_succ, List.getElem?_cons_zero]; rfl)) (by kernel_rfl) (by kernel_rfl) (by kernel_rfl) (by exact fun _ _ _ h => h) (by rfl) (by (intro w hSw; (try dsimp only at hSw); go_simp <;> with_reducible rfl)) (by assumption) ?_; try simp only [Act.put, List.setIfInBounds_toArray, List.set_cons_zero, List.set_cons_succ])
      (refine tkI 3 (by (simp only [List.getElem?_toArray, List.getElem?_cons_succ, List.getElem?_cons_zero]; rfl)) (by kernel_rfl) (by kernel_rfl) (by kernel_rfl) (by exact fun _ _ _ h => h) (by rfl) (by (intro w hSw; (try dsimp only at hSw); go_simp <;> with_reducible rfl)) (by assumption) ?_; try simp only [Act.put, List.setIfInBounds_toArray, List.set_cons_zero, List.set_cons_succ])
      refine wpAnyH_ready (rs := [1]) (by kernel_rfl) (by simp) ?_
      refine AllReadyH.cons (by (simp only [List.getElem?_toArray, List.getElem?_cons_succ, List.getElem?_cons_zero]; rfl)) (fun K hK => ?_) AllReadyH.nil
      go_simp
      have key := rmhas1_at k 97 97 false rfl H97 (w4.drew)
      refine key.mono ?_
      rintro e w5 ⟨rfl, hx5⟩
      clear key
      have hx5 : Below (w4.drew).heap.size (w4.drew) w5 := hx5
      have hb5 := (Below.drew hb4).trans (hx5.mono (Below.drew hb4).size)
      have hbxa5 := (hbxa4.drew).kept (Keep.of_below hx5) (fun h => absurd hbxa4.lt (Nat.not_lt.2 h))
      have hill5 := (hill4.drew).below hx5
      have hilm5 := (hilm4.drew).below hx5
      have hSa5 := boxM hbxa5
      go_wp2_with fail
      refine hK.out _ _ hSa5 (fun hHeld2 => ?_)
      clear hK K hHeld
      have hHeld := hHeld2
      clear hHeld2
      try simp only [Act.put, List.setIfInBounds_toArray, List.set_cons_zero, List.set_cons_succ]
      refine wpAnyH_ready (rs := [4]) (by kernel_rfl) (by simp) ?_
      refine AllReadyH.cons (by (simp only [List.getElem?_toArray, List.getElem?_cons_succ, List.getElem?_cons_zero]; rfl)) (fun K hK => ?_) AllReadyH.nil
      go_simp
      have key := raskmay_any ⟨a1, a2, a3, a4, a5, a6, a7, ag, al⟩ B capb (w5) hilm5 hwal hn2 hg7
      rw [hv3] at key
      unfold AV.v at key
      dsimp only at key
      refine key.mono ?_
      rintro e w6 ⟨rfl, hx6⟩
      clear key
      have hx6 : Below (w5).heap.size (w5) w6 := hx6
      have hb6 := hb5.trans (hx6.mono hb5.size)
      have hbxa6 := (hbxa5).kept (Keep.of_below hx6) (fun h => absurd hbxa5.lt (Nat.not_lt.2 h))
      have hill6 := (hill5).below hx6
      have hilm6 := (hilm5).below hx6
      have hSa6 := boxM hbxa6
      go_wp2_with fail
      refine hK.out _ _ hSa6 (fun hHeld2 => ?_)
      clear hK K hHeld
      have hHeld := hHeld2
      clear hHeld2
      try simp only [Act.put, List.setIfInBounds_toArray, List.set_cons_zero, List.set_cons_succ]
      iterate 2 (refine tkP (by rfl) (by (simp only [List.getElem?_toArray, List.getElem?_cons_succ, List.getElem?_cons_zero]; rfl)) (by kernel_rfl) (by kernel_rfl) (by kernel_rfl) (by exact fun _ _ _ h => h) (by rfl) (by (intro w hSw; (try dsimp only at hSw); go_simp <;> with_reducible rfl)) (by assumption) ?_; try simp only [Act.put, List.setIfInBounds_toArray, List.set_cons_zero, List.set_cons_succ])
      iterate 10 (refine tkN (by rfl) (by (simp only [List.getElem?_toArray, List.getElem?_cons_succ, List.getElem?_cons_zero]; rfl)) (by kernel_rfl) (by kernel_rfl) (by kernel_rfl) (by exact fun _ _ _ h => h) (by rfl) (by assumption) ?_; try simp only [Act.put, List.setIfInBounds_toArray, List.set_cons_zero, List.set_cons_succ])
      iterate 1 (refine tkP (by rfl) (by (simp only [List.getElem?_toArray, List.getElem?_cons_succ, List.getElem?_cons_zero]; rfl)) (by kernel_rfl) (by kernel_rfl) (by kernel_rfl) (by exact fun _ _ _ h => h) (by rfl) (by (intro w hSw; (try dsimp only at hSw); go_simp <;> with_reducible rfl)) (by assumption) ?_; try simp only [Act.put, List.setIfInBounds_toArray, List.set_cons_zero, List.set_cons_succ])
      refine wpAnyH_done (by kernel_rfl) ?_ _
      have z3 : f3 = false := by rw [← hf3]; cases hq : sameA ⟨a1, a2, a3, a4, a5, a6, a7, ag, al⟩ x0 with | false => rfl | true => (rw [(sameA_iff _ _).1 hq, x0_no] at hv3; cases hv3)
      have hno : mayM ⟨k, o, l, ⟨a1, a2, a3, a4, a5, a6, a7, ag, al⟩, ⟨yc, ym, ye, yn⟩⟩ = false := by rw [hM, z1, z2, z3]; rfl
      go_wp2
      go_ret
      exact ⟨by rw [hno]; rfl, hb6⟩
set_option maxRecDepth 100000 in
set_option maxHeartbeats 25600000 in
theorem rmmay_N (x : MV) (A : Option Addr) (cap : Nat) (B : Option Addr) (capb : Nat) (w : World) (hl : IL w A x.l.length x.l) (hal : IL w B x.a.l.length x.a.l) (hwl : WL x.l) (hwal : WL x.a.l) (hn : x.l.length ≤ 9223372036854775807) (hn2 : x.a.l.length ≤ 9223372036854775807) (hg7 : x.a.g.length ≤ 9223372036854775807)
    (hL : hasM x.k = []) (hk1 : 1 ≤ x.k) (hk2 : x.k ≤ 14) :
    Calls Try.prog 10 #[x.v A cap B capb] w fun e w' => e = .returned (.bool (mayM x)) ∧ Below w.heap.size w w' := by
  obtain ⟨k, o, l, ⟨a1, a2, a3, a4, a5, a6, a7, ag, al⟩, ⟨yc, ym, ye, yn⟩⟩ := x
  dsimp only at hl hal hwl hwal hn hn2 hg7 hL hk1 hk2
  have H111 : hasB (hasM k) 111 = false := by rw [hL]; rfl
  have H105 : hasB (hasM k) 105 = false := by rw [hL]; rfl
  have H97 : hasB (hasM k) 97 = false := by rw [hL]; rfl
  have H121 : hasB (hasM k) 121 = false := by rw [hL]; rfl
  have hM : mayM ⟨k, o, l, ⟨a1, a2, a3, a4, a5, a6, a7, ag, al⟩, ⟨yc, ym, ye, yn⟩⟩ = (decide (o = 0) && (decide (l.length = 0) && (sameA ⟨a1, a2, a3, a4, a5, a6, a7, ag, al⟩ x0 && sameY ⟨yc, ym, ye, yn⟩ y0))) := by
    have : mayM ⟨k, o, l, ⟨a1, a2, a3, a4, a5, a6, a7, ag, al⟩, ⟨yc, ym, ye, yn⟩⟩ = mayKM (hasM k) ⟨k, o, l, ⟨a1, a2, a3, a4, a5, a6, a7, ag, al⟩, ⟨yc, ym, ye, yn⟩⟩ := rfl
    rw [this]
    unfold mayKM
    dsimp only
    rw [H111, H105, H97, H121, decide_eq_true hk1, decide_eq_true hk2]
    rfl
  obtain ⟨f1, hf1⟩ : ∃ b, decide (o = 0) = b := ⟨_, rfl⟩
  obtain ⟨f2, hf2⟩ : ∃ b, decide (l.length = 0) = b := ⟨_, rfl⟩
  obtain ⟨f3, hf3⟩ : ∃ b, sameA ⟨a1, a2, a3, a4, a5, a6, a7, ag, al⟩ x0 = b := ⟨_, rfl⟩
  obtain ⟨f4, hf4⟩ : ∃ b, sameY ⟨yc, ym, ye, yn⟩ y0 = b := ⟨_, rfl⟩
  rw [hf1, hf2, hf3, hf4] at hM
  have e4 := run_ans_eql ⟨yc, ym, ye, yn⟩ y0 (sameY ⟨yc, ym, ye, yn⟩ y0) rfl
  unfold y0 at e4
  dsimp only at e4
  have hbxa0 : Blk (w.alloc (.cells #[.int .i64 k, .int .i64 o, .slice A l.length cap, .int .i64 a1, .int .i64 a2, .int .i64 a3, .int .i64 a4, .int .i64 a5, .int .i64 a6, .int .i64 a7, .string ⟨ag.toArray⟩, .slice B al.length capb, .int .i64 yc, .int .i64 ym, .int .i64 ye, .int .i64 yn] 29)) w.heap.size 29 #[.int .i64 k, .int .i64 o, .slice A l.length cap, .int .i64 a1, .int .i64 a2, .int .i64 a3, .int .i64 a4, .int .i64 a5, .int .i64 a6, .int .i64 a7, .string ⟨ag.toArray⟩, .slice B al.length capb, .int .i64 yc, .int .i64 ym, .int .i64 ye, .int .i64 yn] := Blk.new _ _ _
  have hb0 := (Below.refl w.heap.size w).alloc (Nat.le_refl _) (.cells #[.int .i64 k, .int .i64 o, .slice A l.length cap, .int .i64 a1, .int .i64 a2, .int .i64 a3, .int .i64 a4, .int .i64 a5, .int .i64 a6, .int .i64 a7, .string ⟨ag.toArray⟩, .slice B al.length capb, .int .i64 yc, .int .i64 ym, .int .i64 ye, .int .i64 yn] 29)
  have hill0 := hl.alloc (.cells #[.int .i64 k, .int .i64 o, .slice A l.length cap, .int .i64 a1, .int .i64 a2, .int .i64 a3, .int .i64 a4, .int .i64 a5, .int .i64 a6, .int .i64 a7, .string ⟨ag.toArray⟩, .slice B al.length capb, .int .i64 yc, .int .i64 ym, .int .i64 ye, .int .i64 yn] 29)
  have hilm0 := hal.alloc (.cells #[.int .i64 k, .int .i64 o, .slice A l.length cap, .int .i64 a1, .int .i64 a2, .int .i64 a3, .int .i64 a4, .int .i64 a5, .int .i64 a6, .int .i64 a7, .string ⟨ag.toArray⟩, .slice B al.length capb, .int .i64 yc, .int .i64 ym, .int .i64 ye, .int .i64 yn] 29)
  have g1 : ¬ k < 1 := by omega
  have g2 : ¬ 14 < k := by omega
  clear hl hal
  unfold MV.v MV.cs
  dsimp only
  go_enter Try.func10, Try.ntmps10
  have key := rmhas1_at k 111 111 false rfl H111 (w.alloc (.cells #[.int .i64 k, .int .i64 o, .slice A l.length cap, .int .i64 a1, .int .i64 a2, .int .i64 a3, .int .i64 a4, .int .i64 a5, .int .i64 a6, .int .i64 a7, .string ⟨ag.toArray⟩, .slice B al.length capb, .int .i64 yc, .int .i64 ym, .int .i64 ye, .int .i64 yn] 29))
  have hSa0 := boxM hbxa0
  go_wp2_with fail
  refine key.mono ?_
  rintro e w1 ⟨rfl, hx1⟩
  clear key
  have hb1 := hb0.trans (hx1.mono hb0.size)
  have hbxa1 := hbxa0.kept (Keep.of_below hx1) (fun h => absurd hbxa0.lt (Nat.not_lt.2 h))
  have hill1 := hill0.below hx1
  have hilm1 := hilm0.below hx1
  clear hbxa0 hill0 hilm0 hSa0
  have key := rmhas1_at k 111 111 false rfl H111 w1
  have hSa1 := boxM hbxa1
  go_wp2_with fail
  refine key.mono ?_
  rintro e w2 ⟨rfl, hx2⟩
  clear key
  have hb2 := hb1.trans (hx2.mono hb1.size)
  have hbxa2 := hbxa1.kept (Keep.of_below hx2) (fun h => absurd hbxa1.lt (Nat.not_lt.2 h))
  have hill2 := hill1.below hx2
  have hilm2 := hilm1.below hx2
  clear hbxa1 hill1 hilm1 hSa1
  by_cases p0 : o = 0
  case neg =>
    have p1 : (o == 0) = false := beq_eq_false_iff_ne.2 p0
    have p2 : decide (o = 0) = false := decide_eq_false p0
    have p3 : (o != 0) = true := bne_iff_ne.2 p0
    have z1 : f1 = false := by rw [← hf1]; exact decide_eq_false p0
    have hno : mayM ⟨k, o, l, ⟨a1, a2, a3, a4, a5, a6, a7, ag, al⟩, ⟨yc, ym, ye, yn⟩⟩ = false := by rw [hM, z1]; rfl
    have hSa2 := boxM hbxa2
    go_wp2
    go_ret
    exact ⟨by rw [hno]; rfl, hb2⟩
  have z1 : f1 = true := by rw [← hf1]; exact decide_eq_true p0
  have p1 : (o == 0) = true := beq_iff_eq.2 p0
  have p2 : decide (o = 0) = true := decide_eq_true p0
  have p3 : (o != 0) = false := by rw [bne, p1]; rfl
  have p4 : decide (¬ o = 0) = false := by rw [decide_not, p2]; rfl
  clear p0
  have key := refmay_b A l.length cap l w2 hill2 hn hwl.long
  have hSa2 := boxM hbxa2
  go_wp2_with fail
  refine key.mono ?_
  rintro e w3 ⟨rfl, hx3⟩
  clear key
  have hb3 := hb2.trans (hx3.mono hb2.size)
  have hbxa3 := hbxa2.kept (Keep.of_below hx3) (fun h => absurd hbxa2.lt (Nat.not_lt.2 h))
  have hill3 := hill2.below hx3
  have hilm3 := hilm2.below hx3
  clear hbxa2 hill2 hilm2 hSa2
  cases hv2 : mayL l with
  | false =>
    have z2 : f2 = false := by rw [← hf2]; refine decide_eq_false (fun h => ?_); rw [List.eq_nil_of_length_eq_zero h] at hv2; cases hv2
    have hno : mayM ⟨k, o, l, ⟨a1, a2, a3, a4, a5, a6, a7, ag, al⟩, ⟨yc, ym, ye, yn⟩⟩ = false := by rw [hM, z1, z2]; rfl
    have hSa3 := boxM hbxa3
    go_wp2
    go_ret
    exact ⟨by rw [hno]; rfl, hb3⟩
  | true =>
    have key := rmhas1_at k 105 105 false rfl H105 w3
    have hSa3 := boxM hbxa3
    go_wp2_with fail
    refine key.mono ?_
    rintro e w4 ⟨rfl, hx4⟩
    clear key
    have hb4 := hb3.trans (hx4.mono hb3.size)
    have hbxa4 := hbxa3.kept (Keep.of_below hx4) (fun h => absurd hbxa3.lt (Nat.not_lt.2 h))
    have hill4 := hill3.below hx4
    have hilm4 := hilm3.below hx4
    clear hbxa3 hill3 hilm3 hSa3
    by_cases p5 : 0 < l.length
    case pos =>
      have p6 : (0 : Int) < (l.length : Int) := by omega
      have z2 : f2 = false := by rw [← hf2]; exact decide_eq_false (by omega)
      have hno : mayM ⟨k, o, l, ⟨a1, a2, a3, a4, a5, a6, a7, ag, al⟩, ⟨yc, ym, ye, yn⟩⟩ = false := by rw [hM, z1, z2]; rfl
      have hSa4 := boxM hbxa4
      go_wp2
      go_ret
      exact ⟨by rw [hno]; rfl, hb4⟩
    have z2 : f2 = true := by rw [← hf2]; exact decide_eq_true (by omega)
    have p6 : ¬ (0 : Int) < (l.length : Int) := by omega
    cases hv3 : mayA ⟨a1, a2, a3, a4, a5, a6, a7, ag, al⟩ with
    | false =>
      cases hs3 : sameA ⟨a1, a2, a3, a4, a5, a6, a7, ag, al⟩ x0 with
      | false =>
        have hSa4 := boxM hbxa4
        go_wp2_with fail
        refine wp_region_held_drew (S := (fun w' => w'.cell? ⟨w.heap.size, 0, none⟩ = some (.int .i64 k) ∧ w'.cell? ⟨w.heap.size, 1, none⟩ = some (.int .i64 o) ∧ w'.cell? ⟨w.heap.size, 2, none⟩ = some (.slice A l.length cap) ∧ w'.cell? ⟨w.heap.size, 3, none⟩ = some (.int .i64 a1) ∧ w'.cell? ⟨w.heap.size, 4, none⟩ = some (.int .i64 a2) ∧ w'.cell? ⟨w.heap.size, 5, none⟩ = some (.int .i64 a3) ∧ w'.cell? ⟨w.heap.size, 6, none⟩ = some (.int .i64 a4) ∧ w'.cell? ⟨w.heap.size, 7, none⟩ = some (.int .i64 a5) ∧ w'.cell? ⟨w.heap.size, 8, none⟩ = some (.int .i64 a6) ∧ w'.cell? ⟨w.heap.size, 9, none⟩ = some (.int .i64 a7) ∧ w'.cell? ⟨w.heap.size, 10, none⟩ = some (.string ⟨ag.toArray⟩) ∧ w'.cell? ⟨w.heap.size, 11, none⟩ = some (.slice B al.length capb) ∧ w'.cell? ⟨w.heap.size, 12, none⟩ = some (.int .i64 yc) ∧ w'.cell? ⟨w.heap.size, 13, none⟩ = some (.int .i64 ym) ∧ w'.cell? ⟨w.heap.size, 14, none⟩ = some (.int .i64 ye) ∧ w'.cell? ⟨w.heap.size, 15, none⟩ = some (.int .i64 yn))) (by kernel_rfl) hSa4 (fun hHeld => ?_)
        iterate 1 (refine tkP (by rfl) (by (simp only [List.getElem?_toArray, List.getElem?_cons_succ, List.getElem?_cons_zero]; rfl)) (by kernel_rfl) (by kernel_rfl) (by kernel_rfl) (by exact fun _ _ _ h => h) (by rfl) (by (intro w hSw; (try dsimp only at hSw); go_simp <;> with_reducible rfl)) (by assumption) ?_; try simp only [Act.put, List.setIfInBounds_toArray, List.set_cons_zero, List.set_cons_succ])
        (refine tkI 2 (by (simp only [List.getElem?_toArray, List.getElem?_cons_succ, List.getElem?_cons_zero]; rfl)) (by kernel_rfl) (by kernel_rfl) (by kernel_rfl) (by exact fun _ _ _ h => h) (by rfl) (by (intro w hSw; (try dsimp only at hSw); go_simp <;> with_reducible rfl)) (by assumption) ?_; try simp only [Act.put, List.setIfInBounds_toArray, List.set_cons_zero, List.set_cons_succ])
        (refine tkI 3 (by (simp only [List.getElem?_toArray, List.getElem?_cons_succ, List.getElem?_cons_zero]; rfl)) (by kernel_rfl) (by kernel_rfl) (by kernel_rfl) (by exact fun _ _ _ h => h) (by rfl) (by (intro w hSw; (try dsimp only at hSw); go_simp <;> with_reducible rfl)) (by assumption) ?_; try simp only [Act.put, List.setIfInBounds_toArray, List.set_cons_zero, List.set_cons_succ])
        refine wpAnyH_ready (rs := [1]) (by kernel_rfl) (by simp) ?_
        refine AllReadyH.cons (by (simp only [List.getElem?_toArray, List.getElem?_cons_succ, List.getElem?_cons_zero]; rfl)) (fun K hK => ?_) AllReadyH.nil
        go_simp
        have key := rmhas1_at k 97 97 false rfl H97 (w4.drew)
        refine key.mono ?_
        rintro e w5 ⟨rfl, hx5⟩
        clear key
        have hx5 : Below (w4.drew).heap.size (w4.drew) w5 := hx5
        have hb5 := (Below.drew hb4).trans (hx5.mono (Below.drew hb4).size)
        have hbxa5 := (hbxa4.drew).kept (Keep.of_below hx5) (fun h => absurd hbxa4.lt (Nat.not_lt.2 h))
        have hill5 := (hill4.drew).below hx5
        have hilm5 := (hilm4.drew).below hx5
        have hSa5 := boxM hbxa5
        go_wp2_with fail
        refine hK.out _ _ hSa5 (fun hHeld2 => ?_)
        clear hK K hHeld
        have hHeld := hHeld2
        clear hHeld2
        try simp only [Act.put, List.setIfInBounds_toArray, List.set_cons_zero, List.set_cons_succ]
        refine wpAnyH_ready (rs := [4]) (by kernel_rfl) (by simp) ?_
        refine AllReadyH.cons (by (simp only [List.getElem?_toArray, List.getElem?_cons_succ, List.getElem?_cons_zero]; rfl)) (fun K hK => ?_) AllReadyH.nil
        go_simp
        have key := raskmay_any ⟨a1, a2, a3, a4, a5, a6, a7, ag, al⟩ B capb (w5) hilm5 hwal hn2 hg7
        rw [hv3] at key
        unfold AV.v at key
        dsimp only at key
        refine key.mono ?_
        rintro e w6 ⟨rfl, hx6⟩
        clear key
        have hx6 : Below (w5).heap.size (w5) w6 := hx6
        have hb6 := hb5.trans (hx6.mono hb5.size)
        have hbxa6 := (hbxa5).kept (Keep.of_below hx6) (fun h => absurd hbxa5.lt (Nat.not_lt.2 h))
        have hill6 := (hill5).below hx6
        have hilm6 := (hilm5).below hx6
        have hSa6 := boxM hbxa6
        go_wp2_with fail
        refine hK.out _ _ hSa6 (fun hHeld2 => ?_)
        clear hK K hHeld
        have hHeld := hHeld2
        clear hHeld2
        try simp only [Act.put, List.setIfInBounds_toArray, List.set_cons_zero, List.set_cons_succ]
        iterate 2 (refine tkP (by rfl) (by (simp only [List.getElem?_toArray, List.getElem?_cons_succ, List.getElem?_cons_zero]; rfl)) (by kernel_rfl) (by kernel_rfl) (by kernel_rfl) (by exact fun _ _ _ h => h) (by rfl) (by (intro w hSw; (try dsimp only at hSw); go_simp <;> with_reducible rfl)) (by assumption) ?_; try simp only [Act.put, List.setIfInBounds_toArray, List.set_cons_zero, List.set_cons_succ])
        iterate 1 (refine tkP (by rfl) (by (simp only [List.getElem?_toArray, List.getElem?_cons_succ, List.getElem?_cons_zero]; rfl)) (by kernel_rfl) (by kernel_rfl) (by kernel_rfl) (by exact fun _ _ _ h => h) (by rfl) (by (intro w hSw; (try dsimp only at hSw); go_simp <;> with_reducible rfl)) (by assumption) ?_; try simp only [Act.put, List.setIfInBounds_toArray, List.set_cons_zero, List.set_cons_succ])
        refine wpAnyH_ready (rs := [8]) (by kernel_rfl) (by simp) ?_
        refine AllReadyH.cons (by (simp only [List.getElem?_toArray, List.getElem?_cons_succ, List.getElem?_cons_zero]; rfl)) (fun K hK => ?_) AllReadyH.nil
        go_simp
        have key := rmhas1_at k 97 97 false rfl H97 (w6)
        refine key.mono ?_
        rintro e w7 ⟨rfl, hx7⟩
        clear key
        have hx7 : Below (w6).heap.size (w6) w7 := hx7
        have hb7 := hb6.trans (hx7.mono hb6.size)
        have hbxa7 := (hbxa6).kept (Keep.of_below hx7) (fun h => absurd hbxa6.lt (Nat.not_lt.2 h))
        have hill7 := (hill6).below hx7
        have hilm7 := (hilm6).below hx7
        have hSa7 := boxM hbxa7
        go_wp2_with fail
        refine hK.out _ _ hSa7 (fun hHeld2 => ?_)
        clear hK K hHeld
        have hHeld := hHeld2
        clear hHeld2
        try simp only [Act.put, List.setIfInBounds_toArray, List.set_cons_zero, List.set_cons_succ]
        iterate 2 (refine tkP (by rfl) (by (simp only [List.getElem?_toArray, List.getElem?_cons_succ, List.getElem?_cons_zero]; rfl)) (by kernel_rfl) (by kernel_rfl) (by kernel_rfl) (by exact fun _ _ _ h => h) (by rfl) (by (intro w hSw; (try dsimp only at hSw); go_simp <;> with_reducible rfl)) (by assumption) ?_; try simp only [Act.put, List.setIfInBounds_toArray, List.set_cons_zero, List.set_cons_succ])
        iterate 3 (refine tkP (by rfl) (by (simp only [List.getElem?_toArray, List.getElem?_cons_succ, List.getElem?_cons_zero]; rfl)) (by kernel_rfl) (by kernel_rfl) (by kernel_rfl) (by exact fun _ _ _ h => h) (by rfl) (by (intro w hSw; (try dsimp only at hSw); go_simp <;> with_reducible rfl)) (by assumption) ?_; try simp only [Act.put, List.setIfInBounds_toArray, List.set_cons_zero, List.set_cons_succ])
        refine wpAnyH_ready (rs := [14]) (by kernel_rfl) (by simp) ?_
        refine AllReadyH.cons (by (simp only [List.getElem?_toArray, List.getElem?_cons_succ, List.getElem?_cons_zero]; rfl)) (fun K hK => ?_) AllReadyH.nil
        go_simp
        have key := rsame_any ⟨a1, a2, a3, a4, a5, a6, a7, ag, al⟩ x0 B none capb 0 (w7) hilm7 (IL.nil _ _) hn2
        rw [hs3] at key
        unfold AV.v x0 at key
        dsimp only at key
        refine key.mono ?_
        rintro e w8 ⟨rfl, hx8⟩
        clear key
        have hx8 : Below (w7).heap.size (w7) w8 := hx8
        have hb8 := hb7.trans (hx8.mono hb7.size)
        have hbxa8 := (hbxa7).kept (Keep.of_below hx8) (fun h => absurd hbxa7.lt (Nat.not_lt.2 h))
        have hill8 := (hill7).below hx8
        have hilm8 := (hilm7).below hx8
        have hSa8 := boxM hbxa8
        go_wp2_with fail
        refine hK.out _ _ hSa8 (fun hHeld2 => ?_)
        clear hK K hHeld
        have hHeld := hHeld2
        clear hHeld2
        try simp only [Act.put, List.setIfInBounds_toArray, List.set_cons_zero, List.set_cons_succ]
        iterate 3 (refine tkP (by rfl) (by (simp only [List.getElem?_toArray, List.getElem?_cons_succ, List.getElem?_cons_zero]; rfl)) (by kernel_rfl) (by kernel_rfl) (by kernel_rfl) (by exact fun _ _ _ h => h) (by rfl) (by (intro w hSw; (try dsimp only at hSw); go_simp <;> with_reducible rfl)) (by assumption) ?_; try simp only [Act.put, List.setIfInBounds_toArray, List.set_cons_zero, List.set_cons_succ])
        refine wpAnyH_done (by kernel_rfl) ?_ _
        have z3 : f3 = false := by rw [← hf3]; exact hs3
        have hno : mayM ⟨k, o, l, ⟨a1, a2, a3, a4, a5, a6, a7, ag, al⟩, ⟨yc, ym, ye, yn⟩⟩ = false := by rw [hM, z1, z2, z3]; rfl
        go_wp2
        go_ret
        exact ⟨by rw [hno]; rfl, hb8⟩
      | true =>
        have hSa4 := boxM hbxa4
        go_wp2_with fail
        refine wp_region_held_drew (S := (fun w' => w'.cell? ⟨w.heap.size, 0, none⟩ = some (.int .i64 k) ∧ w'.cell? ⟨w.heap.size, 1, none⟩ = some (.int .i64 o) ∧ w'.cell? ⟨w.heap.size, 2, none⟩ = some (.slice A l.length cap) ∧ w'.cell? ⟨w.heap.size, 3, none⟩ = some (.int .i64 a1) ∧ w'.cell? ⟨w.heap.size, 4, none⟩ = some (.int .i64 a2) ∧ w'.cell? ⟨w.heap.size, 5, none⟩ = some (.int .i64 a3) ∧ w'.cell? ⟨w.heap.size, 6, none⟩ = some (.int .i64 a4) ∧ w'.cell? ⟨w.heap.size, 7, none⟩ = some (.int .i64 a5) ∧ w'.cell? ⟨w.heap.size, 8, none⟩ = some (.int .i64 a6) ∧ w'.cell? ⟨w.heap.size, 9, none⟩ = some (.int .i64 a7) ∧ w'.cell? ⟨w.heap.size, 10, none⟩ = some (.string ⟨ag.toArray⟩) ∧ w'.cell? ⟨w.heap.size, 11, none⟩ = some (.slice B al.length capb) ∧ w'.cell? ⟨w.heap.size, 12, none⟩ = some (.int .i64 yc) ∧ w'.cell? ⟨w.heap.size, 13, none⟩ = some (.int .i64 ym) ∧ w'.cell? ⟨w.heap.size, 14, none⟩ = some (.int .i64 ye) ∧ w'.cell? ⟨w.heap.size, 15, none⟩ = some (.int .i64 yn))) (by kernel_rfl) hSa4 (fun hHeld => ?_)
        iterate 1 (refine tkP (by rfl) (by (simp only [List.getElem?_toArray, List.getElem?_cons_succ, List.getElem?_cons_zero]; rfl)) (by kernel_rfl) (by kernel_rfl) (by kernel_rfl) (by exact fun _ _ _ h => h) (by rfl) (by (intro w hSw; (try dsimp only at hSw); go_simp <;> with_reducible rfl)) (by assumption) ?_; try simp only [Act.put, List.setIfInBounds_toArray, List.set_cons_zero, List.set_cons_succ])
        (refine tkI 2 (by (simp only [List.getElem?_toArray, List.getElem?_cons_succ, List.getElem?_cons_zero]; rfl)) (by kernel_rfl) (by kernel_rfl) (by kernel_rfl) (by exact fun _ _ _ h => h) (by rfl) (by (intro w hSw; (try dsimp only at hSw); go_simp <;> with_reducible rfl)) (by assumption) ?_; try simp only [Act.put, List.setIfInBounds_toArray, List.set_cons_zero, List.set_cons_succ])
        (refine tkI 3 (by (simp only [List.getElem?_toArray, List.getElem?_cons_succ, List.getElem?_cons_zero]; rfl)) (by kernel_rfl) (by kernel_rfl) (by kernel_rfl) (by exact fun _ _ _ h => h) (by rfl) (by (intro w hSw; (try dsimp only at hSw); go_simp <;> with_reducible rfl)) (by assumption) ?_; try simp only [Act.put, List.setIfInBounds_toArray, List.set_cons_zero, List.set_cons_succ])
        refine wpAnyH_ready (rs := [1]) (by kernel_rfl) (by simp) ?_
        refine AllReadyH.cons (by (simp only [List.getElem?_toArray, List.getElem?_cons_succ, List.getElem?_cons_zero]; rfl)) (fun K hK => ?_) AllReadyH.nil
        go_simp
        have key := rmhas1_at k 97 97 false rfl H97 (w4.drew)
        refine key.mono ?_
        rintro e w5 ⟨rfl, hx5⟩
        clear key
        have hx5 : Below (w4.drew).heap.size (w4.drew) w5 := hx5
        have hb5 := (Below.drew hb4).trans (hx5.mono (Below.drew hb4).size)
        have hbxa5 := (hbxa4.drew).kept (Keep.of_below hx5) (fun h => absurd hbxa4.lt (Nat.not_lt.2 h))
        have hill5 := (hill4.drew).below hx5
        have hilm5 := (hilm4.drew).below hx5
        have hSa5 := boxM hbxa5
        go_wp2_with fail
        refine hK.out _ _ hSa5 (fun hHeld2 => ?_)
        clear hK K hHeld
        have hHeld := hHeld2
        clear hHeld2
        try simp only [Act.put, List.setIfInBounds_toArray, List.set_cons_zero, List.set_cons_succ]
        refine wpAnyH_ready (rs := [4]) (by kernel_rfl) (by simp) ?_
        refine AllReadyH.cons (by (simp only [List.getElem?_toArray, List.getElem?_cons_succ, List.getElem?_cons_zero]; rfl)) (fun K hK => ?_) AllReadyH.nil
        go_simp
        have key := raskmay_any ⟨a1, a2, a3, a4, a5, a6, a7, ag, al⟩ B capb (w5) hilm5 hwal hn2 hg7
        rw [hv3] at key
        unfold AV.v at key
        dsimp only at key
        refine key.mono ?_
        rintro e w6 ⟨rfl, hx6⟩
        clear key
        have hx6 : Below (w5).heap.size (w5) w6 := hx6
        have hb6 := hb5.trans (hx6.mono hb5.size)
        have hbxa6 := (hbxa5).kept (Keep.of_below hx6) (fun h => absurd hbxa5.lt (Nat.not_lt.2 h))
        have hill6 := (hill5).below hx6
        have hilm6 := (hilm5).below hx6
        have hSa6 := boxM hbxa6
        go_wp2_with fail
        refine hK.out _ _ hSa6 (fun hHeld2 => ?_)
        clear hK K hHeld
        have hHeld := hHeld2
        clear hHeld2
        try simp only [Act.put, List.setIfInBounds_toArray, List.set_cons_zero, List.set_cons_succ]
        iterate 2 (refine tkP (by rfl) (by (simp only [List.getElem?_toArray, List.getElem?_cons_succ, List.getElem?_cons_zero]; rfl)) (by kernel_rfl) (by kernel_rfl) (by kernel_rfl) (by exact fun _ _ _ h => h) (by rfl) (by (intro w hSw; (try dsimp only at hSw); go_simp <;> with_reducible rfl)) (by assumption) ?_; try simp only [Act.put, List.setIfInBounds_toArray, List.set_cons_zero, List.set_cons_succ])
        iterate 1 (refine tkP (by rfl) (by (simp only [List.getElem?_toArray, List.getElem?_cons_succ, List.getElem?_cons_zero]; rfl)) (by kernel_rfl) (by kernel_rfl) (by kernel_rfl) (by exact fun _ _ _ h => h) (by rfl) (by (intro w hSw; (try dsimp only at hSw); go_simp <;> with_reducible rfl)) (by assumption) ?_; try simp only [Act.put, List.setIfInBounds_toArray, List.set_cons_zero, List.set_cons_succ])
        refine wpAnyH_ready (rs := [8]) (by kernel_rfl) (by simp) ?_
        refine AllReadyH.cons (by (simp only [List.getElem?_toArray, List.getElem?_cons_succ, List.getElem?_cons_zero]; rfl)) (fun K hK => ?_) AllReadyH.nil
        go_simp
        have key := rmhas1_at k 97 97 false rfl H97 (w6)
        refine key.mono ?_
        rintro e w7 ⟨rfl, hx7⟩
        clear key
        have hx7 : Below (w6).heap.size (w6) w7 := hx7
        have hb7 := hb6.trans (hx7.mono hb6.size)
        have hbxa7 := (hbxa6).kept (Keep.of_below hx7) (fun h => absurd hbxa6.lt (Nat.not_lt.2 h))
        have hill7 := (hill6).below hx7
        have hilm7 := (hilm6).below hx7
        have hSa7 := boxM hbxa7
        go_wp2_with fail
        refine hK.out _ _ hSa7 (fun hHeld2 => ?_)
        clear hK K hHeld
        have hHeld := hHeld2
        clear hHeld2
        try simp only [Act.put, List.setIfInBounds_toArray, List.set_cons_zero, List.set_cons_succ]
        iterate 2 (refine tkP (by rfl) (by (simp only [List.getElem?_toArray, List.getElem?_cons_succ, List.getElem?_cons_zero]; rfl)) (by kernel_rfl) (by kernel_rfl) (by kernel_rfl) (by exact fun _ _ _ h => h) (by rfl) (by (intro w hSw; (try dsimp only at hSw); go_simp <;> with_reducible rfl)) (by assumption) ?_; try simp only [Act.put, List.setIfInBounds_toArray, List.set_cons_zero, List.set_cons_succ])
        iterate 3 (refine tkP (by rfl) (by (simp only [List.getElem?_toArray, List.getElem?_cons_succ, List.getElem?_cons_zero]; rfl)) (by kernel_rfl) (by kernel_rfl) (by kernel_rfl) (by exact fun _ _ _ h => h) (by rfl) (by (intro w hSw; (try dsimp only at hSw); go_simp <;> with_reducible rfl)) (by assumption) ?_; try simp only [Act.put, List.setIfInBounds_toArray, List.set_cons_zero, List.set_cons_succ])
        refine wpAnyH_ready (rs := [14]) (by kernel_rfl) (by simp) ?_
        refine AllReadyH.cons (by (simp only [List.getElem?_toArray, List.getElem?_cons_succ, List.getElem?_cons_zero]; rfl)) (fun K hK => ?_) AllReadyH.nil
        go_simp
        have key := rsame_any ⟨a1, a2, a3, a4, a5, a6, a7, ag, al⟩ x0 B none capb 0 (w7) hilm7 (IL.nil _ _) hn2
        rw [hs3] at key
        unfold AV.v x0 at key
        dsimp only at key
        refine key.mono ?_
        rintro e w8 ⟨rfl, hx8⟩
        clear key
        have hx8 : Below (w7).heap.size (w7) w8 := hx8
        have hb8 := hb7.trans (hx8.mono hb7.size)
        have hbxa8 := (hbxa7).kept (Keep.of_below hx8) (fun h => absurd hbxa7.lt (Nat.not_lt.2 h))
        have hill8 := (hill7).below hx8
        have hilm8 := (hilm7).below hx8
        have hSa8 := boxM hbxa8
        go_wp2_with fail
        refine hK.out _ _ hSa8 (fun hHeld2 => ?_)
        clear hK K hHeld
        have hHeld := hHeld2
        clear hHeld2
        try simp only [Act.put, List.setIfInBounds_toArray, List.set_cons_zero, List.set_cons_succ]
        iterate 3 (refine tkP (by rfl) (by (simp only [List.getElem?_toArray, List.getElem?_cons_succ, List.getElem?_cons_zero]; rfl)) (by kernel_rfl) (by kernel_rfl) (by kernel_rfl) (by exact fun _ _ _ h => h) (by rfl) (by (intro w hSw; (try dsimp only at hSw); go_simp <;> with_reducible rfl)) (by assumption) ?_; try simp only [Act.put, List.setIfInBounds_toArray, List.set_cons_zero, List.set_cons_succ])
        refine wpAnyH_done (by kernel_rfl) ?_ _
        have z3 : f3 = true := by rw [← hf3]; exact hs3
        have key := rmhas1_at k 121 121 false rfl H121 w8
        go_wp2_with fail
        refine key.mono ?_
        rintro e w9 ⟨rfl, hx9⟩
        clear key
        have hb9 := hb8.trans (hx9.mono hb8.size)
        have hbxa9 := hbxa8.kept (Keep.of_below hx9) (fun h => absurd hbxa8.lt (Nat.not_lt.2 h))
        have hill9 := hill8.below hx9
        have hilm9 := hilm8.below hx9
        clear hbxa8 hill8 hilm8 hSa8
        have hfin : mayM ⟨k, o, l, ⟨a1, a2, a3, a4, a5, a6, a7, ag, al⟩, ⟨yc, ym, ye, yn⟩⟩ = sameY ⟨yc, ym, ye, yn⟩ y0 := by rw [hM, z1, z2, z3, ← hf4]; rfl
        have e5 := e4 w9
        have hSa9 := boxM hbxa9
        go_wp2
        go_ret
        exact ⟨by rw [hfin]; rfl, hb9⟩
    | true =>
      have hSa4 := boxM hbxa4
      go_wp2_with fail
      refine wp_region_held_drew (S := (fun w' => w'.cell? ⟨w.heap.size, 0, none⟩ = some (.int .i64 k) ∧ w'.cell? ⟨w.heap.size, 1, none⟩ = some (.int .i64 o) ∧ w'.cell? ⟨w.heap.size, 2, none⟩ = some (.slice A l.length cap) ∧ w'.cell? ⟨w.heap.size, 3, none⟩ = some (.int .i64 a1) ∧ w'.cell? ⟨w.heap.size, 4, none⟩ = some (.int .i64 a2) ∧ w'.cell? ⟨w.heap.size, 5, none⟩ = some (.int .i64 a3) ∧ w'.cell? ⟨w.heap.size, 6, none⟩ = some (.int .i64 a4) ∧ w'.cell? ⟨w.heap.size, 7, none⟩ = some (.int .i64 a5) ∧ w'.cell? ⟨w.heap.size, 8, none⟩ = some (.int .i64 a6) ∧ w'.cell? ⟨w.heap.size, 9, none⟩ = some (.int .i64 a7) ∧ w'.cell? ⟨w.heap.size, 10, none⟩ = some (.string ⟨ag.toArray⟩) ∧ w'.cell? ⟨w.heap.size, 11, none⟩ = some (.slice B al.length capb) ∧ w'.cell? ⟨w.heap.size, 12, none⟩ = some (.int .i64 yc) ∧ w'.cell? ⟨w.heap.size, 13, none⟩ = some (.int .i64 ym) ∧ w'.cell? ⟨w.heap.size, 14, none⟩ = some (.int .i64 ye) ∧ w'.cell? ⟨w.heap.size, 15, none⟩ = some (.int .i64 yn))) (by kernel_rfl) hSa4 (fun hHeld => ?_)
      iterate 1 (refine tkP (by rfl) (by (simp only [List.getElem?_toArray, List.getElem?_cons_succ, List.getElem?_cons_zero]; rfl)) (by kernel_rfl) (by kernel_rfl) (by kernel_rfl) (by exact fun _ _ _ h => h) (by rfl) (by (intro w hSw; (try dsimp only at hSw); go_simp <;> with_reducible rfl)) (by assumption) ?_; try simp only [Act.put, List.setIfInBounds_toArray, List.set_cons_zero, List.set_cons_succ])
      (refine tkI 2 (by (simp only [List.getElem?_toArray, List.getElem?_cons_succ, List.getElem?_cons_zero]; rfl)) (by kernel_rfl) (by kernel_rfl) (by kernel_rfl) (by exact fun _ _ _ h => h) (by rfl) (by (intro w hSw; (try dsimp only at hSw); go_simp <;> with_reducible rfl)) (by assumption) ?_; try simp only [Act.put, List.setIfInBounds_toArray, List.set_cons_zero, List.set_cons_succ])
      (refine tkI 3 (by (simp only [List.getElem?_toArray, List.getElem?_cons_succ, List.getElem?_cons_zero]; rfl)) (by kernel_rfl) (by kernel_rfl) (by kernel_rfl) (by exact fun _ _ _ h => h) (by rfl) (by (intro w hSw; (try dsimp only at hSw); go_simp <;> with_reducible rfl)) (by assumption) ?_; try simp only [Act.put, List.setIfInBounds_toArray, List.set_cons_zero, List.set_cons_succ])
      refine wpAnyH_ready (rs := [1]) (by kernel_rfl) (by simp) ?_
      refine AllReadyH.cons (by (simp only [List.getElem?_toArray, List.getElem?_cons_succ, List.getElem?_cons_zero]; rfl)) (fun K hK => ?_) AllReadyH.nil
      go_simp
      have key := rmhas1_at k 97 97 false rfl H97 (w4.drew)
      refine key.mono ?_
      rintro e w5 ⟨rfl, hx5⟩
      clear key
      have hx5 : Below (w4.drew).heap.size (w4.drew) w5 := hx5
      have hb5 := (Below.drew hb4).trans (hx5.mono (Below.drew hb4).size)
      have hbxa5 := (hbxa4.drew).kept (Keep.of_below hx5) (fun h => absurd hbxa4.lt (Nat.not_lt.2 h))
      have hill5 := (hill4.drew).below hx5
      have hilm5 := (hilm4.drew).below hx5
      have hSa5 := boxM hbxa5
      go_wp2_with fail
      refine hK.out _ _ hSa5 (fun hHeld2 => ?_)
      clear hK K hHeld
      have hHeld := hHeld2
      clear hHeld2
      try simp only [Act.put, List.setIfInBounds_toArray, List.set_cons_zero, List.set_cons_succ]
      refine wpAnyH_ready (rs := [4]) (by kernel_rfl) (by simp) ?_
      refine AllReadyH.cons (by (simp only [List.getElem?_toArray, List.getElem?_cons_succ, List.getElem?_cons_zero]; rfl)) (fun K hK => ?_) AllReadyH.nil
      go_simp
      have key := raskmay_any ⟨a1, a2, a3, a4, a5, a6, a7, ag, al⟩ B capb (w5) hilm5 hwal hn2 hg7
      rw [hv3] at key
      unfold AV.v at key
      dsimp only at key
      refine key.mono ?_
      rintro e w6 ⟨rfl, hx6⟩
      clear key
      have hx6 : Below (w5).heap.size (w5) w6 := hx6
      have hb6 := hb5.trans (hx6.mono hb5.size)
      have hbxa6 := (hbxa5).kept (Keep.of_below hx6) (fun h => absurd hbxa5.lt (Nat.not_lt.2 h))
      have hill6 := (hill5).below hx6
      have hilm6 := (hilm5).below hx6
      have hSa6 := boxM hbxa6
      go_wp2_with fail
      refine hK.out _ _ hSa6 (fun hHeld2 => ?_)
      clear hK K hHeld
      have hHeld := hHeld2
      clear hHeld2
      try simp only [Act.put, List.setIfInBounds_toArray, List.set_cons_zero, List.set_cons_succ]
      iterate 2 (refine tkP (by rfl) (by (simp only [List.getElem?_toArray, List.getElem?_cons_succ, List.getElem?_cons_zero]; rfl)) (by kernel_rfl) (by kernel_rfl) (by kernel_rfl) (by exact fun _ _ _ h => h) (by rfl) (by (intro w hSw; (try dsimp only at hSw); go_simp <;> with_reducible rfl)) (by assumption) ?_; try simp only [Act.put, List.setIfInBounds_toArray, List.set_cons_zero, List.set_cons_succ])
      iterate 10 (refine tkN (by rfl) (by (simp only [List.getElem?_toArray, List.getElem?_cons_succ, List.getElem?_cons_zero]; rfl)) (by kernel_rfl) (by kernel_rfl) (by kernel_rfl) (by exact fun _ _ _ h => h) (by rfl) (by assumption) ?_; try simp only [Act.put, List.setIfInBounds_toArray, List.set_cons_zero, List.set_cons_succ])
      iterate 1 (refine tkP (by rfl) (by (simp only [List.getElem?_toArray, List.getElem?_cons_succ, List.getElem?_cons_zero]; rfl)) (by kernel_rfl) (by kernel_rfl) (by kernel_rfl) (by exact fun _ _ _ h => h) (by rfl) (by (intro w hSw; (try dsimp only at hSw); go_simp <;> with_reducible rfl)) (by assumption) ?_; try simp only [Act.put, List.setIfInBounds_toArray, List.set_cons_zero, List.set_cons_succ])
      refine wpAnyH_done (by kernel_rfl) ?_ _
      have z3 : f3 = false := by rw [← hf3]; cases hq : sameA ⟨a1, a2, a3, a4, a5, a6, a7, ag, al⟩ x0 with | false => rfl | true => (rw [(sameA_iff _ _).1 hq, x0_no] at hv3; cases hv3)
      have hno : mayM ⟨k, o, l, ⟨a1, a2, a3, a4, a5, a6, a7, ag, al⟩, ⟨yc, ym, ye, yn⟩⟩ = false := by rw [hM, z1, z2, z3]; rfl
      go_wp2
      go_ret
      exact ⟨by rw [hno]; rfl, hb6⟩
set_option maxRecDepth 100000 in
theorem rmmay_any (x : MV) (A : Option Addr) (cap : Nat) (B : Option Addr) (capb : Nat) (w : World) (hl : IL w A x.l.length x.l) (hal : IL w B x.a.l.length x.a.l) (hwl : WL x.l) (hwal : WL x.a.l) (hn : x.l.length ≤ 9223372036854775807) (hn2 : x.a.l.length ≤ 9223372036854775807) (hg7 : x.a.g.length ≤ 9223372036854775807) :
    Calls Try.prog 10 #[x.v A cap B capb] w fun e w' => e = .returned (.bool (mayM x)) ∧ Below w.heap.size w w' := by
  by_cases hk : 1 ≤ x.k ∧ x.k ≤ 14
  · have hr : hasM x.k = [97] ∨ hasM x.k = [121] ∨ hasM x.k = [111, 105] ∨ hasM x.k = [111] ∨ hasM x.k = [] := by
      unfold hasM
      repeat' split
      all_goals simp
    rcases hr with h | h | h | h | h
    · exact rmmay_A x A cap B capb w hl hal hwl hwal hn hn2 hg7 h hk.1 hk.2
    · exact rmmay_Y x A cap B capb w hl hal hwl hwal hn hn2 hg7 h hk.1 hk.2
    · exact rmmay_OI x A cap B capb w hl hal hwl hwal hn hn2 hg7 h hk.1 hk.2
    · exact rmmay_O x A cap B capb w hl hal hwl hwal hn hn2 hg7 h hk.1 hk.2
    · exact rmmay_N x A cap B capb w hl hal hwl hwal hn hn2 hg7 h hk.1 hk.2
  · have hno : mayM x = false := by
      have : mayM x = mayKM (hasM x.k) x := rfl
      rw [this]
      unfold mayKM
      by_cases h1 : 1 ≤ x.k
      · rw [decide_eq_true h1, decide_eq_false (show ¬ x.k ≤ 14 by omega)]
        rfl
      · rw [decide_eq_false h1]
        rfl
    rw [hno]
    obtain ⟨k, o, l, ⟨a1, a2, a3, a4, a5, a6, a7, ag, al⟩, ⟨yc, ym, ye, yn⟩⟩ := x
    dsimp only at hk
    have hb0 := (Below.refl w.heap.size w).alloc (Nat.le_refl _) (.cells #[.int .i64 k, .int .i64 o, .slice A l.length cap, .int .i64 a1, .int .i64 a2, .int .i64 a3, .int .i64 a4, .int .i64 a5, .int .i64 a6, .int .i64 a7, .string ⟨ag.toArray⟩, .slice B al.length capb, .int .i64 yc, .int .i64 ym, .int .i64 ye, .int .i64 yn] 29)
    unfold MV.v MV.cs
    dsimp only
    by_cases g1 : k < 1
    · go_enter Try.func10, Try.ntmps10
      go_wp2
      go_ret
      exact ⟨rfl, hb0⟩
    · have g2 : 14 < k := by omega
      go_enter Try.func10, Try.ntmps10
      go_wp2
      go_ret
      exact ⟨rfl, hb0⟩
end Go.Proofs.Ytpfkhalomnfcfaa
