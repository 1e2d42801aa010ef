/- lives of the statements on timers; the reference's wait. No condition but that the numbers are ints. -/
import Derived.Test.YtiinlcfggjcmoaaTmD
import Derived.Test.YtiinlcfggjcmoaaWaitC
namespace Go.Proofs.Ytiinlcfggjcmoaa
open Go.RowKit Go.Maps Go.Sort Go.Shelf
set_option linter.unusedVariables false
set_option linter.unusedSimpArgs false

set_option maxHeartbeats 800000 in
theorem rwait_any (base most tries : Int) (w : World) (hm : most ≤ 9223372036854775807) (ht : tries ≤ 9223372036854775807) :
    Calls Try.prog 8 #[.int .i64 base, .int .i64 most, .int .i64 tries] w fun e w' => e = .returned (.int .i64 (waitN base most tries)) ∧ w' = w := by
  by_cases h1 : base < 1
  · rw [waitN_bad (.inl h1)]
    go_enter Try.func8, Try.ntmps8
    go_wp2
    go_ret
    exact ⟨rfl, rfl⟩
  by_cases h2 : most < base
  · rw [waitN_bad (.inr (.inl h2))]
    go_enter Try.func8, Try.ntmps8
    go_wp2
    go_ret
    exact ⟨rfl, rfl⟩
  by_cases h3 : tries < 0
  · rw [waitN_bad (.inr (.inr h3))]
    go_enter Try.func8, Try.ntmps8
    go_wp2
    go_ret
    exact ⟨rfl, rfl⟩
  rw [waitN_ok (by omega) (by omega) (by omega)]
  obtain ⟨n, rfl⟩ : ∃ n : Nat, tries = n := ⟨tries.toNat, by omega⟩
  rw [Int.toNat_natCast]
  obtain ⟨W, hW⟩ : ∃ W, waitF most n base = W := ⟨_, rfl⟩
  rw [hW]
  have hr0 : WaitRel most n W 0 base := ⟨by omega, by omega, by omega, hW⟩
  clear hW
  go_enter Try.func8, Try.ntmps8
  go_wp2
  go_loop [7, 8] (fun x i => ∃ (k : Nat) (y : Int), i = .int .i64 (k : Int) ∧ x = .int .i64 y ∧ WaitRel most n W k y) (fun _ i => n - (intOf i).toNat)
  case atStart => exact ⟨0, base, by go_num, rfl, hr0⟩
  case round =>
    obtain ⟨k, y, rfl, rfl, hk, hy1, hy2, hy⟩ := hrel
    by_cases hlt : k < n
    · have hlz : (k : Int) < (n : Int) := by omega
      have hnk : n - k = (n - (k + 1)) + 1 := by omega
      by_cases hd : most < 2 * y
      · have hW : most = W := by rw [← hy, hnk, waitF_stop hd]
        have hdd : most - y < y := by omega
        subst hW
        clear hy
        go_wp2
        go_ret
        exact ⟨rfl, rfl⟩
      · have hdd : ¬ most - y < y := by omega
        have hr1 : WaitRel most n W (k + 1) (y + y) := ⟨by omega, by omega, by omega, by rw [← hy, hnk, waitF_step hd, show 2 * y = y + y by omega]⟩
        clear hy
        go_wp2
        go_round
        case rel => exact ⟨k + 1, y + y, by go_num, rfl, hr1⟩
        case measure => simp [intOf]; omega
    · have hkn : k = n := by omega
      have hW : y = W := by rw [← hy, hkn, Nat.sub_self]; rfl
      have hlz : ¬ (k : Int) < (n : Int) := by omega
      subst hW
      clear hy
      go_wp2
      go_ret
      exact ⟨rfl, rfl⟩
theorem func_eqT (d : Nat) (fn : Fn) (first cap : Array Value) (W : World) : (Op.equalIn (d + 1) 48 (.func fn first cap) .nilFunc).run Try.prog W = .ok false W := by
  simp [Op.equalIn, run_underlying Try.underlying48]
theorem func_eq_nilT (fn : Fn) (first cap : Array Value) (W : World) : (binOp .eql 48 (.func fn first cap) .nilFunc).run Try.prog W = .ok (.bool false) W := by
  have h := func_eqT 9999 fn first cap W
  simp only [binOp]
  simp [Op.equal, Op.maxDepth, h]
theorem lvt1 : setT [] 5 2 = [(5, 2)] := by decide
theorem lvt2 : setT [(5, 2)] 3 2 = [(3, 2), (5, 2)] := by decide
theorem lvt3 : setT [(3, 2), (5, 2)] 9 1 = [(9, 1), (3, 2), (5, 2)] := by decide
theorem lvt4 : popP [(9, 1), (3, 2), (5, 2)] 2 = ((9, true), [(3, 2), (5, 2)]) := by decide
theorem lvt5 : dueP 2 [(3, 2), (5, 2)] = [3, 5] := by decide
theorem lvw1 : waitN 2 10 3 = 10 := by decide
theorem lvw2 : nextN 1 2 10 1 = 5 := by decide
theorem Keep.bel {w w' : World} {b n : Nat} (h : Keep (fun i => i = b) w w') (hn : n ≤ w.heap.size) (hb : n ≤ b) : RowKit.Below n w w' := h.below hn fun k hk e => by omega
set_option maxRecDepth 100000 in
set_option maxHeartbeats 3200000 in
theorem lives_any (w : World) : Calls Try.prog 9 #[] w fun e w' => e = .returned (.bool true) ∧ RowKit.Below w.heap.size w w' := by
  have hfn := func_eq_nilT
  go_enter Try.func9, Try.ntmps9
  go_wp2_with fail
  refine (tnew_any _).mono ?_
  rintro e w1 ⟨p, b, rfl, hT1, hp, hb, hb1⟩
  go_wp2_with fail
  refine (iall_make (some ⟨p, 0, none⟩) _).mono ?_
  rintro e w' ⟨rfl, rfl⟩
  have hT2 := hT1.alloc (.cells #[.pointer (some ⟨p, 0, none⟩)] 28)
  have hb2 := hb1.alloc hb1.size (.cells #[.pointer (some ⟨p, 0, none⟩)] 28)
  clear hT1 hb1
  go_wp2_with fail
  refine (tset_any 5 2 hT2 (by decide) (by decide) (by omega)).mono ?_
  rintro e w3 ⟨rfl, hT3, hk3⟩
  rw [lvt1] at hT3
  have hb3 := hb2.trans (hk3.bel hb2.size hb)
  clear hT2 hb2 hk3
  go_wp2_with fail
  refine (tset_any 3 2 hT3 (by decide) (by decide) (by omega)).mono ?_
  rintro e w4 ⟨rfl, hT4, hk4⟩
  rw [lvt2] at hT4
  have hb4 := hb3.trans (hk4.bel hb3.size hb)
  clear hT3 hb3 hk4
  go_wp2_with fail
  refine (tset_any 9 1 hT4 (by decide) (by decide) (by omega)).mono ?_
  rintro e w5 ⟨rfl, hT5, hk5⟩
  rw [lvt3] at hT5
  have hb5 := hb4.trans (hk5.bel hb4.size hb)
  clear hT4 hb4 hk5
  have hpop := tpop_any 2 hT5 (by decide)
  unfold PopPost at hpop
  rw [lvt4] at hpop
  dsimp only at hpop
  go_wp2_with fail
  refine hpop.mono ?_
  rintro e w6 ⟨rfl, hT6, hk6⟩
  have hb6 := hb5.trans (hk6.bel hb5.size hb)
  clear hT5 hb5 hk6 hpop
  go_wp2_with fail
  refine (due_any 2 hT6 (by omega)).mono ?_
  rintro e w7 ⟨v, rfl, ho, hx7⟩
  rw [lvt5] at ho
  have hb7 := hb6.trans (hx7.mono hb6.size)
  obtain ⟨A, c, rfl, _, _, hir, _⟩ := ho.form
  obtain ⟨g, off, x, rfl, hx, c0⟩ := hir.place (k := 0) (by decide)
  cases hx
  simp at c0
  clear hT6 hb6 hx7 ho hir
  go_wp2_with fail
  refine (wait_any 2 10 3 _ (by omega) (by omega)).mono ?_
  rintro e w' ⟨rfl, rfl⟩
  rw [lvw1]
  go_wp2_with fail
  refine (next_any 1 2 10 1 _ (by omega) (by omega) (by omega) (by omega)).mono ?_
  rintro e w' ⟨rfl, rfl⟩
  rw [lvw2]
  go_wp2
  go_ret
  exact ⟨rfl, hb7⟩
end Go.Proofs.Ytiinlcfggjcmoaa
