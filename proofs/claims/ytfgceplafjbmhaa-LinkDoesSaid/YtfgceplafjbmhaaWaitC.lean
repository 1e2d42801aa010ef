/- backoff.Wait and Next as calls. No condition but that the numbers are ints. -/
import Derived.Test.YtfgceplafjbmhaaWait
namespace Go.Proofs.Ytfgceplafjbmhaa
open Go.RowKit
set_option linter.unusedVariables false
set_option linter.unusedSimpArgs false

theorem waitF_step {most w : Int} {k : Nat} (h : ¬ most < 2 * w) : waitF most (k + 1) w = waitF most k (2 * w) := by rw [waitF, if_neg h]
theorem waitF_stop {most w : Int} {k : Nat} (h : most < 2 * w) : waitF most (k + 1) w = most := by rw [waitF, if_pos h]
def WaitRel (most : Int) (n : Nat) (W : Int) (k : Nat) (x : Int) : Prop := k ≤ n ∧ 1 ≤ x ∧ x ≤ most ∧ waitF most (n - k) x = W
set_option maxHeartbeats 800000 in
theorem wait_any (base most tries : Int) (w : World) (hm : most ≤ 9223372036854775807) (ht : tries ≤ 9223372036854775807) :
    Calls Try.prog 75 #[.int .i64 base, .int .i64 most, .int .i64 tries] w fun e w' => e = .returned (.int .i64 (waitN base most tries)) ∧ w' = w := by
  by_cases h1 : base < 1
  · rw [waitN_bad (.inl h1)]
    go_enter Try.func75, Try.ntmps75
    go_wp2
    go_ret
    exact ⟨rfl, rfl⟩
  by_cases h2 : most < base
  · rw [waitN_bad (.inr (.inl h2))]
    go_enter Try.func75, Try.ntmps75
    go_wp2
    go_ret
    exact ⟨rfl, rfl⟩
  by_cases h3 : tries < 0
  · rw [waitN_bad (.inr (.inr h3))]
    go_enter Try.func75, Try.ntmps75
    go_wp2
    go_ret
    exact ⟨rfl, rfl⟩
  rw [waitN_ok (by omega) (by omega) (by omega)]
  obtain ⟨n, rfl⟩ : ∃ n : Nat, tries = n := ⟨tries.toNat, by omega⟩
  rw [Int.toNat_natCast]
  obtain ⟨W, hW⟩ : ∃ W, waitF most n base = W := ⟨_, rfl⟩
  rw [hW]
  have hr0 : WaitRel most n W 0 base := ⟨by omega, by omega, by omega, hW⟩
  clear hW
  go_enter Try.func75, Try.ntmps75
  go_wp2
  go_loop [7, 21] (fun x i => ∃ (k : Nat) (y : Int), i = .int .i64 (k : Int) ∧ x = .int .i64 y ∧ WaitRel most n W k y) (fun _ i => n - (intOf i).toNat)
  case atStart => exact ⟨0, base, by go_num, rfl, hr0⟩
  case round =>
    obtain ⟨k, y, rfl, rfl, hk, hy1, hy2, hy⟩ := hrel
    by_cases hlt : k < n
    · have hlz : (k : Int) < (n : Int) := by omega
      have hnk : n - k = (n - (k + 1)) + 1 := by omega
      by_cases hd : most < 2 * y
      · have hW : most = W := by rw [← hy, hnk, waitF_stop hd]
        have hdd : most / 2 < y := by omega
        subst hW
        clear hy
        go_wp2
        go_ret
        exact ⟨rfl, rfl⟩
      · have hdd : ¬ most / 2 < y := by omega
        have hr1 : WaitRel most n W (k + 1) (y * 2) := ⟨by omega, by omega, by omega, by rw [← hy, hnk, waitF_step hd, Int.mul_comm]⟩
        clear hy
        go_wp2
        go_round
        case rel => exact ⟨k + 1, y * 2, by go_num, rfl, hr1⟩
        case measure => simp [intOf]; omega
    · have hkn : k = n := by omega
      have hW : y = W := by rw [← hy, hkn, Nat.sub_self]; rfl
      have hlz : ¬ (k : Int) < (n : Int) := by omega
      subst hW
      clear hy
      go_wp2
      go_ret
      exact ⟨rfl, rfl⟩
set_option maxHeartbeats 800000 in
theorem next_any (now base most tries : Int) (w : World) (hm : most ≤ 9223372036854775807) (ht : tries ≤ 9223372036854775807) (hn : -9223372036854775808 ≤ now) (hn2 : now ≤ 9223372036854775807) :
    Calls Try.prog 63 #[.int .i64 now, .int .i64 base, .int .i64 most, .int .i64 tries] w fun e w' => e = .returned (.int .i64 (nextN now base most tries)) ∧ w' = w := by
  have hw := wait_any base most tries w hm ht
  have hb := waitN_bd base most tries
  have ht := waitN_top base most tries hm
  unfold nextN topI
  generalize waitN base most tries = d at *
  have hd0 := hb.1
  clear hb
  by_cases hlt : 9223372036854775807 - d < now
  · rw [if_pos hlt]
    have hdc : decide (9223372036854775807 - d < now) = true := decide_eq_true hlt
    go_enter Try.func63, Try.ntmps63
    go_wp2_with fail
    refine hw.mono ?_
    rintro e w' ⟨rfl, rfl⟩
    go_wp2
    go_ret
    exact ⟨rfl, rfl⟩
  · rw [if_neg hlt]
    have hs : now + d ≤ 9223372036854775807 := by omega
    have hs0 : -9223372036854775808 ≤ now + d := by omega
    have hdc : decide (9223372036854775807 - d < now) = false := decide_eq_false hlt
    go_enter Try.func63, Try.ntmps63
    go_wp2_with fail
    refine hw.mono ?_
    rintro e w' ⟨rfl, rfl⟩
    go_wp2
    go_ret
    exact ⟨rfl, rfl⟩
end Go.Proofs.Ytfgceplafjbmhaa
