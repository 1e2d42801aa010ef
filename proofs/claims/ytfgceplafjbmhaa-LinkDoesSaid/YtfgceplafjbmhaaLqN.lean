/- The document's wait and next. No condition but that the numbers are ints. -/
import Derived.Test.YtfgceplafjbmhaaWaitC
namespace Go.Proofs.Ytfgceplafjbmhaa
open Go.RowKit
set_option linter.unusedVariables false
set_option linter.unusedSimpArgs false

set_option maxHeartbeats 800000 in
theorem rwait_any (base most tries : Int) (w : World) (hm : most ≤ 9223372036854775807) (ht : tries ≤ 9223372036854775807) :
    Calls Try.prog 64 #[.int .i64 base, .int .i64 most, .int .i64 tries] w fun e w' => e = .returned (.int .i64 (waitN base most tries)) ∧ w' = w := by
  by_cases h1 : base < 1
  · rw [waitN_bad (.inl h1)]
    go_enter Try.func64, Try.ntmps64
    go_wp2
    go_ret
    exact ⟨rfl, rfl⟩
  by_cases h2 : most < base
  · rw [waitN_bad (.inr (.inl h2))]
    go_enter Try.func64, Try.ntmps64
    go_wp2
    go_ret
    exact ⟨rfl, rfl⟩
  by_cases h3 : tries < 0
  · rw [waitN_bad (.inr (.inr h3))]
    go_enter Try.func64, Try.ntmps64
    go_wp2
    go_ret
    exact ⟨rfl, rfl⟩
  rw [waitN_ok (by omega) (by omega) (by omega)]
  obtain ⟨n, rfl⟩ : ∃ n : Nat, tries = n := ⟨tries.toNat, by omega⟩
  rw [Int.toNat_natCast]
  obtain ⟨W, hW⟩ : ∃ W, waitF most n base = W := ⟨_, rfl⟩
  rw [hW]
  have hr0 : WaitRel most n W 0 base := ⟨by omega, by omega, by omega, hW⟩
  clear hW
  go_enter Try.func64, Try.ntmps64
  go_wp2
  go_loop [7, 8] (fun x i => ∃ (k : Nat) (y : Int), i = .int .i64 (k : Int) ∧ x = .int .i64 y ∧ WaitRel most n W k y) (fun _ i => n - (intOf i).toNat)
  case atStart => exact ⟨0, base, by go_num, rfl, hr0⟩
  case round =>
    obtain ⟨k, y, rfl, rfl, hk, hy1, hy2, hy⟩ := hrel
    by_cases hlt : k < n
    · have hlz : (k : Int) < (n : Int) := by omega
      have hnk : n - k = (n - (k + 1)) + 1 := by omega
      by_cases hd : most < 2 * y
      · have hW : most = W := by rw [← hy, hnk, waitF_stop hd]
        have hdd : most - y < y := by omega
        subst hW
        clear hy
        go_wp2
        go_ret
        exact ⟨rfl, rfl⟩
      · have hdd : ¬ most - y < y := by omega
        have hr1 : WaitRel most n W (k + 1) (y + y) := ⟨by omega, by omega, by omega, by rw [← hy, hnk, waitF_step hd, show 2 * y = y + y by omega]⟩
        clear hy
        go_wp2
        go_round
        case rel => exact ⟨k + 1, y + y, by go_num, rfl, hr1⟩
        case measure => simp [intOf]; omega
    · have hkn : k = n := by omega
      have hW : y = W := by rw [← hy, hkn, Nat.sub_self]; rfl
      have hlz : ¬ (k : Int) < (n : Int) := by omega
      subst hW
      clear hy
      go_wp2
      go_ret
      exact ⟨rfl, rfl⟩
theorem rnext_any (now tries : Int) (w : World) (h0 : -9223372036854775808 ≤ now) (h1 : now ≤ 9223372036854775807) (ht : tries ≤ 9223372036854775807) :
    Calls Try.prog 41 #[.int .i64 now, .int .i64 tries] w fun e w' => e = .returned (.int .i64 (nextN now 2 16 tries)) ∧ w' = w := by
  have hb := waitN_bd 2 16 tries
  have hw := rwait_any 2 16 tries w (by omega) ht
  unfold nextN topI
  obtain ⟨W, hW⟩ : ∃ W, waitN 2 16 tries = W := ⟨_, rfl⟩
  rw [hW] at hb hw ⊢
  have hb2 := hb.2 (by omega)
  by_cases hn : 9223372036854775807 - W < now
  · rw [if_pos hn]
    go_enter Try.func41, Try.ntmps41
    go_wp2_with fail
    refine hw.mono ?_
    rintro e w1 ⟨rfl, rfl⟩
    go_wp2
    go_ret
    exact ⟨rfl, rfl⟩
  · rw [if_neg hn]
    go_enter Try.func41, Try.ntmps41
    go_wp2_with fail
    refine hw.mono ?_
    rintro e w1 ⟨rfl, rfl⟩
    go_wp2
    go_ret
    exact ⟨rfl, rfl⟩
end Go.Proofs.Ytfgceplafjbmhaa
