/- Numbers as bytes, the highest first: high, ref low. No condition. -/
import Derived.Test.YtianehamjjnhoaaBase
namespace Go.Proofs.Ytianehamjjnhoaa
open Go.RowKit
set_option linter.unusedVariables false

/-- Bytes as a number, the highest first. -/
def hval (l : List UInt8) : Nat := l.foldl (fun n x => n * 256 + x.toNat) 0
theorem hval_snoc (l : List UInt8) (x : UInt8) : hval (l ++ [x]) = hval l * 256 + x.toNat := by simp [hval]
theorem hor_byte (V : Nat) (x : UInt8) (hV : V < 256 ^ 7) : bits .or .u64 ((V : Int) * 256) (x.toNat : Int) = ((V * 256 + x.toNat : Nat) : Int) := by
  have hx := x.toNat_lt
  have h := u64_or_nat (V * 256) x.toNat (by omega) (by omega)
  rw [show V * 256 = 2 ^ 8 * V by omega, ← Nat.two_pow_add_eq_or_of_lt (i := 8) hx V] at h
  rw [show ((2 ^ 8 * V : Nat) : Int) = (V : Int) * 256 by omega] at h
  rw [h]
  omega

set_option maxRecDepth 100000 in
set_option maxHeartbeats 800000 in
theorem high_any (A : Option Addr) (n c : Nat) (l : List UInt8) (w : World) (hr : RB w A n l) (hn : n ≤ 8) :
    Calls Try.prog 29 #[.slice A n c] w fun e w' => e = .returned (.int .u64 (hval l : Int)) ∧ w = w' := by
  have hl := hr.1
  go_enter Try.func29, Try.ntmps29
  go_wp2_with fail
  go_loop [3, 8] (fun m i => ∃ k : Nat, k ≤ n ∧ i = .int .i64 (k : Int) ∧ ∃ V : Nat, V < 256 ^ k ∧ Hid (V = hval (l.take k)) ∧ m = .int .u64 (V : Int)) (fun _ i => n - (intOf i).toNat)
  case atStart => exact ⟨0, Nat.zero_le _, rfl, 0, by simp, Lib.hid (by simp [hval]), rfl⟩
  case round =>
    obtain ⟨k, hk, rfl, V, hV, hVe, rfl⟩ := hrel
    by_cases hlt : k < n
    · obtain ⟨b, off, rfl, _, hcell⟩ := hr.place (by omega)
      obtain ⟨x, hx, hcx⟩ := hcell k hlt
      have hV7 : V < 256 ^ 7 := Nat.lt_of_lt_of_le hV (Nat.pow_le_pow_right (by decide) (by omega))
      have hxl := x.toNat_lt
      clear hcell
      go_wp2
      go_round
      case rel => exact ⟨k + 1, by omega, by go_num, V * 256 + x.toNat, by rw [Nat.pow_succ]; omega, Lib.hid (by rw [List.take_add_one, hx.out, hVe.out]; exact (hval_snoc _ _).symm), by rw [hor_byte V x hV7]⟩
      case measure => simp [intOf]; omega
    · obtain rfl : k = n := by omega
      go_wp2
      go_ret
      exact ⟨by rw [hVe.out, List.take_of_length_le (by omega)]; rfl, rfl⟩

set_option maxRecDepth 100000 in
set_option maxHeartbeats 800000 in
theorem low_any (A : Option Addr) (n c : Nat) (l : List UInt8) (w : World) (hr : RB w A n l) (hn : n ≤ 8) :
    Calls Try.prog 30 #[.slice A n c] w fun e w' => e = .returned (.int .u64 (hval l : Int)) ∧ w = w' := by
  have hl := hr.1
  go_enter Try.func30, Try.ntmps30
  go_wp2_with fail
  go_loop [3, 4] (fun m i => ∃ k : Nat, k ≤ n ∧ i = .int .i64 (k : Int) ∧ ∃ V : Nat, V < 256 ^ k ∧ Hid (V = hval (l.take k)) ∧ m = .int .u64 (V : Int)) (fun _ i => n - (intOf i).toNat)
  case atStart => exact ⟨0, Nat.zero_le _, rfl, 0, by simp, Lib.hid (by simp [hval]), rfl⟩
  case round =>
    obtain ⟨k, hk, rfl, V, hV, hVe, rfl⟩ := hrel
    by_cases hlt : k < n
    · obtain ⟨b, off, rfl, _, hcell⟩ := hr.place (by omega)
      obtain ⟨x, hx, hcx⟩ := hcell k hlt
      have hV7 : V < 256 ^ 7 := Nat.lt_of_lt_of_le hV (Nat.pow_le_pow_right (by decide) (by omega))
      have hxl := x.toNat_lt
      clear hcell
      go_wp2
      go_round
      case rel => exact ⟨k + 1, by omega, by go_num, V * 256 + x.toNat, by rw [Nat.pow_succ]; omega, Lib.hid (by rw [List.take_add_one, hx.out, hVe.out]; exact (hval_snoc _ _).symm), by rw [hor_byte V x hV7]⟩
      case measure => simp [intOf]; omega
    · obtain rfl : k = n := by omega
      go_wp2
      go_ret
      exact ⟨by rw [hVe.out, List.take_of_length_le (by omega)]; rfl, rfl⟩
end Go.Proofs.Ytianehamjjnhoaa
