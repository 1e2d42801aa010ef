/- New, ready of nil, On, Sum. No condition. -/
import Derived.Test.YtianehamjjnhoaaReady
namespace Go.Proofs.Ytianehamjjnhoaa
open Go.RowKit
set_option linter.unusedVariables false

/-! A step is linear. -/
theorem bit1_xor (a b : Nat) : bit1 (a ^^^ b) = bit1 a ^^^ bit1 b := by
  have hd : (a ^^^ b) / 2 = a / 2 ^^^ b / 2 := by
    have := Nat.shiftRight_xor_distrib (a := a) (b := b) (i := 1)
    simpa [Nat.shiftRight_eq_div_pow] using this
  have hm : (a ^^^ b) % 2 = 1 ↔ ¬ (a % 2 = 1 ↔ b % 2 = 1) := by
    rw [Nat.xor_mod_two_eq_one]
  have hx : ∀ x y z : Nat, (x ^^^ z) ^^^ (y ^^^ z) = x ^^^ y := fun x y z => by
    rw [Nat.xor_comm y z, ← Nat.xor_assoc, Nat.xor_assoc x z z, Nat.xor_self, Nat.xor_zero]
  unfold bit1
  rw [hd]
  by_cases ha : a % 2 = 1 <;> by_cases hb : b % 2 = 1
  · rw [if_neg (by rw [hm]; simp [ha, hb]), if_pos ha, if_pos hb, hx]
  · rw [if_pos (by rw [hm]; simp [ha, hb]), if_pos ha, if_neg hb, Nat.xor_assoc, Nat.xor_comm (b / 2), ← Nat.xor_assoc]
  · rw [if_pos (by rw [hm]; simp [ha, hb]), if_neg ha, if_pos hb, Nat.xor_assoc]
  · rw [if_neg (by rw [hm]; simp [ha, hb]), if_neg ha, if_neg hb]
theorem bitN_xor (k a b : Nat) : bitN k (a ^^^ b) = bitN k a ^^^ bitN k b := by
  induction k with
  | zero => rfl
  | succ k ih => rw [bitN, ih, bit1_xor]; rfl
theorem bit1_even (h : Nat) : bit1 (2 * h) = h := by
  unfold bit1
  rw [if_neg (by omega)]
  omega
theorem bitN_shift (k h : Nat) : bitN k (2 ^ k * h) = h := by
  induction k generalizing h with
  | zero => simp [bitN]
  | succ k ih => rw [bitN, show 2 ^ (k + 1) * h = 2 ^ k * (2 * h) by rw [Nat.pow_succ, Nat.mul_assoc], ih, bit1_even]
theorem split8 (s : Nat) : s = (s % 256) ^^^ (2 ^ 8 * (s / 256)) := by
  apply Nat.eq_of_testBit_eq
  intro i
  rw [Nat.testBit_xor, Nat.testBit_two_pow_mul, show (256 : Nat) = 2 ^ 8 from rfl, Nat.testBit_mod_two_pow, Nat.testBit_div_two_pow]
  by_cases hi : i < 8
  · simp [hi, show ¬ 8 ≤ i by omega]
  · simp [hi, show 8 ≤ i by omega, show i - 8 + 8 = i by omega]
/-- A step by the table. -/
theorem step_table (s x : Nat) : step s x = step 0 ((s % 256) ^^^ x) ^^^ s / 256 := by
  unfold step
  conv => lhs; rw [split8 s]
  rw [Nat.xor_assoc, Nat.xor_comm (2 ^ 8 * (s / 256)) x, ← Nat.xor_assoc, bitN_xor, bitN_shift, Nat.zero_xor]

theorem zeros_are : Try.zeroCells62 = #[.int .u32 0, .int .i32 0] ++ Array.replicate 257 (.int .u32 0) := by kernel_rfl
set_option maxRecDepth 100000 in
set_option maxHeartbeats 1600000 in
theorem new_any (w : World) :
    Calls Try.prog 11 #[] w fun e w' => e = .returned (.pointer (some ⟨w.heap.size, 0, none⟩)) ∧ Keep (fun _ => False) w w' ∧ TB w' w.heap.size 0 0 (fun _ => 0) := by
  go_enter Try.func11, Try.ntmps11
  go_wp2_with fail
  go_ret
  refine ⟨rfl, (Keep.refl _ _).alloc _, _, Blk.new _ _ _, ?_, ?_, fun j hj => ?_⟩ <;> rw [zeros_are]
  · rfl
  · rfl
  · rw [Array.getElem?_append_right (by simp; omega)]
    simp [Array.getElem?_replicate]
    omega
end Go.Proofs.Ytianehamjjnhoaa
