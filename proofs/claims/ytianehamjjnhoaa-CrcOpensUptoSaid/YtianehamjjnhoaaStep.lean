/- The contracts of a step of a sum: the program's and the document's. No condition. -/
import Derived.Test.YtianehamjjnhoaaBase
namespace Go.Proofs.Ytianehamjjnhoaa
open Go.RowKit
set_option linter.unusedVariables false

/-- One bit of a step. -/
def bit1 (s : Nat) : Nat := if s % 2 = 1 then s / 2 ^^^ 2197175160 else s / 2
def bitN : Nat → Nat → Nat
  | 0, s => s
  | k + 1, s => bit1 (bitN k s)
/-- A step of a sum with a byte. -/
def step (s : Nat) (b : Nat) : Nat := bitN 8 (s ^^^ b)

theorem xor_lt32 {a b : Nat} (ha : a < 4294967296) (hb : b < 4294967296) : a ^^^ b < 4294967296 := Nat.xor_lt_two_pow (n := 32) ha hb
theorem bit1_lt {s : Nat} (h : s < 4294967296) : bit1 s < 4294967296 := by
  unfold bit1
  split
  · exact xor_lt32 (by omega) (by omega)
  · omega
theorem bitN_lt {s : Nat} (h : s < 4294967296) : ∀ k, bitN k s < 4294967296
  | 0 => h
  | k + 1 => bit1_lt (bitN_lt h k)
theorem step_lt {s b : Nat} (h : s < 4294967296) (hb : b < 256) : step s b < 4294967296 := bitN_lt (xor_lt32 h (by omega)) 8

theorem and_one (s : Nat) (h : s < 4294967296) : bits .and .u32 (s : Int) 1 = ((s % 2 : Nat) : Int) := by
  have := u32_and_nat s 1 h (by omega)
  rw [Nat.and_one_is_mod] at this
  exact this
theorem xor_turn (s : Nat) (h : s < 4294967296) : bits .xor .u32 (s : Int) 2197175160 = ((s ^^^ 2197175160 : Nat) : Int) := u32_xor_nat s 2197175160 h (by omega)

set_option maxRecDepth 100000 in
set_option maxHeartbeats 800000 in
theorem step_any (s b : Nat) (w : World) (hs : s < 4294967296) (hb : b < 256) :
    Calls Try.prog 16 #[.int .u32 (s : Int), .int .u8 (b : Int)] w fun e w' => e = .returned (.int .u32 (step s b : Int)) ∧ w = w' := by
  have hx := u32_xor_nat s b hs (by omega)
  go_enter Try.func16, Try.ntmps16
  go_wp2_with fail
  go_loop [0, 10] (fun x i => ∃ k : Nat, k ≤ 8 ∧ i = .int .i64 (k : Int) ∧ ∃ q : Nat, q < 4294967296 ∧ Hid (q = bitN k (s ^^^ b)) ∧ x = .int .u32 (q : Int)) (fun _ i => 8 - (intOf i).toNat)
  case atStart => exact ⟨0, by omega, rfl, s ^^^ b, xor_lt32 hs (by omega), Lib.hid rfl, by rw [← hx]⟩
  case round =>
    obtain ⟨k, hk, rfl, q, hq, hqe, rfl⟩ := hrel
    by_cases hlt : k < 8
    · have ha := and_one q hq
      have hx2 := xor_turn (q / 2) (by omega)
      by_cases ho : q % 2 = 1
      · have hd : (((q % 2 : Nat) : Int) == 1) = true := by simp [ho]
        have HO := Lib.hid ho
        clear ho
        go_wp2
        go_round
        case rel => exact ⟨k + 1, by omega, by go_num, q / 2 ^^^ 2197175160, xor_lt32 (by omega) (by omega), Lib.hid (by rw [bitN, ← hqe.out, bit1, if_pos HO.out]), by rw [← hx2]; rfl⟩
        case measure => simp [intOf]; omega
      · have hd : (((q % 2 : Nat) : Int) == 1) = false := by simp; omega
        have HO := Lib.hid ho
        clear ho
        go_wp2
        go_round
        case rel => exact ⟨k + 1, by omega, by go_num, q / 2, by omega, Lib.hid (by rw [bitN, ← hqe.out, bit1, if_neg HO.out]), by go_num⟩
        case measure => simp [intOf]; omega
    · obtain rfl : k = 8 := by omega
      go_wp2
      go_ret
      exact ⟨by rw [hqe.out]; rfl, rfl⟩

set_option maxRecDepth 100000 in
set_option maxHeartbeats 800000 in
theorem refStep_any (s b : Nat) (w : World) (hs : s < 4294967296) (hb : b < 256) :
    Calls Try.prog 17 #[.int .u32 (s : Int), .int .u8 (b : Int)] w fun e w' => e = .returned (.int .u32 (step s b : Int)) ∧ w = w' := by
  have hx := u32_xor_nat s b hs (by omega)
  go_enter Try.func17, Try.ntmps17
  go_wp2_with fail
  go_loop [0, 5] (fun x i => ∃ k : Nat, k ≤ 8 ∧ i = .int .i64 (k : Int) ∧ ∃ q : Nat, q < 4294967296 ∧ Hid (q = bitN k (s ^^^ b)) ∧ x = .int .u32 (q : Int)) (fun _ i => 8 - (intOf i).toNat)
  case atStart => exact ⟨0, by omega, rfl, s ^^^ b, xor_lt32 hs (by omega), Lib.hid rfl, by rw [← hx]⟩
  case round =>
    obtain ⟨k, hk, rfl, q, hq, hqe, rfl⟩ := hrel
    by_cases hlt : k < 8
    · have hx2 := xor_turn (q / 2) (by omega)
      by_cases ho : q % 2 = 1
      · have hd : ((q : Int) % 2 == 1) = true := by simp; omega
        have HO := Lib.hid ho
        clear ho
        go_wp2
        go_round
        case rel => exact ⟨k + 1, by omega, by go_num, q / 2 ^^^ 2197175160, xor_lt32 (by omega) (by omega), Lib.hid (by rw [bitN, ← hqe.out, bit1, if_pos HO.out]), by rw [← hx2]; rfl⟩
        case measure => simp [intOf]; omega
      · have hd : ((q : Int) % 2 == 1) = false := by simp; omega
        have HO := Lib.hid ho
        clear ho
        go_wp2
        go_round
        case rel => exact ⟨k + 1, by omega, by go_num, q / 2, by omega, Lib.hid (by rw [bitN, ← hqe.out, bit1, if_neg HO.out]), by go_num⟩
        case measure => simp [intOf]; omega
    · obtain rfl : k = 8 := by omega
      go_wp2
      go_ret
      exact ⟨by rw [hqe.out]; rfl, rfl⟩

/-- A sum turned round. -/
def flip (s : Nat) : Nat := 4294967295 ^^^ s
theorem flip_lt {s : Nat} (h : s < 4294967296) : flip s < 4294967296 := xor_lt32 (by omega) h
theorem turned_back (m s : Nat) : m ^^^ (m ^^^ s) = s := by rw [← Nat.xor_assoc, Nat.xor_self, Nat.zero_xor]
theorem flip_def (s : Nat) : flip s = 4294967295 ^^^ s := rfl
theorem flip_flip (s : Nat) : flip (flip s) = s := (flip_def (flip s)).trans ((congrArg (4294967295 ^^^ ·) (flip_def s)).trans (turned_back 4294967295 s))
theorem u32_max : IntKind.u32.max = ((4294967295 : Nat) : Int) := by simp [IntKind.max, IntKind.bits, IntKind.signed]
theorem flip_bits (s : Nat) (h : s < 4294967296) : bits .xor .u32 IntKind.u32.max (s : Int) = (flip s : Int) := by
  rw [u32_max]
  exact u32_xor_nat 4294967295 s (by omega) h
/-- Steps with all bytes. -/
def steps (s : Nat) (l : List UInt8) : Nat := l.foldl (fun q x => step q x.toNat) s
theorem steps_lt {s : Nat} (h : s < 4294967296) (l : List UInt8) : steps s l < 4294967296 := by
  induction l generalizing s with
  | nil => exact h
  | cons x l ih => exact ih (step_lt h x.toNat_lt)
theorem steps_snoc (s : Nat) (l : List UInt8) (x : UInt8) : steps s (l ++ [x]) = step (steps s l) x.toNat := by simp [steps]
/-- The sum of bytes, gone on from s. -/
def sumOn (s : Nat) (l : List UInt8) : Nat := flip (steps (flip s) l)

set_option maxRecDepth 100000 in
set_option maxHeartbeats 800000 in
theorem refOn_any (s : Nat) (A : Option Addr) (n c : Nat) (l : List UInt8) (w : World) (hs : s < 4294967296) (hr : RB w A n l) (hn : n ≤ 9223372036854775807) :
    Calls Try.prog 14 #[.int .u32 (s : Int), .slice A n c] w fun e w' => e = .returned (.int .u32 (sumOn s l : Int)) ∧ w = w' := by
  go_enter Try.func14, Try.ntmps14
  have hl := hr.1
  have hf := flip_bits s hs
  have hsg : IntKind.u32.signed = false := rfl
  go_wp2_with fail
  go_loop [0, 5] (fun x i => ∃ k : Nat, k ≤ n ∧ i = .int .i64 (k : Int) ∧ ∃ q : Nat, q < 4294967296 ∧ Hid (q = steps (flip s) (l.take k)) ∧ x = .int .u32 (q : Int)) (fun _ i => n - (intOf i).toNat)
  case atStart => exact ⟨0, by omega, rfl, flip s, flip_lt hs, Lib.hid rfl, by first | rfl | rw [hf]⟩
  case round =>
    obtain ⟨k, hk, rfl, q, hq, hqe, rfl⟩ := hrel
    by_cases hlt : k < n
    · obtain ⟨b, off, rfl, _, hcell⟩ := hr.place (by omega)
      obtain ⟨x, hx, hc⟩ := hcell k hlt
      clear hcell
      go_wp2_with fail
      refine (refStep_any q x.toNat w hq x.toNat_lt).mono ?_
      rintro e w' ⟨rfl, rfl⟩
      go_wp2_with fail
      go_round
      case rel => exact ⟨k + 1, by omega, by go_num, step q x.toNat, step_lt hq x.toNat_lt, Lib.hid (by rw [List.take_add_one, hx.out, hqe.out]; exact (steps_snoc _ _ _).symm), rfl⟩
      case measure => simp [intOf]; omega
    · obtain rfl : k = n := by omega
      have hfq := flip_bits q hq
      have hse : flip q = sumOn s l := by rw [hqe.out, List.take_of_length_le (by omega)]; rfl
      clear hqe
      rw [hse] at hfq
      go_wp2
      go_ret
      exact ⟨rfl, rfl⟩
end Go.Proofs.Ytianehamjjnhoaa
