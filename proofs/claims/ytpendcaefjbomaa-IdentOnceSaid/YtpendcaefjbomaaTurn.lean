/- A word turned: the document's turn and math/bits' RotateLeft64. No condition. -/
import Derived.Test.YtpendcaefjbomaaBase
namespace Go.Proofs.Ytpendcaefjbomaa
open Go.RowKit
set_option linter.unusedVariables false

/-- A word turned by n bits. -/
def rot (x n : Nat) : Nat := (x * 2 ^ n % 18446744073709551616) ||| (x / 2 ^ (64 - n))
theorem rot_lt {x : Nat} (n : Nat) (h : x < 18446744073709551616) : rot x n < 18446744073709551616 :=
  Nat.or_lt_two_pow (n := 64) (Nat.mod_lt _ (by decide)) (Nat.lt_of_le_of_lt (Nat.div_le_self _ _) h)
theorem rot_or (x n : Nat) (h : x < 18446744073709551616) : bits .or .u64 (IntKind.u64.wrap ((x : Int) * 2 ^ n)) ((x : Int) / 2 ^ (64 - n)) = ((rot x n : Nat) : Int) := by
  have e1 : IntKind.u64.wrap ((x : Int) * 2 ^ n) = ((x * 2 ^ n % 18446744073709551616 : Nat) : Int) := by
    rw [IntKind.wrap_u64, Int.natCast_emod, Int.natCast_mul, Int.natCast_pow]
    rfl
  have e2 : (x : Int) / 2 ^ (64 - n) = ((x / 2 ^ (64 - n) : Nat) : Int) := by
    rw [Int.natCast_ediv, Int.natCast_pow]
    rfl
  rw [e1, e2]
  exact u64_or_nat _ _ (Nat.mod_lt _ (by decide)) (Nat.lt_of_le_of_lt (Nat.div_le_self _ _) h)

set_option maxRecDepth 100000 in
theorem turn_any (x n : Nat) (w : World) (hx : x < 18446744073709551616) (hn : 0 < n) (hn2 : n < 64) :
    Calls Try.prog 67 #[.int .u64 (x : Int), .int .i64 (n : Int)] w fun e w' => e = .returned (.int .u64 (rot x n : Int)) ∧ Keep (fun _ => False) w w' := by
  have ho := rot_or x n hx
  go_enter Try.func67, Try.ntmps67
  go_wp2
  go_region
  go_wp2
  go_ret
  exact ⟨rfl, (Keep.refl _ _).drewN _⟩

set_option maxRecDepth 100000 in
theorem rotate_any (x n : Nat) (w : World) (hx : x < 18446744073709551616) (hn : 0 < n) (hn2 : n < 64) :
    Calls Try.prog 78 #[.int .u64 (x : Int), .int .i64 (n : Int)] w fun e w' => e = .returned (.int .u64 (rot x n : Int)) ∧ w = w' := by
  have ho := rot_or x n hx
  have ha : bits .and .u64 (n : Int) 63 = (n : Int) := by
    rw [show (63 : Int) = ((63 : Nat) : Int) from rfl, u64_and_nat n 63 (by omega) (by omega), show (63 : Nat) = 2 ^ 6 - 1 from rfl, Nat.and_two_pow_sub_one_eq_mod, Nat.mod_eq_of_lt (by omega)]
  go_enter Try.func78, Try.ntmps78
  go_wp2
  go_ret
  exact ⟨rfl, rfl⟩
end Go.Proofs.Ytpendcaefjbomaa
