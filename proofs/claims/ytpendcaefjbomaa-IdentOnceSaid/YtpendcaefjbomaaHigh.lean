/- Numbers as bytes, the highest first: high, ref low. No condition. -/
import Derived.Test.YtpendcaefjbomaaBase
namespace Go.Proofs.Ytpendcaefjbomaa
open Go.RowKit
set_option linter.unusedVariables false

/-- Bytes as a number, the highest first. -/
def hval (l : List UInt8) : Nat := l.foldl (fun n x => n * 256 + x.toNat) 0
theorem hval_snoc (l : List UInt8) (x : UInt8) : hval (l ++ [x]) = hval l * 256 + x.toNat := by simp [hval]
theorem hor_byte (V : Nat) (x : UInt8) (hV : V < 256 ^ 7) : bits .or .u64 ((V : Int) * 256) (x.toNat : Int) = ((V * 256 + x.toNat : Nat) : Int) := by
  have hx := x.toNat_lt
  have h := u64_or_nat (V * 256) x.toNat (by omega) (by omega)
  rw [show V * 256 = 2 ^ 8 * V by omega, ← Nat.two_pow_add_eq_or_of_lt (i := 8) hx V] at h
  rw [show ((2 ^ 8 * V : Nat) : Int) = (V : Int) * 256 by omega] at h
  rw [h]
  omega

end Go.Proofs.Ytpendcaefjbomaa
