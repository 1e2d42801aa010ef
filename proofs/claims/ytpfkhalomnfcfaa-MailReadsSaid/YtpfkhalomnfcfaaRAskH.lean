/- The reference's 'has' at a letter that is given as a number. No condition. -/
import Derived.Test.YtpfkhalomnfcfaaAOpen
import Derived.Deep.RegionHeld3
namespace Go.Proofs.Ytpfkhalomnfcfaa
open Go.RowKit
set_option linter.unusedVariables false

theorem rhas1_at (k : Int) (c : UInt8) (n : Int) (b : Bool) (hn : (c.toNat : Int) = n) (h : hasB (hasL k) c = b) (w : World) : Calls Try.prog 68 #[.int .i64 k, .int .u8 n] w fun e w' => e = .returned (.bool b) ∧ Below w.heap.size w w' := by
  have := rhas1_any k c w
  rw [hn, h] at this
  exact this
end Go.Proofs.Ytpfkhalomnfcfaa
