/- How long one waits: pure, and as calls of the program. No condition but that the numbers are ints. -/
import Derived.Test.YtfgceplafjbmhaaBase
import Derived.LoopTactic
namespace Go.Proofs.Ytfgceplafjbmhaa
open Go.RowKit
set_option linter.unusedVariables false
set_option linter.unusedSimpArgs false

def waitF (most : Int) : Nat → Int → Int
  | 0, w => w
  | k + 1, w => if most < 2 * w then most else waitF most k (2 * w)
def waitN (base most tries : Int) : Int := if base < 1 ∨ most < base ∨ tries < 0 then 0 else waitF most tries.toNat base
def topI : Int := 9223372036854775807
def nextN (now base most tries : Int) : Int := if topI - waitN base most tries < now then topI else now + waitN base most tries

theorem waitF_le (most : Int) : ∀ (k : Nat) (w : Int), w ≤ most → waitF most k w ≤ most
  | 0, w, h => h
  | k + 1, w, h => by
    rw [waitF]
    split
    · exact Int.le_refl _
    · exact waitF_le most k _ (by omega)
theorem waitF_ge (most : Int) : ∀ (k : Nat) (w : Int), 0 ≤ w → w ≤ most → w ≤ waitF most k w
  | 0, w, _, h => Int.le_refl _
  | k + 1, w, h0, h => by
    rw [waitF]
    split
    · exact h
    · have := waitF_ge most k (2 * w) (by omega) (by omega)
      omega
theorem waitN_bd (base most tries : Int) : 0 ≤ waitN base most tries ∧ (0 ≤ most → waitN base most tries ≤ most) := by
  unfold waitN
  split
  · exact ⟨by omega, fun h => h⟩
  · have h1 := waitF_le most tries.toNat base (by omega)
    have h2 := waitF_ge most tries.toNat base (by omega) (by omega)
    exact ⟨by omega, fun _ => h1⟩
theorem waitN_top (base most tries : Int) (h : most ≤ 9223372036854775807) : waitN base most tries ≤ 9223372036854775807 := by
  have := waitN_bd base most tries
  by_cases h0 : 0 ≤ most
  · have := this.2 h0; omega
  · unfold waitN
    rw [if_pos (by omega)]
    omega
theorem waitN_bad {base most tries : Int} (h : base < 1 ∨ most < base ∨ tries < 0) : waitN base most tries = 0 := by unfold waitN; rw [if_pos h]
theorem waitN_ok {base most tries : Int} (h1 : 1 ≤ base) (h2 : base ≤ most) (h3 : 0 ≤ tries) : waitN base most tries = waitF most tries.toNat base := by unfold waitN; rw [if_neg (by omega)]
theorem nextN_in (now base most tries : Int) (h0 : -9223372036854775808 ≤ now) : -9223372036854775808 ≤ nextN now base most tries ∧ nextN now base most tries ≤ 9223372036854775807 := by
  have h := waitN_bd base most tries
  unfold nextN topI
  split <;> omega
end Go.Proofs.Ytfgceplafjbmhaa
