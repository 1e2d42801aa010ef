/- What the laws of order and of parts share: the reference's answers, and what is kept. No condition. -/
import Derived.Test.YtpfkhalomnfcfaaIOpen
namespace Go.Proofs.Ytpfkhalomnfcfaa
open Go.RowKit
set_option linter.unusedVariables false
theorem below_drewN (w : World) (q : Nat) : Below w.heap.size w (w.drewN q) := by
  have h := Below.refl w.heap.size w
  exact ⟨h.1, h.2, h.3, h.4, h.5⟩
theorem refmay_b (A : Option Addr) (n c : Nat) (l : List It) (w : World) (hl : IL w A n l) (hn : n ≤ 9223372036854775807) (hs : ∀ x ∈ l, x.1.length ≤ 9223372036854775807) :
    Calls Try.prog 32 #[.slice A n c] w fun e w' => e = .returned (.bool (mayL l)) ∧ Below w.heap.size w w' :=
  (refmay_any A n c l w hl hn hs).mono fun e w' ⟨h, q, hq⟩ => ⟨h, by rw [hq]; exact below_drewN w q⟩
theorem same_b (A A' : Option Addr) (n c n' c' : Nat) (l l' : List It) (w : World) (hl : IL w A n l) (hl' : IL w A' n' l') (hn : n ≤ 9223372036854775807) :
    Calls Try.prog 47 #[.slice A n c, .slice A' n' c'] w fun e w' => e = .returned (.bool (decide (l = l'))) ∧ Below w.heap.size w w' :=
  (same_any A A' n c n' c' l l' w hl hl' hn).mono fun e w' ⟨h, q, hq⟩ => ⟨h, by rw [hq]; exact below_drewN w q⟩
end Go.Proofs.Ytpfkhalomnfcfaa
