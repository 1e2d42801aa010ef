/- What the laws of order and of parts share: the reference's answers, and what is kept. No condition. -/
import Derived.Test.YtfpcnenohidfpaaGreatOrd
namespace Go.Proofs.YtfpcnenohidfpaaGreat
open Go.RowKit
set_option linter.unusedVariables false
theorem below_drewN (w : World) (q : Nat) : Below w.heap.size w (w.drewN q) := by
  have h := Below.refl w.heap.size w
  exact ⟨h.1, h.2, h.3, h.4, h.5⟩
theorem WL.meet {a b : List It} (h : WL a) : WL (meetL a b) := fun x hx => by
  unfold meetL at hx
  cases hm : (mayL a && mayL b) with
  | false =>
    rw [hm] at hx
    exact absurd hx (by simp [ifMay])
  | true =>
    rw [hm] at hx
    obtain ⟨y, hy, _, rfl⟩ := mem_left.1 hx
    exact ⟨(h y hy).1, h.min b y hy⟩
theorem WL.rest {a b : List It} (h : WL a) : WL (restL a b) := fun x hx => by
  unfold restL at hx
  cases hm : (mayL a && mayL b) with
  | false =>
    rw [hm] at hx
    exact absurd hx (by simp [ifMay])
  | true =>
    rw [hm] at hx
    obtain ⟨y, hy, _, rfl⟩ := mem_left.1 hx
    exact ⟨(h y hy).1, h.max b y hy⟩
end Go.Proofs.YtfpcnenohidfpaaGreat
