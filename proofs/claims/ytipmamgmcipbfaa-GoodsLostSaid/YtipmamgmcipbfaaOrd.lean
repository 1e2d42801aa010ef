/- Lists that may be: what covers what; the same lists. No condition. -/
import Derived.Test.YtipmamgmcipbfaaIOpen
namespace Go.Proofs.Ytipmamgmcipbfaa
open Go.RowKit
set_option linter.unusedVariables false
set_option linter.unusedSimpArgs false

/-- Goods rise; each number is above 0 and not too great. -/
structure MY (l : List It) : Prop where
  rise : (l.map (·.1)).Pairwise (fun a b => a < b)
  num : ∀ x ∈ l, 1 ≤ x.2 ∧ x.2 ≤ 1099511627776
  good : ∀ x ∈ l, gOK x.1 = true
  len : l.length ≤ 16
theorem MY.of_ {l : List It} (h : mayL l = true) : MY l := by
  obtain ⟨h1, h2⟩ := mayL_from h
  have key : ∀ (l : List It) (last : List UInt8), mayFrom last l = true → ∀ x ∈ l, (1 ≤ x.2 ∧ x.2 ≤ 1099511627776) ∧ gOK x.1 = true := by
    intro l
    induction l with
    | nil => intro _ _ x hx; simp at hx
    | cons y l ih =>
      intro last h x hx
      rw [mayFrom, Bool.and_eq_true] at h
      rcases List.mem_cons.1 hx with rfl | hx
      · have := h.1
        simp [okAt, cMay] at this
        exact ⟨⟨by omega, this.2.2⟩, this.1.1.1⟩
      · exact ih _ h.2 x hx
  exact ⟨(rising_pairwise l [] h2).1, fun x hx => (key l [] h2 x hx).1, fun x hx => (key l [] h2 x hx).2, h1⟩
end Go.Proofs.Ytipmamgmcipbfaa
