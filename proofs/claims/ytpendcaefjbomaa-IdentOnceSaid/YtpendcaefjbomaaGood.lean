/- Good, May and what the document says of them. No condition. -/
import Derived.Test.YtpendcaefjbomaaOver
namespace Go.Proofs.Ytpendcaefjbomaa
open Go.RowKit Go.Maps Go.Shelf
set_option linter.unusedVariables false
set_option linter.unusedSimpArgs false

theorem cMay_iff (n : Int) : cMay n = true ↔ 0 ≤ n ∧ n ≤ 1099511627776 := by simp [cMay]
theorem cMay_not (n : Int) : cMay n = false ↔ n < 0 ∨ 1099511627776 < n := by
  unfold cMay
  simp
  omega
theorem str_size (l : List UInt8) : (⟨l.toArray⟩ : ByteArray).size = l.length := by simp [ByteArray.size]
theorem str_get (l : List UInt8) (k : Nat) (h : k < (⟨l.toArray⟩ : ByteArray).size) : (⟨l.toArray⟩ : ByteArray)[k]'h = l[k]'(by rw [str_size] at h; exact h) := rfl
theorem good_take (s : List UInt8) (k : Nat) (h : k < s.length) (ha : (s.take k).all letOK = true) : (s.take (k + 1)).all letOK = letOK s[k] := by
  rw [List.take_add_one, List.getElem?_eq_getElem h, List.all_append, ha]
  simp
theorem all_bad (s : List UInt8) (k : Nat) (h : k < s.length) (hb : letOK s[k] = false) : s.all letOK = false := by
  rw [List.all_eq_false]
  exact ⟨s[k], List.getElem_mem h, by simp [hb]⟩

/-! The document's. -/
end Go.Proofs.Ytpendcaefjbomaa
