/- May a list be, as the document has it. No condition but that the list is one of memory. -/
import Derived.Test.YtfpcnenohidfpaaGreatSame6
namespace Go.Proofs.YtfpcnenohidfpaaGreat
open Go.RowKit Go.Maps Go.Shelf Go.Sort
set_option linter.unusedVariables false
set_option linter.unusedSimpArgs false

theorem take_last {l : List It} {p : Nat} {x : It} (h : l[p]? = some x) : ((l.take (p + 1)).getLast?.map (·.1)).getD [] = x.1 := by
  rw [List.take_add_one, h]
  simp
theorem may_step {l : List It} {k : Nat} {x : It} {last : List UInt8} (hx : l[k]? = some x) (hm : mayFrom [] (l.take k) = true) (hl : ((l.take k).getLast?.map (·.1)).getD [] = last) : mayFrom [] (l.take (k + 1)) = okAt last x := by
  rw [List.take_add_one, hx]
  simp only [Option.toList]
  rw [mayFrom_snoc, hm, hl]
  simp
theorem may_bad {l : List It} {k : Nat} (h : mayFrom [] (l.take k) = false) : mayL l = false := by
  unfold mayL
  rw [mayFrom_not (List.take_prefix _ _) h]
  simp
theorem gOK_pos {s : List UInt8} (h : gOK s = true) : ¬ s ≤ [] := by
  cases s with
  | nil => simp [gOK] at h
  | cons a s => exact fun h => by simpa using (List.not_lt.2 h) (by simp)

end Go.Proofs.YtfpcnenohidfpaaGreat
