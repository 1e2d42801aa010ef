/- Of one good; what both have, the rest: as the document has them. No condition but that the lists are ones of memory. -/
import Derived.Test.YtjjghhhhalendaaGreatZf
namespace Go.Proofs.YtjjghhhhalendaaGreat
open Go.RowKit Go.Maps Go.Shelf Go.Sort
set_option linter.unusedVariables false
set_option linter.unusedSimpArgs false

theorem ofL_take {l : List It} {k : Nat} {x : It} (g : List UInt8) (hx : l[k]? = some x) : ofL (l.take (k + 1)) g = if x.1 = g then wrap64 (ofL (l.take k) g + x.2) else ofL (l.take k) g := by
  rw [List.take_add_one, hx]
  exact ofL_snoc _ _ _
end Go.Proofs.YtjjghhhhalendaaGreat
