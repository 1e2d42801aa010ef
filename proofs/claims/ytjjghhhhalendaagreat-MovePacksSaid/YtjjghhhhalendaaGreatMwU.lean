/- The document's moves: Under; Same of two moves. No condition but that they lie in memory. -/
import Derived.Test.YtjjghhhhalendaaGreatMwF
import Derived.Test.YtjjghhhhalendaaGreatRNorm
import Derived.Test.YtjjghhhhalendaaGreatRgT
namespace Go.Proofs.YtjjghhhhalendaaGreat
open Go.RowKit Go.Shelf
set_option linter.unusedVariables false
set_option linter.unusedSimpArgs false

/-- The sums over rows, up to the first that is refused. -/
def underW (fr to : Int) : List Rec → List It → List It
  | [], acc => acc
  | r :: rs, acc => match onWay r fr to with
    | false => underW fr to rs acc
    | true => if plusE acc r.l.l = 0 then underW fr to rs (plusR acc r.l.l) else acc
theorem my_long {l : List It} (h : MY l) : ∀ x ∈ l, x.1.length ≤ 9223372036854775807 := fun x hx => by
  have := (my_wl h x hx).1
  simp only [maxLen] at this
  omega
theorem drop_at {l : List Rec} {k : Nat} {x : Rec} (h : l[k]? = some x) : l.drop k = x :: l.drop (k + 1) := by
  obtain ⟨hk, rfl⟩ := List.getElem?_eq_some_iff.1 h
  exact List.drop_eq_getElem_cons hk
end Go.Proofs.YtjjghhhhalendaaGreat
