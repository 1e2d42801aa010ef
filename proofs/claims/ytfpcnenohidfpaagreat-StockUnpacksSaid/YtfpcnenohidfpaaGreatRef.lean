/- The contracts of the document's maker. No condition. -/
import Derived.Test.YtfpcnenohidfpaaGreatLink
namespace Go.Proofs.YtfpcnenohidfpaaGreat
open Go.RowKit
set_option linter.unusedVariables false

def rst (l : List UInt8) (long : Bool) : Option (List UInt8) := if long then none else some l

end Go.Proofs.YtfpcnenohidfpaaGreat
