/- Of, Total; the smaller, the greater; both lists may be. No condition but that the lists are ones of memory. -/
import Derived.Test.YtipmamgmcipbfaaMayI
namespace Go.Proofs.Ytipmamgmcipbfaa
open Go.RowKit Go.Maps Go.Shelf
set_option linter.unusedVariables false
set_option linter.unusedSimpArgs false
attribute [local go_sem] Oper.semAt_some

end Go.Proofs.Ytipmamgmcipbfaa
