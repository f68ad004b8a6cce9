/- The deferred call of GrowthAll: it finds what weather that is not valid panics with, or nothing. -/
import Derived.Test.YthpfejbigdjhlaaZB
import Derived.RecoverIn
import Derived.RangeFuncLeaves
import Derived.Laws.Pointers
namespace Go.Proofs.Ythpfejbigdjhlaa
open Go.RowKit
set_option linter.unusedVariables false


end Go.Proofs.Ythpfejbigdjhlaa
