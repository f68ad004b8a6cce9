/- The deferred call of GrowthAll: it finds what weather that is not valid panics with, or nothing. -/
import Derived.Test.YtlfmadnhjleofaaZB
import Derived.RecoverIn
import Derived.RangeFuncLeaves
import Derived.Laws.Pointers
namespace Go.Proofs.Ytlfmadnhjleofaa
open Go.RowKit
set_option linter.unusedVariables false


end Go.Proofs.Ytlfmadnhjleofaa
