/- errors.Is at errors of errors.New's make: by Go's own text. -/
import Derived.Test.YtaeenkjbmlgcmaaChecked
import Derived.WalkKit
import Derived.LaidEql
import Derived.Stop.Asserts
import Derived.RowKitTokens
namespace Go.Proofs.Ytaeenkjbmlgcmaa
open Go.RowKit Go.Extern.Stop Go.Stop Go.Extern
set_option linter.unusedVariables false

/-- How many package-level variables there are, as the handle of a type says it. -/
def isBlk : Nat := 5


end Go.Proofs.Ytaeenkjbmlgcmaa
