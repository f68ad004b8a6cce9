/- codeOf: the code of each error. -/
import Derived.Test.YtaeenkjbmlgcmaaIs
import Derived.Test.YtaeenkjbmlgcmaaZA
namespace Go.Proofs.Ytaeenkjbmlgcmaa
open Go.RowKit
set_option linter.unusedVariables false


end Go.Proofs.Ytaeenkjbmlgcmaa
