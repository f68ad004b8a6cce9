/- DifferIn of the model. -/
import Derived.Test.YtgmahakpmjfhhaaRRDiffer
namespace Go.Proofs.YtgmahakpmjfhhaaRR
open Go.RowKit
set_option linter.unusedVariables false
attribute [local go_sem ↓] loadRow loadGrid loadLawn loadMirror storeRow storeGrid storeLawn allocRow allocGrid allocLawn buildZero buildSides


end Go.Proofs.YtgmahakpmjfhhaaRR
