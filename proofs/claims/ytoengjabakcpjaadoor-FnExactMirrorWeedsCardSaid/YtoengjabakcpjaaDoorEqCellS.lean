/- The comparison of two rows of CellS: equal ones are found equal. -/
import Derived.Test.YtoengjabakcpjaaDoorZC
import Derived.Test.YtoengjabakcpjaaDoorZB
namespace Go.Proofs.YtoengjabakcpjaaDoor
open Go.RowKit
set_option linter.unusedVariables false
attribute [local go_sem ↓] loadRow loadGrid loadLawn loadMirror storeRow storeGrid storeLawn allocRow allocGrid allocLawn buildZero buildSides


end Go.Proofs.YtoengjabakcpjaaDoor
