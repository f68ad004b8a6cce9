/- The comparison of two rows of RunS: equal ones are found equal. -/
import Derived.Test.YtlfmadnhjleofaaZC
import Derived.Test.YtlfmadnhjleofaaZB
import Derived.Test.YtlfmadnhjleofaaEqCellS
namespace Go.Proofs.Ytlfmadnhjleofaa
open Go.RowKit
set_option linter.unusedVariables false
attribute [local go_sem ↓] loadRow loadGrid loadLawn loadMirror storeRow storeGrid storeLawn allocRow allocGrid allocLawn buildZero buildSides


end Go.Proofs.Ytlfmadnhjleofaa
