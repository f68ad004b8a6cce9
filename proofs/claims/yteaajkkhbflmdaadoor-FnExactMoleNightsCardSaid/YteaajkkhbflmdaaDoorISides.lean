/- All sides, of the program; how long the edge is. -/
import Derived.Test.YteaajkkhbflmdaaDoorISide
import Derived.Test.YteaajkkhbflmdaaDoorEqlSd
namespace Go.Proofs.YteaajkkhbflmdaaDoor
open Go.RowKit Go.Shelf
set_option linter.unusedVariables false
attribute [local go_sem] Oper.semAt_some
attribute [local go_sem ↓] loadRow loadGrid loadLawn loadMirror storeRow storeGrid storeLawn allocRow allocGrid allocLawn buildZero buildSides loadRow' loadGrid' loadLawn' loadMirror' storeRow' storeGrid' storeLawn' allocRow' allocGrid' allocLawn' buildZero' buildSides' loadSd storeSd allocSd buildSd loadSd' storeSd' allocSd' buildSd' eqlSd buildInner




end Go.Proofs.YteaajkkhbflmdaaDoor
