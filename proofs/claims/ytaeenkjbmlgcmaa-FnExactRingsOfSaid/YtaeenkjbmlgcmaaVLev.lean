/- ValidLevels, of the program and of the model; a level, and the codes of levels. -/
import Derived.Test.YtaeenkjbmlgcmaaZP
namespace Go.Proofs.Ytaeenkjbmlgcmaa
open Go.RowKit Go.Shelf
set_option linter.unusedVariables false
attribute [local go_sem] Oper.semAt_some
attribute [local go_sem ↓] loadRow loadGrid loadLawn loadMirror storeRow storeGrid storeLawn allocRow allocGrid allocLawn buildZero buildSides loadRow' loadGrid' loadLawn' loadMirror' storeRow' storeGrid' storeLawn' allocRow' allocGrid' allocLawn' buildZero' buildSides'







end Go.Proofs.Ytaeenkjbmlgcmaa
