/- All sides, of the model. -/
import Derived.Test.YtmoldkdidhnahaaSSide
namespace Go.Proofs.Ytmoldkdidhnahaa
open Go.RowKit
set_option linter.unusedVariables false
attribute [local go_sem ↓] loadRow loadGrid loadLawn loadMirror storeRow storeGrid storeLawn allocRow allocGrid allocLawn buildZero buildSides loadSd storeSd allocSd buildSd

theorem sumS_take {W H : Nat} (L : Lawn) (l : List (Fin W × Fin H)) {i : Nat} {c : Fin W × Fin H} (h : l[i]? = some c) : sumS L (l.take (i + 1)) = addS (sumS L (l.take i)) (sidesL L ((c.1.val : Int), (c.2.val : Int))) := by
  rw [List.take_add_one, h]
  exact sumS_snoc L _ c
theorem grassS_ofKind (L : Lawn) (W H : Nat) : allS L W H = sumS L (ofKind L W H 0) := rfl

end Go.Proofs.Ytmoldkdidhnahaa
