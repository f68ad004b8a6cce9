/- StepsFrom, of the program, at every input. -/
import Derived.Test.YtaeenkjbmlgcmaaZG
namespace Go.Proofs.Ytaeenkjbmlgcmaa
open Go.RowKit
set_option linter.unusedVariables false
attribute [local go_sem ↓] loadRow loadGrid loadLawn loadMirror storeRow storeGrid storeLawn allocRow allocGrid allocLawn buildZero buildSides

/-- What StepsFrom answers. -/
def stepsC (L : Lawn) (x y : Int) : Int := if validB L then (if isB L x y then (if openB L x y then 0 else 4) else 2) else 1
def stepsN (L : Lawn) (x y : Int) : Nat := if stepsC L x y = 0 then (allC L.wide.toNat L.high.toNat).length else 0
def stepsL (L : Lawn) (x y : Int) : List Value := if stepsC L x y = 0 then stepsV (found (openP L) (x, y) 100) (allC L.wide.toNat L.high.toNat) else []
theorem openB_in {L : Lawn} {x y : Int} (h : openB L x y = true) : isB L x y = true := by simp only [openB, Bool.and_eq_true] at h; exact h.1

end Go.Proofs.Ytaeenkjbmlgcmaa
