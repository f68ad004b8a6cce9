/- StepsFrom, of the model. -/
import Derived.Test.YtaeenkjbmlgcmaaSReachO
import Derived.Test.YtaeenkjbmlgcmaaJStepsFrom
namespace Go.Proofs.Ytaeenkjbmlgcmaa
open Go.RowKit
set_option linter.unusedVariables false
attribute [local go_sem ↓] loadRow loadGrid loadLawn loadMirror storeRow storeGrid storeLawn allocRow allocGrid allocLawn buildZero buildSides loadG64 storeG64 allocG64 buildG64


theorem own_none {w1 w2 : World} {B : Nat} {b : Nat} {e : TypeId} {size : Nat} (h : w2 = w1.alloc (.cells #[] e)) (hb : b = w1.heap.size) (hB : B ≤ w1.heap.size) : w2.ownsRow B e size (.slice (some ⟨b, 0, none⟩) 0 0) 0 [] := by
  subst h; subst hb
  exact ownsRow_low (World.ownsRow_made w1 #[] 0 (Nat.le_refl _) (by simp [maxLen]) (by simp)) hB

end Go.Proofs.Ytaeenkjbmlgcmaa
