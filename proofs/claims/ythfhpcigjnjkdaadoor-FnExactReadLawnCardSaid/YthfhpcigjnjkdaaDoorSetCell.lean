/- SetCell, of the program and of the model. -/
import Derived.Test.YthfhpcigjnjkdaaDoorZC
import Derived.Test.YthfhpcigjnjkdaaDoorZD
namespace Go.Proofs.YthfhpcigjnjkdaaDoor
open Go.RowKit
attribute [local go_sem ↓] loadRow loadGrid loadLawn loadMirror storeRow storeGrid storeLawn allocRow allocGrid allocLawn buildZero buildSides

/-- A lawn with another kind at a place. -/
def Lawn.put (L : Lawn) (y x : Nat) (k : Int) : Lawn := { L with kind := fun a b => if a = y ∧ b = x then k else L.kind a b }
theorem Lawn.cells_put (L : Lawn) (y x : Nat) (hy : y < 10) (hx : x < 10) (k : Int) : L.cells.setIfInBounds (2 + y * 10 + x) (.int .u8 k) = (L.put y x k).cells := by
  apply Array.ext_getElem?
  intro j
  rw [Array.getElem?_setIfInBounds]
  match j with
  | 0 => rw [if_neg (by omega), Lawn.cells_0, Lawn.cells_0]; rfl
  | 1 => rw [if_neg (by omega), Lawn.cells_1, Lawn.cells_1]; rfl
  | j + 2 =>
    by_cases hj : j < 100
    · have h1 := Lawn.cells_get L (j / 10) (j % 10) (by omega) (by omega)
      have h2 := Lawn.cells_get (L.put y x k) (j / 10) (j % 10) (by omega) (by omega)
      rw [show 2 + j / 10 * 10 + j % 10 = j + 2 by omega] at h1 h2
      rw [h1, h2]
      simp only [Lawn.put]
      by_cases e : j = y * 10 + x
      · rw [if_pos (by omega), if_pos (by rw [Lawn.cells_size]; omega), if_pos (by omega)]
      · rw [if_neg (by omega), if_neg (by omega)]
    · rw [if_neg (by omega), Array.getElem?_eq_none (by simp; omega), Array.getElem?_eq_none (by simp; omega)]

/-- What SetCell answers. -/
def setV (L : Lawn) (x y k : Int) : Value :=
  if told (validB L) (isB L x y && inB k 0 3) = 0 then .tuple #[.agg (L.put y.toNat x.toNat k).cells, .int .i64 0] else .tuple #[.agg Lawn.zero.cells, .int .i64 (told (validB L) (isB L x y && inB k 0 3))]


end Go.Proofs.YthfhpcigjnjkdaaDoor
