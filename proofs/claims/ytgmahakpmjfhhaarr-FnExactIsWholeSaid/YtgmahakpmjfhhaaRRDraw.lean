/- Lawns that are drawn cell by cell. -/
import Derived.Test.YtgmahakpmjfhhaaRROnly
namespace Go.Proofs.YtgmahakpmjfhhaaRR
open Go.RowKit
set_option linter.unusedVariables false

/-- One kind is exchanged. -/
def upd (g : Nat → Nat → Int) (y x : Nat) (v : Int) : Nat → Nat → Int := fun y' x' => if y' = y ∧ x' = x then v else g y' x'
/-- The kinds when the cells of pre have been drawn at their places. -/
def drawn {W H : Nat} (to : Fin W × Fin H → Nat × Nat) (K : Nat → Nat → Int) (pre : List (Fin W × Fin H)) : Nat → Nat → Int :=
  pre.foldl (fun g c => upd g (to c).1 (to c).2 (K c.2 c.1)) fun _ _ => 0
theorem drawn_nil {W H : Nat} (to : Fin W × Fin H → Nat × Nat) (K : Nat → Nat → Int) : drawn to K [] = fun _ _ => 0 := rfl
theorem drawn_snoc {W H : Nat} (to : Fin W × Fin H → Nat × Nat) (K : Nat → Nat → Int) (pre : List (Fin W × Fin H)) (c : Fin W × Fin H) :
    drawn to K (pre ++ [c]) = upd (drawn to K pre) (to c).1 (to c).2 (K c.2 c.1) := by simp [drawn]
theorem Lawn.set_at (L : Lawn) (y x : Nat) (v : Int) (hy : y < 10) (hx : x < 10) : L.cells.setIfInBounds (2 + y * 10 + x) (.int .u8 v) = Lawn.cells ⟨L.wide, L.high, upd L.kind y x v⟩ := by
  unfold Lawn.cells
  rw [Array.setIfInBounds_append_right (by simp; omega)]
  congr 1
  simp only [List.size_toArray, List.length_cons, List.length_nil, Nat.reduceAdd, Nat.zero_add]
  rw [show 2 + y * 10 + x - 2 = y * 10 + x by omega]
  unfold gridOf
  apply rowOf_of
  · simp
  · intro j hj
    rw [Array.getElem?_setIfInBounds]
    by_cases e : y * 10 + x = j
    · subst e
      rw [if_pos rfl, if_pos (by simp; omega)]
      rw [show (y * 10 + x) / 10 = y by omega, show (y * 10 + x) % 10 = x by omega]
      simp [upd]
    · rw [if_neg e, rowOf_get _ _ _ hj]
      have hne : ¬ (j / 10 = y ∧ j % 10 = x) := fun h => e (by omega)
      simp [upd, hne]
end Go.Proofs.YtgmahakpmjfhhaaRR
