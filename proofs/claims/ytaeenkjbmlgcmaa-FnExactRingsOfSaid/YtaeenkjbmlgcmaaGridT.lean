/- Grids of 10 by 10 bools, by value. -/
import Derived.Test.YtaeenkjbmlgcmaaPieceP
namespace Go.Proofs.Ytaeenkjbmlgcmaa
open Go.RowKit
set_option linter.unusedVariables false

def gridT (g : Nat → Nat → Bool) : Array Value := ((List.range 100).map fun j => Value.bool (g (j / 10) (j % 10))).toArray
@[simp, go_sem] theorem gridT_size (g : Nat → Nat → Bool) : (gridT g).size = 100 := by simp [gridT]
theorem gridT_get (g : Nat → Nat → Bool) (k j : Nat) (h : k < 10) (hj : j < 10) : (gridT g)[k * 10 + j]? = some (.bool (g k j)) := by
  simp [gridT, show k * 10 + j < 100 by omega, show (k * 10 + j) / 10 = k by omega, show (k * 10 + j) % 10 = j by omega]
@[go_sem] theorem gridT_all (g : Nat → Nat → Bool) : (gridT g).extract 0 100 = gridT g := by
  rw [show (100 : Nat) = (gridT g).size by simp, Array.extract_size]
@[go_sem] theorem gridT_ones (g : Nat → Nat → Bool) : Ones (gridT g) = true := by
  refine of_ones fun v hv => ?_
  simp only [gridT, List.mem_map, List.mem_range] at hv
  obtain ⟨j, _, rfl⟩ := hv
  rfl
theorem gridT_ext {g g' : Nat → Nat → Bool} (h : ∀ y x, y < 10 → x < 10 → g y x = g' y x) : gridT g = gridT g' := by
  unfold gridT
  congr 1
  apply List.map_congr_left
  intro j hj
  have : j < 100 := by simpa using hj
  rw [h (j / 10) (j % 10) (by omega) (by omega)]
theorem gridT_set (g : Nat → Nat → Bool) (y x : Nat) (v : Bool) (hy : y < 10) (hx : x < 10) : (gridT g).setIfInBounds (y * 10 + x) (.bool v) = gridT (updB g y x v) := by
  apply Array.ext_getElem?
  intro j
  rw [Array.getElem?_setIfInBounds]
  by_cases hj : j < 100
  · have e1 : ∀ g', (gridT g')[j]? = some (.bool (g' (j / 10) (j % 10))) := fun g' => by
      have := gridT_get g' (j / 10) (j % 10) (by omega) (by omega)
      rwa [show j / 10 * 10 + j % 10 = j by omega] at this
    rw [e1, e1]
    by_cases e : y * 10 + x = j
    · subst e
      rw [if_pos rfl, if_pos (by simp; omega)]
      simp [updB, show (y * 10 + x) / 10 = y by omega, show (y * 10 + x) % 10 = x by omega]
    · rw [if_neg e]
      have hne : ¬ (j / 10 = y ∧ j % 10 = x) := fun h => e (by omega)
      simp [updB, hne]
  · rw [if_neg (by omega), Array.getElem?_eq_none (by simp; omega), Array.getElem?_eq_none (by simp; omega)]

@[go_sem] theorem wideGT : wideB Try.prog 149 100 = true := by kernel_rfl
section
variable (ρ : Operand → Value) (dst : Option Tmp) (x y : Operand) (t : TypeId) (pos : String) (aft : Array Edge) (g : Option (Nat × Bool)) (w : World)
theorem loadGT : (execOp ρ ⟨dst, .load 149 x, t, pos, aft, g⟩).run Try.prog w = opLoad Try.prog 149 100 (ρ x) w := rfl
theorem storeGT : (execOp ρ ⟨dst, .store 149 x y, t, pos, aft, g⟩).run Try.prog w = opStore Try.prog 149 100 (ρ x) (ρ y) w := rfl
set_option maxRecDepth 100000 in
theorem allocGT : (execOp ρ ⟨dst, .alloc 149, t, pos, aft, g⟩).run Try.prog w = .ok (.value (.pointer (some ⟨w.heap.size, 0, none⟩))) (w.alloc (.cells (gridT fun _ _ => false) 149)) := by kernel_rfl
set_option maxRecDepth 100000 in
theorem buildGT : (execOp ρ ⟨dst, .build 149 #[], t, pos, aft, g⟩).run Try.prog w = .ok (.value (.agg (gridT fun _ _ => false))) w := by kernel_rfl
end
@[go_sem] theorem splice_gT (g g' : Nat → Nat → Bool) : splice (gridT g) 0 (gridT g') = gridT g' := splice_all _ _ (by simp)
end Go.Proofs.Ytaeenkjbmlgcmaa
