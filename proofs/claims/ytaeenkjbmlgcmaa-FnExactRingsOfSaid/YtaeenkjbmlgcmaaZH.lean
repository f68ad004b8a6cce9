/- Lawns that are drawn cell by cell. Grids of 10 by 10 numbers of the type int64, by value. -/
import Derived.Test.YtaeenkjbmlgcmaaZB
namespace Go.Proofs.Ytaeenkjbmlgcmaa
open Go.RowKit
set_option linter.unusedVariables false

/-- One kind is exchanged. -/
def upd (g : Nat → Nat → Int) (y x : Nat) (v : Int) : Nat → Nat → Int := fun y' x' => if y' = y ∧ x' = x then v else g y' x'
/-- The kinds when the cells of pre have been drawn at their places. -/
def drawn {W H : Nat} (to : Fin W × Fin H → Nat × Nat) (K : Nat → Nat → Int) (pre : List (Fin W × Fin H)) : Nat → Nat → Int :=
  pre.foldl (fun g c => upd g (to c).1 (to c).2 (K c.2 c.1)) fun _ _ => 0
theorem drawn_nil {W H : Nat} (to : Fin W × Fin H → Nat × Nat) (K : Nat → Nat → Int) : drawn to K [] = fun _ _ => 0 := rfl
theorem drawn_snoc {W H : Nat} (to : Fin W × Fin H → Nat × Nat) (K : Nat → Nat → Int) (pre : List (Fin W × Fin H)) (c : Fin W × Fin H) :
    drawn to K (pre ++ [c]) = upd (drawn to K pre) (to c).1 (to c).2 (K c.2 c.1) := by simp [drawn]
theorem Lawn.set_at (L : Lawn) (y x : Nat) (v : Int) (hy : y < 10) (hx : x < 10) : L.cells.setIfInBounds (2 + y * 10 + x) (.int .u8 v) = Lawn.cells ⟨L.wide, L.high, upd L.kind y x v⟩ := by
  unfold Lawn.cells
  rw [Array.setIfInBounds_append_right (by simp; omega)]
  congr 1
  simp only [List.size_toArray, List.length_cons, List.length_nil, Nat.reduceAdd, Nat.zero_add]
  rw [show 2 + y * 10 + x - 2 = y * 10 + x by omega]
  unfold gridOf
  apply rowOf_of
  · simp
  · intro j hj
    rw [Array.getElem?_setIfInBounds]
    by_cases e : y * 10 + x = j
    · subst e
      rw [if_pos rfl, if_pos (by simp; omega)]
      rw [show (y * 10 + x) / 10 = y by omega, show (y * 10 + x) % 10 = x by omega]
      simp [upd]
    · rw [if_neg e, rowOf_get _ _ _ hj]
      have hne : ¬ (j / 10 = y ∧ j % 10 = x) := fun h => e (by omega)
      simp [upd, hne]
end Go.Proofs.Ytaeenkjbmlgcmaa

namespace Go.Proofs.Ytaeenkjbmlgcmaa
open Go.RowKit
set_option linter.unusedVariables false

def grid64 (g : Nat → Nat → Int) : Array Value := ((List.range 100).map fun j => Value.int .i64 (g (j / 10) (j % 10))).toArray
@[simp, go_sem] theorem grid64_size (g : Nat → Nat → Int) : (grid64 g).size = 100 := by simp [grid64]
theorem grid64_get (g : Nat → Nat → Int) (k j : Nat) (h : k < 10) (hj : j < 10) : (grid64 g)[k * 10 + j]? = some (.int .i64 (g k j)) := by
  simp [grid64, show k * 10 + j < 100 by omega, show (k * 10 + j) / 10 = k by omega, show (k * 10 + j) % 10 = j by omega]
@[go_sem] theorem grid64_all (g : Nat → Nat → Int) : (grid64 g).extract 0 100 = grid64 g := by
  rw [show (100 : Nat) = (grid64 g).size by simp, Array.extract_size]
@[go_sem] theorem grid64_ones (g : Nat → Nat → Int) : Ones (grid64 g) = true := by
  refine of_ones fun v hv => ?_
  simp only [grid64, List.mem_map, List.mem_range] at hv
  obtain ⟨j, _, rfl⟩ := hv
  rfl
theorem grid64_ext {g g' : Nat → Nat → Int} (h : ∀ y x, y < 10 → x < 10 → g y x = g' y x) : grid64 g = grid64 g' := by
  unfold grid64
  congr 1
  apply List.map_congr_left
  intro j hj
  have : j < 100 := by simpa using hj
  rw [h (j / 10) (j % 10) (by omega) (by omega)]
theorem grid64_set (g : Nat → Nat → Int) (y x : Nat) (v : Int) (hy : y < 10) (hx : x < 10) : (grid64 g).setIfInBounds (y * 10 + x) (.int .i64 v) = grid64 (upd g y x v) := by
  apply Array.ext_getElem?
  intro j
  rw [Array.getElem?_setIfInBounds]
  by_cases hj : j < 100
  · have e1 : ∀ g', (grid64 g')[j]? = some (.int .i64 (g' (j / 10) (j % 10))) := fun g' => by
      have := grid64_get g' (j / 10) (j % 10) (by omega) (by omega)
      rwa [show j / 10 * 10 + j % 10 = j by omega] at this
    rw [e1, e1]
    by_cases e : y * 10 + x = j
    · subst e
      rw [if_pos rfl, if_pos (by simp; omega)]
      simp [upd, show (y * 10 + x) / 10 = y by omega, show (y * 10 + x) % 10 = x by omega]
    · rw [if_neg e]
      have hne : ¬ (j / 10 = y ∧ j % 10 = x) := fun h => e (by omega)
      simp [upd, hne]
  · rw [if_neg (by omega), Array.getElem?_eq_none (by simp; omega), Array.getElem?_eq_none (by simp; omega)]

@[go_sem] theorem wideG64 : wideB Try.prog 89 100 = true := by kernel_rfl
section
variable (ρ : Operand → Value) (dst : Option Tmp) (x y : Operand) (t : TypeId) (pos : String) (aft : Array Edge) (g : Option (Nat × Bool)) (w : World)
theorem loadG64 : (execOp ρ ⟨dst, .load 89 x, t, pos, aft, g⟩).run Try.prog w = opLoad Try.prog 89 100 (ρ x) w := rfl
theorem storeG64 : (execOp ρ ⟨dst, .store 89 x y, t, pos, aft, g⟩).run Try.prog w = opStore Try.prog 89 100 (ρ x) (ρ y) w := rfl
set_option maxRecDepth 100000 in
theorem allocG64 : (execOp ρ ⟨dst, .alloc 89, t, pos, aft, g⟩).run Try.prog w = .ok (.value (.pointer (some ⟨w.heap.size, 0, none⟩))) (w.alloc (.cells (grid64 fun _ _ => 0) 89)) := by kernel_rfl
set_option maxRecDepth 100000 in
theorem buildG64 : (execOp ρ ⟨dst, .build 89 #[], t, pos, aft, g⟩).run Try.prog w = .ok (.value (.agg (grid64 fun _ _ => 0))) w := by kernel_rfl
end
@[go_sem] theorem splice_g64 (g g' : Nat → Nat → Int) : splice (grid64 g) 0 (grid64 g') = grid64 g' := splice_all _ _ (by simp)
end Go.Proofs.Ytaeenkjbmlgcmaa
