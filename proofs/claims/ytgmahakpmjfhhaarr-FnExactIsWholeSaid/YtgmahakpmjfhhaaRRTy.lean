/- The facts on the program's types that the walks take: which ones have several cells, and how many. -/
import Derived.Test.YtgmahakpmjfhhaaRRBase
import Derived.Test.YtgmahakpmjfhhaaRRRows
namespace Go.Proofs.YtgmahakpmjfhhaaRR
open Go.RowKit

/-- A lawn: its sides, and the kind of each cell by Y and X. -/
structure Lawn where
  wide : Int
  high : Int
  kind : Nat → Nat → Int

/-- A lawn whose numbers fit: the sides into int8, the kinds into uint8. -/
structure Lawn.Fits (L : Lawn) : Prop where
  w0 : -128 ≤ L.wide
  w1 : L.wide ≤ 127
  h0 : -128 ≤ L.high
  h1 : L.high ≤ 127
  k0 : ∀ y x, y < 10 → x < 10 → 0 ≤ L.kind y x
  k1 : ∀ y x, y < 10 → x < 10 → L.kind y x ≤ 255

/-- The cells of a lawn's value. -/
def Lawn.cells (L : Lawn) : Array Value := #[.int .i8 L.wide, .int .i8 L.high] ++ gridOf L.kind
@[simp, go_sem] theorem Lawn.cells_size (L : Lawn) : L.cells.size = 102 := by simp [Lawn.cells]
@[go_sem] theorem Lawn.cells_0 (L : Lawn) : L.cells[0]? = some (.int .i8 L.wide) := by simp [Lawn.cells]
@[go_sem] theorem Lawn.cells_1 (L : Lawn) : L.cells[1]? = some (.int .i8 L.high) := by simp [Lawn.cells]
@[go_sem] theorem Lawn.cells_at0 (L : Lawn) (h : 0 < L.cells.size) : L.cells[0] = .int .i8 L.wide := by simp [Lawn.cells]
@[go_sem] theorem Lawn.cells_at1 (L : Lawn) (h : 1 < L.cells.size) : L.cells[1] = .int .i8 L.high := by simp [Lawn.cells]
@[go_sem] theorem Lawn.cells_grid (L : Lawn) : L.cells.extract 2 102 = gridOf L.kind := by
  apply Array.ext_getElem?
  intro j
  rw [Array.getElem?_extract]
  by_cases h : j < 100
  · rw [if_pos (by simp; omega)]
    unfold Lawn.cells
    rw [Array.getElem?_append_right (by simp)]
    simp
  · rw [if_neg (by simp; omega), Array.getElem?_eq_none (by simp; omega)]
@[go_sem] theorem Lawn.cells_all (L : Lawn) : L.cells.extract 0 102 = L.cells := by
  rw [show (102 : Nat) = L.cells.size by simp, Array.extract_size]
theorem Lawn.cells_get (L : Lawn) (y x : Nat) (hy : y < 10) (hx : x < 10) : L.cells[2 + y * 10 + x]? = some (.int .u8 (L.kind y x)) := by
  unfold Lawn.cells
  rw [Array.getElem?_append_right (by simp; omega)]
  simp only [List.size_toArray, List.length_cons, List.length_nil, Nat.reduceAdd, Nat.zero_add]
  rw [show 2 + y * 10 + x - 2 = y * 10 + x by omega, gridOf_get _ _ _ hy hx]
@[go_sem] theorem Lawn.cells_ones (L : Lawn) : Ones L.cells = true := by
  refine of_ones fun v hv => ?_
  simp only [Lawn.cells, Array.toList_append, List.cons_append, List.nil_append, List.mem_cons] at hv
  rcases hv with rfl | rfl | hv
  · rfl
  · rfl
  · exact ones_of (gridOf_ones _) _ hv
theorem Lawn.splice_mk (w h : Int) (c : Array Value) (g : Nat → Nat → Int) (hs : c.size = 102) (h0 : c[0]? = some (.int .i8 w)) (h1 : c[1]? = some (.int .i8 h)) :
    splice c 2 (gridOf g) = Lawn.cells ⟨w, h, g⟩ := by
  apply Array.ext_getElem?
  intro j
  rw [splice_get _ _ _ (by simp; omega)]
  match j with
  | 0 => simp [h0, Lawn.cells]
  | 1 => simp [h1, Lawn.cells]
  | j + 2 =>
    unfold Lawn.cells
    rw [Array.getElem?_append_right (by simp)]
    by_cases h : j < 100
    · rw [if_pos (by simp; omega)]; simp
    · rw [if_neg (by simp; omega), Array.getElem?_eq_none (by omega), Array.getElem?_eq_none (by simp; omega)]


@[go_sem] theorem Lawn.set_0 (L : Lawn) (a : Int) : L.cells.setIfInBounds 0 (.int .i8 a) = Lawn.cells ⟨a, L.high, L.kind⟩ := by
  unfold Lawn.cells
  rw [Array.setIfInBounds_append_left (by simp)]; rfl
@[go_sem] theorem Lawn.set_1 (L : Lawn) (a : Int) : L.cells.setIfInBounds 1 (.int .i8 a) = Lawn.cells ⟨L.wide, a, L.kind⟩ := by
  unfold Lawn.cells
  rw [Array.setIfInBounds_append_left (by simp)]; rfl
@[go_sem] theorem Lawn.splice_grid (L : Lawn) (g : Nat → Nat → Int) : splice L.cells 2 (gridOf g) = Lawn.cells ⟨L.wide, L.high, g⟩ := Lawn.splice_mk _ _ _ _ (by simp) (Lawn.cells_0 L) (Lawn.cells_1 L)
@[go_sem] theorem Lawn.splice_lawn (L M : Lawn) : splice L.cells 0 M.cells = M.cells := splice_all _ _ (by simp)

@[go_sem] theorem wideRow : wideB Try.prog 25 10 = true := by kernel_rfl
@[go_sem] theorem wideGrid : wideB Try.prog 26 100 = true := by kernel_rfl
@[go_sem] theorem wideLawn : wideB Try.prog 28 102 = true := by kernel_rfl
@[go_sem] theorem wideMirror : wideB Try.prog 75 102 = true := by kernel_rfl

section
variable (ρ : Operand → Value) (dst : Option Tmp) (x y : Operand) (t : TypeId) (pos : String) (aft : Array Edge) (g : Option (Nat × Bool)) (w : World)
theorem loadRow : (execOp ρ ⟨dst, .load 25 x, t, pos, aft, g⟩).run Try.prog w = opLoad Try.prog 25 10 (ρ x) w := rfl
theorem loadRow' (q : Option Nat) : (Oper.semAt q ρ ⟨dst, .load 25 x, t, pos, aft, g⟩).run Try.prog w = opLoad Try.prog 25 10 (ρ x) w := by
  have h : Oper.semAt q ρ ⟨dst, .load 25 x, t, pos, aft, g⟩ = execOp ρ ⟨dst, .load 25 x, t, pos, aft, g⟩ := by cases q <;> rfl
  rw [h, loadRow]
theorem loadGrid : (execOp ρ ⟨dst, .load 26 x, t, pos, aft, g⟩).run Try.prog w = opLoad Try.prog 26 100 (ρ x) w := rfl
theorem loadGrid' (q : Option Nat) : (Oper.semAt q ρ ⟨dst, .load 26 x, t, pos, aft, g⟩).run Try.prog w = opLoad Try.prog 26 100 (ρ x) w := by
  have h : Oper.semAt q ρ ⟨dst, .load 26 x, t, pos, aft, g⟩ = execOp ρ ⟨dst, .load 26 x, t, pos, aft, g⟩ := by cases q <;> rfl
  rw [h, loadGrid]
theorem loadLawn : (execOp ρ ⟨dst, .load 28 x, t, pos, aft, g⟩).run Try.prog w = opLoad Try.prog 28 102 (ρ x) w := rfl
theorem loadLawn' (q : Option Nat) : (Oper.semAt q ρ ⟨dst, .load 28 x, t, pos, aft, g⟩).run Try.prog w = opLoad Try.prog 28 102 (ρ x) w := by
  have h : Oper.semAt q ρ ⟨dst, .load 28 x, t, pos, aft, g⟩ = execOp ρ ⟨dst, .load 28 x, t, pos, aft, g⟩ := by cases q <;> rfl
  rw [h, loadLawn]
theorem storeRow : (execOp ρ ⟨dst, .store 25 x y, t, pos, aft, g⟩).run Try.prog w = opStore Try.prog 25 10 (ρ x) (ρ y) w := rfl
theorem storeRow' (q : Option Nat) : (Oper.semAt q ρ ⟨dst, .store 25 x y, t, pos, aft, g⟩).run Try.prog w = opStore Try.prog 25 10 (ρ x) (ρ y) w := by
  have h : Oper.semAt q ρ ⟨dst, .store 25 x y, t, pos, aft, g⟩ = execOp ρ ⟨dst, .store 25 x y, t, pos, aft, g⟩ := by cases q <;> rfl
  rw [h, storeRow]
theorem storeGrid : (execOp ρ ⟨dst, .store 26 x y, t, pos, aft, g⟩).run Try.prog w = opStore Try.prog 26 100 (ρ x) (ρ y) w := rfl
theorem storeGrid' (q : Option Nat) : (Oper.semAt q ρ ⟨dst, .store 26 x y, t, pos, aft, g⟩).run Try.prog w = opStore Try.prog 26 100 (ρ x) (ρ y) w := by
  have h : Oper.semAt q ρ ⟨dst, .store 26 x y, t, pos, aft, g⟩ = execOp ρ ⟨dst, .store 26 x y, t, pos, aft, g⟩ := by cases q <;> rfl
  rw [h, storeGrid]
theorem storeLawn : (execOp ρ ⟨dst, .store 28 x y, t, pos, aft, g⟩).run Try.prog w = opStore Try.prog 28 102 (ρ x) (ρ y) w := rfl
theorem storeLawn' (q : Option Nat) : (Oper.semAt q ρ ⟨dst, .store 28 x y, t, pos, aft, g⟩).run Try.prog w = opStore Try.prog 28 102 (ρ x) (ρ y) w := by
  have h : Oper.semAt q ρ ⟨dst, .store 28 x y, t, pos, aft, g⟩ = execOp ρ ⟨dst, .store 28 x y, t, pos, aft, g⟩ := by cases q <;> rfl
  rw [h, storeLawn]
theorem loadMirror : (execOp ρ ⟨dst, .load 75 x, t, pos, aft, g⟩).run Try.prog w = opLoad Try.prog 75 102 (ρ x) w := rfl
theorem loadMirror' (q : Option Nat) : (Oper.semAt q ρ ⟨dst, .load 75 x, t, pos, aft, g⟩).run Try.prog w = opLoad Try.prog 75 102 (ρ x) w := by
  have h : Oper.semAt q ρ ⟨dst, .load 75 x, t, pos, aft, g⟩ = execOp ρ ⟨dst, .load 75 x, t, pos, aft, g⟩ := by cases q <;> rfl
  rw [h, loadMirror]
set_option maxRecDepth 100000 in
theorem allocRow : (execOp ρ ⟨dst, .alloc 25, t, pos, aft, g⟩).run Try.prog w = .ok (.value (.pointer (some ⟨w.heap.size, 0, none⟩))) (w.alloc (.cells (rowOf 10 fun _ => 0) 25)) := by kernel_rfl
theorem allocRow' (q : Option Nat) : (Oper.semAt q ρ ⟨dst, .alloc 25, t, pos, aft, g⟩).run Try.prog w = .ok (.value (.pointer (some ⟨w.heap.size, 0, none⟩))) (w.alloc (.cells (rowOf 10 fun _ => 0) 25)) := by
  have h : Oper.semAt q ρ ⟨dst, .alloc 25, t, pos, aft, g⟩ = execOp ρ ⟨dst, .alloc 25, t, pos, aft, g⟩ := by cases q <;> rfl
  rw [h, allocRow]
theorem allocGrid : (execOp ρ ⟨dst, .alloc 26, t, pos, aft, g⟩).run Try.prog w = .ok (.value (.pointer (some ⟨w.heap.size, 0, none⟩))) (w.alloc (.cells (gridOf fun _ _ => 0) 26)) := by kernel_rfl
theorem allocGrid' (q : Option Nat) : (Oper.semAt q ρ ⟨dst, .alloc 26, t, pos, aft, g⟩).run Try.prog w = .ok (.value (.pointer (some ⟨w.heap.size, 0, none⟩))) (w.alloc (.cells (gridOf fun _ _ => 0) 26)) := by
  have h : Oper.semAt q ρ ⟨dst, .alloc 26, t, pos, aft, g⟩ = execOp ρ ⟨dst, .alloc 26, t, pos, aft, g⟩ := by cases q <;> rfl
  rw [h, allocGrid]
theorem allocLawn : (execOp ρ ⟨dst, .alloc 28, t, pos, aft, g⟩).run Try.prog w = .ok (.value (.pointer (some ⟨w.heap.size, 0, none⟩))) (w.alloc (.cells (Lawn.cells ⟨0, 0, fun _ _ => 0⟩) 28)) := by kernel_rfl
theorem allocLawn' (q : Option Nat) : (Oper.semAt q ρ ⟨dst, .alloc 28, t, pos, aft, g⟩).run Try.prog w = .ok (.value (.pointer (some ⟨w.heap.size, 0, none⟩))) (w.alloc (.cells (Lawn.cells ⟨0, 0, fun _ _ => 0⟩) 28)) := by
  have h : Oper.semAt q ρ ⟨dst, .alloc 28, t, pos, aft, g⟩ = execOp ρ ⟨dst, .alloc 28, t, pos, aft, g⟩ := by cases q <;> rfl
  rw [h, allocLawn]
theorem buildZero : (execOp ρ ⟨dst, .build 28 #[], t, pos, aft, g⟩).run Try.prog w = .ok (.value (.agg (Lawn.cells ⟨0, 0, fun _ _ => 0⟩))) w := by kernel_rfl
theorem buildZero' (q : Option Nat) : (Oper.semAt q ρ ⟨dst, .build 28 #[], t, pos, aft, g⟩).run Try.prog w = .ok (.value (.agg (Lawn.cells ⟨0, 0, fun _ _ => 0⟩))) w := by
  have h : Oper.semAt q ρ ⟨dst, .build 28 #[], t, pos, aft, g⟩ = execOp ρ ⟨dst, .build 28 #[], t, pos, aft, g⟩ := by cases q <;> rfl
  rw [h, buildZero]
theorem buildSides : (execOp ρ ⟨dst, .build 28 #[(0, x), (1, y)], t, pos, aft, g⟩).run Try.prog w = opBuild Try.prog 28 #[(0, ρ x), (1, ρ y)] w := by kernel_rfl
theorem buildSides' (q : Option Nat) : (Oper.semAt q ρ ⟨dst, .build 28 #[(0, x), (1, y)], t, pos, aft, g⟩).run Try.prog w = opBuild Try.prog 28 #[(0, ρ x), (1, ρ y)] w := by
  have h : Oper.semAt q ρ ⟨dst, .build 28 #[(0, x), (1, y)], t, pos, aft, g⟩ = execOp ρ ⟨dst, .build 28 #[(0, x), (1, y)], t, pos, aft, g⟩ := by cases q <;> rfl
  rw [h, buildSides]
end
@[go_sem] theorem buildSides_at (a b : Int) (w : World) : opBuild Try.prog 28 #[(0, .int .i8 a), (1, .int .i8 b)] w = .ok (.value (.agg (Lawn.cells ⟨a, b, fun _ _ => 0⟩))) w := opBuild_of (by kernel_rfl) w
end Go.Proofs.YtgmahakpmjfhhaaRR
