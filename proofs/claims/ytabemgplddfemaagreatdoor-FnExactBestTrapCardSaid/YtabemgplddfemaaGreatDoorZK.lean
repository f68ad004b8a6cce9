/- Sides, counted by what lies beside them. Sides by value: five numbers. Sides, of the model. Sides, of the program. What '==' says of two values of sides. All sides, of the program; how long the edge is. slices.DeleteFunc over cells: the list's own memory is written. Functions of the library and of the program that are told by a closure over cells: best, IndexFunc, DeleteFunc; for every closure whose answers are known. -/
import Derived.Test.YtabemgplddfemaaGreatDoorZF
import Derived.Test.YtabemgplddfemaaGreatDoorZC
import Derived.Test.YtabemgplddfemaaGreatDoorZG
import Derived.Lib.SliceRun
namespace Go.Proofs.YtabemgplddfemaaGreatDoor
open Go.RowKit
set_option linter.unusedVariables false

/-- Counts by what lies beside. -/
abbrev Sd := Nat → Int
/-- The five counts as values. -/
def sdV (f : Sd) : Array Value := #[.int .i64 (f 0), .int .i64 (f 1), .int .i64 (f 2), .int .i64 (f 3), .int .i64 (f 4)]
theorem sdV_size (f : Sd) : (sdV f).size = 5 := rfl
theorem sdV_get (f : Sd) (k : Nat) (hk : k < 5) : (sdV f)[k]? = some (.int .i64 (f k)) := by
  have : k = 0 ∨ k = 1 ∨ k = 2 ∨ k = 3 ∨ k = 4 := by omega
  rcases this with rfl | rfl | rfl | rfl | rfl <;> rfl
/-- One more at a place; a place's count exchanged. -/
def sdSet (f : Sd) (k : Nat) (v : Int) : Sd := fun j => if j = k then v else f j
def bump (f : Sd) (k : Nat) : Sd := sdSet f k (f k + 1)
theorem sdV_set (f : Sd) (k : Nat) (hk : k < 5) (v : Int) : (sdV f).setIfInBounds k (.int .i64 v) = sdV (sdSet f k v) := by
  have : k = 0 ∨ k = 1 ∨ k = 2 ∨ k = 3 ∨ k = 4 := by omega
  rcases this with rfl | rfl | rfl | rfl | rfl <;> simp [sdV, sdSet]
theorem sdV_ext {f g : Sd} (h : ∀ k, k < 5 → f k = g k) : sdV f = sdV g := by
  simp only [sdV, h 0 (by omega), h 1 (by omega), h 2 (by omega), h 3 (by omega), h 4 (by omega)]
/-- What lies at a place: its kind, or 4 for nothing. -/
def lies (L : Lawn) (d : Pt) : Nat := if isB L d.1 d.2 then (L.kind d.2.toNat d.1.toNat).toNat else 4
/-- The first n sides of a cell, counted. -/
def sidesTo (L : Lawn) (c : Pt) (n : Nat) : Sd := ((beside c).take n).foldl (fun f d => bump f (lies L d)) fun _ => 0
def sidesL (L : Lawn) (c : Pt) : Sd := sidesTo L c 4
theorem sidesTo_zero (L : Lawn) (c : Pt) : sidesTo L c 0 = fun _ => 0 := rfl
theorem sidesTo_succ (L : Lawn) (c : Pt) {k : Nat} {d : Pt} (h : (beside c)[k]? = some d) : sidesTo L c (k + 1) = bump (sidesTo L c k) (lies L d) := by
  unfold sidesTo
  rw [List.take_add_one, h]
  simp
theorem bump_bound {f : Sd} {n : Int} (k : Nat) (h : ∀ j, 0 ≤ f j ∧ f j ≤ n) : ∀ j, 0 ≤ bump f k j ∧ bump f k j ≤ n + 1 := by
  intro j
  have := h j
  have := h k
  unfold bump sdSet
  split <;> omega
theorem sidesTo_bound (L : Lawn) (c : Pt) (n : Nat) : ∀ j, 0 ≤ sidesTo L c n j ∧ sidesTo L c n j ≤ n := by
  induction n with
  | zero => intro j; simp [sidesTo_zero]
  | succ n ih =>
    cases h : (beside c)[n]? with
    | some d =>
      rw [sidesTo_succ L c h]
      have := bump_bound (lies L d) ih
      intro j
      have := this j
      omega
    | none =>
      have e : sidesTo L c (n + 1) = sidesTo L c n := by unfold sidesTo; rw [List.take_add_one, h]; simp
      rw [e]
      intro j
      have := ih j
      omega
theorem sidesL_bound (L : Lawn) (c : Pt) (j : Nat) : 0 ≤ sidesL L c j ∧ sidesL L c j ≤ 4 := by
  have := sidesTo_bound L c 4 j
  simpa [sidesL] using this
/-- All five counts together. -/
def sdAll (f : Sd) : Int := f 0 + f 1 + f 2 + f 3 + f 4
theorem bump_all (f : Sd) (k : Nat) (hk : k < 5) : sdAll (bump f k) = sdAll f + 1 := by
  have : k = 0 ∨ k = 1 ∨ k = 2 ∨ k = 3 ∨ k = 4 := by omega
  rcases this with rfl | rfl | rfl | rfl | rfl <;> simp [sdAll, bump, sdSet] <;> omega
theorem lies_lt {L : Lawn} (hv : validB L = true) (d : Pt) : lies L d < 5 := by
  unfold lies
  split
  · rename_i h
    obtain ⟨h1, h2, h3⟩ := validB_true hv
    have hi := isB_in h
    have hk := h3 d.2.toNat d.1.toNat (by omega) (by omega)
    simp only [okAt, Bool.and_eq_true] at hk
    have := inB_true hk.1
    omega
  · omega
theorem sidesL_all {L : Lawn} (hv : validB L = true) (c : Pt) : sdAll (sidesL L c) = 4 := by
  have h0 := sidesTo_succ L c (k := 0) rfl
  have h1 := sidesTo_succ L c (k := 1) rfl
  have h2 := sidesTo_succ L c (k := 2) rfl
  have h3 := sidesTo_succ L c (k := 3) rfl
  unfold sidesL
  rw [h3, bump_all _ _ (lies_lt hv _), h2, bump_all _ _ (lies_lt hv _), h1, bump_all _ _ (lies_lt hv _), h0, bump_all _ _ (lies_lt hv _), sidesTo_zero]
  rfl
/-- Whether a cell has grass at all of its sides. -/
def innerB (L : Lawn) (c : Pt) : Bool := decide (sidesL L c 0 = 4)
def addS (f g : Sd) : Sd := fun j => f j + g j
/-- The sides of some cells. -/
def sumS {W H : Nat} (L : Lawn) (l : List (Fin W × Fin H)) : Sd := l.foldl (fun f c => addS f (sidesL L ((c.1.val : Int), (c.2.val : Int)))) fun _ => 0
theorem sumS_nil {W H : Nat} (L : Lawn) : sumS L ([] : List (Fin W × Fin H)) = fun _ => 0 := rfl
theorem sumS_snoc {W H : Nat} (L : Lawn) (l : List (Fin W × Fin H)) (c : Fin W × Fin H) : sumS L (l ++ [c]) = addS (sumS L l) (sidesL L ((c.1.val : Int), (c.2.val : Int))) := by simp [sumS]
theorem sumS_bound {W H : Nat} (L : Lawn) (l : List (Fin W × Fin H)) : ∀ j, 0 ≤ sumS L l j ∧ sumS L l j ≤ 4 * l.length := by
  suffices h : ∀ (l : List (Fin W × Fin H)) (f : Sd) (n : Int), (∀ j, 0 ≤ f j ∧ f j ≤ n) → ∀ j, 0 ≤ (l.foldl (fun f c => addS f (sidesL L ((c.1.val : Int), (c.2.val : Int)))) f) j ∧ (l.foldl (fun f c => addS f (sidesL L ((c.1.val : Int), (c.2.val : Int)))) f) j ≤ n + 4 * l.length by
    intro j
    have := h l (fun _ => 0) 0 (fun _ => ⟨by omega, by omega⟩) j
    unfold sumS
    omega
  intro l
  induction l with
  | nil => intro f n h j; have := h j; simpa using this
  | cons c l ih =>
    intro f n h j
    have := ih (addS f (sidesL L ((c.1.val : Int), (c.2.val : Int)))) (n + 4) (fun j => by have := h j; have := sidesL_bound L ((c.1.val : Int), (c.2.val : Int)) j; unfold addS; omega) j
    simp only [List.foldl_cons, List.length_cons]
    omega
/-- The sides of all cells of grass of a lawn of W by H. -/
def grassS (L : Lawn) (W H : Nat) (pre : List (Fin W × Fin H)) : Sd := sumS L (pre.filter fun c => L.kind c.2 c.1 == 0)
def allS (L : Lawn) (W H : Nat) : Sd := grassS L W H (allC W H)
theorem grassS_bound (L : Lawn) (W H : Nat) (pre : List (Fin W × Fin H)) (hp : pre.length ≤ 100) (j : Nat) : 0 ≤ grassS L W H pre j ∧ grassS L W H pre j ≤ 400 := by
  have := sumS_bound L (pre.filter fun c => L.kind c.2 c.1 == 0) j
  have := List.length_filter_le (fun c : Fin W × Fin H => L.kind c.2 c.1 == 0) pre
  unfold grassS
  omega
theorem grassS_yes {L : Lawn} {W H : Nat} (pre : List (Fin W × Fin H)) (c : Fin W × Fin H) (h : L.kind c.2 c.1 = 0) : grassS L W H (pre ++ [c]) = addS (grassS L W H pre) (sidesL L ((c.1.val : Int), (c.2.val : Int))) := by
  unfold grassS
  rw [List.filter_append]
  simp only [List.filter_cons, h, List.filter_nil, beq_self_eq_true, if_true]
  exact sumS_snoc L _ c
theorem grassS_no {L : Lawn} {W H : Nat} (pre : List (Fin W × Fin H)) (c : Fin W × Fin H) (h : ¬ L.kind c.2 c.1 = 0) : grassS L W H (pre ++ [c]) = grassS L W H pre := by
  unfold grassS
  rw [List.filter_append]
  simp [h]
/-- How long the edge is. -/
def edgeZ (f : Sd) : Int := f 1 + f 2 + f 3 + f 4
/-- Of a lawn: all sides; how long the edge is. -/
def sidesOfL (L : Lawn) : Sd := if validB L then allS L L.wide.toNat L.high.toNat else fun _ => 0
def wB (b : Bool) : Int := if b then 0 else 2
/-- The first k counts of g are put to those of f. -/
def addTo (f g : Sd) (k : Nat) : Sd := fun j => if j < k then f j + g j else f j
theorem addTo_zero (f g : Sd) : addTo f g 0 = f := by funext j; simp [addTo]
theorem addTo_succ (f g : Sd) (k : Nat) : sdSet (addTo f g k) k (f k + g k) = addTo f g (k + 1) := by
  funext j
  unfold sdSet addTo
  by_cases h : j = k
  · subst h; simp
  · rw [if_neg h]
    by_cases h2 : j < k
    · rw [if_pos h2, if_pos (by omega)]
    · rw [if_neg h2, if_neg (by omega)]
theorem addTo_at (f g : Sd) (k : Nat) : addTo f g k k = f k := by simp [addTo]
theorem addTo_all (f g : Sd) : sdV (addTo f g 5) = sdV (addS f g) := sdV_ext fun k hk => by simp [addTo, addS, hk]
/-- The first k counts together. -/
def preS (f : Sd) : Nat → Int
  | 0 => 0
  | k + 1 => preS f k + f k
theorem preS_bound {f : Sd} {n : Int} (h : ∀ j, 0 ≤ f j ∧ f j ≤ n) : ∀ k : Nat, 0 ≤ preS f k ∧ preS f k ≤ n * k
  | 0 => by simp [preS]
  | k + 1 => by
    have := preS_bound h k
    have := h k
    have e : n * ((k + 1 : Nat) : Int) = n * k + n := by rw [Int.natCast_add, Int.mul_add]; simp
    rw [e]
    simp only [preS]
    omega
theorem preS_all (f : Sd) : preS f 5 - f 0 = edgeZ f := by simp only [preS, edgeZ]; omega
theorem addS_zero (f : Sd) : addS (fun _ => 0) f = f := by funext j; simp [addS]
end Go.Proofs.YtabemgplddfemaaGreatDoor

namespace Go.Proofs.YtabemgplddfemaaGreatDoor
open Go.RowKit
set_option linter.unusedVariables false

attribute [simp, go_sem] sdV_size
theorem sdV_all' (f : Sd) (n : Nat) (h : n = (sdV f).size) : (sdV f).extract 0 n = sdV f := by subst h; exact Array.extract_size
@[go_sem] theorem sdV_all (f : Sd) : (sdV f).extract 0 5 = sdV f := sdV_all' f 5 rfl
@[go_sem] theorem sdV_ones (f : Sd) : Ones (sdV f) = true := by
  refine of_ones fun v hv => ?_
  simp only [sdV, List.mem_cons, List.not_mem_nil, or_false] at hv
  rcases hv with rfl | rfl | rfl | rfl | rfl <;> rfl
@[go_sem] theorem splice_sdV (f g : Sd) : splice (sdV f) 0 (sdV g) = sdV g := splice_all _ _ rfl
@[go_sem] theorem wideSd : wideB Tryz.prog 189 5 = true := by kernel_rfl
section
variable (ρ : Operand → Value) (dst : Option Tmp) (x y : Operand) (t : TypeId) (pos : String) (aft : Array Edge) (g : Option (Nat × Bool)) (w : World)
theorem loadSd : (execOp ρ ⟨dst, .load 189 x, t, pos, aft, g⟩).run Tryz.prog w = opLoad Tryz.prog 189 5 (ρ x) w := rfl
theorem storeSd : (execOp ρ ⟨dst, .store 189 x y, t, pos, aft, g⟩).run Tryz.prog w = opStore Tryz.prog 189 5 (ρ x) (ρ y) w := rfl
theorem allocSd : (execOp ρ ⟨dst, .alloc 189, t, pos, aft, g⟩).run Tryz.prog w = .ok (.value (.pointer (some ⟨w.heap.size, 0, none⟩))) (w.alloc (.cells (sdV fun _ => 0) 189)) := by kernel_rfl
theorem buildSd : (execOp ρ ⟨dst, .build 189 #[], t, pos, aft, g⟩).run Tryz.prog w = .ok (.value (.agg (sdV fun _ => 0))) w := by kernel_rfl
theorem loadSd' (q : Option Nat) : (Oper.semAt q ρ ⟨dst, .load 189 x, t, pos, aft, g⟩).run Tryz.prog w = opLoad Tryz.prog 189 5 (ρ x) w := by
  have h : Oper.semAt q ρ ⟨dst, .load 189 x, t, pos, aft, g⟩ = execOp ρ ⟨dst, .load 189 x, t, pos, aft, g⟩ := by cases q <;> rfl
  rw [h, loadSd]
theorem storeSd' (q : Option Nat) : (Oper.semAt q ρ ⟨dst, .store 189 x y, t, pos, aft, g⟩).run Tryz.prog w = opStore Tryz.prog 189 5 (ρ x) (ρ y) w := by
  have h : Oper.semAt q ρ ⟨dst, .store 189 x y, t, pos, aft, g⟩ = execOp ρ ⟨dst, .store 189 x y, t, pos, aft, g⟩ := by cases q <;> rfl
  rw [h, storeSd]
theorem allocSd' (q : Option Nat) : (Oper.semAt q ρ ⟨dst, .alloc 189, t, pos, aft, g⟩).run Tryz.prog w = .ok (.value (.pointer (some ⟨w.heap.size, 0, none⟩))) (w.alloc (.cells (sdV fun _ => 0) 189)) := by
  have h : Oper.semAt q ρ ⟨dst, .alloc 189, t, pos, aft, g⟩ = execOp ρ ⟨dst, .alloc 189, t, pos, aft, g⟩ := by cases q <;> rfl
  rw [h, allocSd]
theorem buildSd' (q : Option Nat) : (Oper.semAt q ρ ⟨dst, .build 189 #[], t, pos, aft, g⟩).run Tryz.prog w = .ok (.value (.agg (sdV fun _ => 0))) w := by
  have h : Oper.semAt q ρ ⟨dst, .build 189 #[], t, pos, aft, g⟩ = execOp ρ ⟨dst, .build 189 #[], t, pos, aft, g⟩ := by cases q <;> rfl
  rw [h, buildSd]
end
@[go_sem] theorem store_sd (g : Nat) (f f' : Sd) (w : World) : opStoreRow Tryz.prog 189 5 g 0 (sdV f) true (sdV f') w = .ok .skip (w.setRow g (sdV f')) := by
  rw [opStoreRow_at _ _ _ _ _ _ _ _ wideSd rfl (sdV_ones f') (Nat.le_refl 5), splice_sdV]
@[go_sem] theorem load_sd (g : Nat) (f : Sd) (w : World) : opLoadRow Tryz.prog 189 5 g 0 (sdV f) w = .ok (.value (.agg (sdV f))) w := by
  rw [opLoadRow_at _ _ _ _ _ _ _ wideSd (Nat.le_refl 5)]
  rw [Nat.zero_add, sdV_all]
theorem below_setRow {B : Nat} {w w' : World} (h : Below B w w') (g : Nat) (hg : B ≤ g) (cs : Array Value) : Below B w (w'.setRow g cs) :=
  ⟨h.os, h.tape, h.output, by have := h.size; simpa [World.setRow] using this, fun k hk => (setRow_other w' g k cs (by omega)).trans (h.block k hk)⟩
theorem own_setAt {W : World} {B : Nat} {e : TypeId} {size n : Nat} {v : Value} {xs : List Value} (h : W.ownsRow B e size v n xs) (g k : Nat) (u : Value) (hg : g < B) : (W.setCell ⟨g, k, none⟩ u).ownsRow B e size v n xs := by
  refine ⟨h.1, ?_⟩
  rcases h.2 with h2 | ⟨b, cap, cur, hv, hbg, hb, r⟩
  · exact .inl h2
  · exact .inr ⟨b, cap, cur, hv, hbg, (heap_setCell_other W ⟨g, k, none⟩ b u (by dsimp only; omega)).trans hb, r⟩
theorem sd_index0 (f : Sd) (w : World) : (Instr.index 189 (.agg (sdV f)) (.int .i64 ((0 : Nat) : Int))).run Tryz.prog w = .ok (.int .i64 (f 0)) w := by kernel_rfl
theorem sd_index1 (f : Sd) (w : World) : (Instr.index 189 (.agg (sdV f)) (.int .i64 ((1 : Nat) : Int))).run Tryz.prog w = .ok (.int .i64 (f 1)) w := by kernel_rfl
theorem sd_index2 (f : Sd) (w : World) : (Instr.index 189 (.agg (sdV f)) (.int .i64 ((2 : Nat) : Int))).run Tryz.prog w = .ok (.int .i64 (f 2)) w := by kernel_rfl
theorem sd_index3 (f : Sd) (w : World) : (Instr.index 189 (.agg (sdV f)) (.int .i64 ((3 : Nat) : Int))).run Tryz.prog w = .ok (.int .i64 (f 3)) w := by kernel_rfl
theorem sd_index4 (f : Sd) (w : World) : (Instr.index 189 (.agg (sdV f)) (.int .i64 ((4 : Nat) : Int))).run Tryz.prog w = .ok (.int .i64 (f 4)) w := by kernel_rfl
theorem sd_index (f : Sd) (k : Nat) (hk : k < 5) (w : World) : (Instr.index 189 (.agg (sdV f)) (.int .i64 k)).run Tryz.prog w = .ok (.int .i64 (f k)) w := by
  have : k = 0 ∨ k = 1 ∨ k = 2 ∨ k = 3 ∨ k = 4 := by omega
  rcases this with rfl | rfl | rfl | rfl | rfl
  · exact sd_index0 f w
  · exact sd_index1 f w
  · exact sd_index2 f w
  · exact sd_index3 f w
  · exact sd_index4 f w
/-- The numbers of a row of sides, one by one, and how one is exchanged. -/
theorem Holds.sd {w : World} {g : Nat} {f : Sd} (h : Holds w g (sdV f)) (k : Nat) (hk : k < 5) : w.cell? ⟨g, k, none⟩ = some (.int .i64 (f k)) := (h.cell k).trans (sdV_get f k hk)
theorem Holds.setSd {w : World} {g : Nat} {f : Sd} (h : Holds w g (sdV f)) (k : Nat) (hk : k < 5) (v : Int) : Holds (w.setCell ⟨g, k, none⟩ (.int .i64 v)) g (sdV (sdSet f k v)) := by
  have := h.setCell k (.int .i64 v)
  rwa [sdV_set f k hk] at this
end Go.Proofs.YtabemgplddfemaaGreatDoor

namespace Go.Proofs.YtabemgplddfemaaGreatDoor
open Go.RowKit
set_option linter.unusedVariables false
attribute [local go_sem ↓] loadRow loadGrid loadLawn loadMirror storeRow storeGrid storeLawn allocRow allocGrid allocLawn buildZero buildSides loadSd storeSd allocSd buildSd

/-- What lies at a cell that the lawn has: a number from 0 to 3, told by the model and by the program. -/
theorem at_lies {L : Lawn} (hv : validB L = true) (hL : L.Fits) (b : Nat) (c : Pt) (h : isB L c.1 c.2 = true) : ∃ n : Nat, n < 4 ∧ lies L c = n ∧
    ∀ w, Holds w b L.cells → Calls Tryz.prog 30 #[.pointer (some ⟨b, 0, none⟩), .agg #[.int .i8 c.1, .int .i8 c.2]] w fun e w' => e = .returned (.int .i64 n) ∧ Below w.heap.size w w' := by
  obtain ⟨i, j, hi, hj, e1, e2⟩ := cell_nat hv h
  have hk := (validB_true hv).2.2 j i hj hi
  simp only [okAt, Bool.and_eq_true] at hk
  have hk := inB_true hk.1
  refine ⟨(L.kind j i).toNat, by omega, by unfold lies; rw [if_pos h, e1, e2]; rfl, fun w hw => ?_⟩
  have := at_any L hL b i j hi hj w hw
  rw [e1, e2, Int.toNat_of_nonneg hk.1]
  exact this


end Go.Proofs.YtabemgplddfemaaGreatDoor

namespace Go.Proofs.YtabemgplddfemaaGreatDoor
open Go.RowKit
set_option linter.unusedVariables false
attribute [local go_sem ↓] loadRow loadGrid loadLawn loadMirror storeRow storeGrid storeLawn allocRow allocGrid allocLawn buildZero buildSides loadSd storeSd allocSd buildSd

/-- What lies at a cell that the lawn has, told by the program. -/
theorem kind_lies {L : Lawn} (hv : validB L = true) (c : Pt) (h : isB L c.1 c.2 = true) : ∃ n : Nat, n < 4 ∧ lies L c = n ∧
    ∀ w, Calls Tryz.prog 45 #[.agg L.cells, .agg #[.int .i8 c.1, .int .i8 c.2]] w fun e w' => e = .returned (.int .u8 n) ∧ Below w.heap.size w w' := by
  obtain ⟨i, j, hi, hj, e1, e2⟩ := cell_nat hv h
  have hk := (validB_true hv).2.2 j i hj hi
  simp only [okAt, Bool.and_eq_true] at hk
  have hk := inB_true hk.1
  refine ⟨(L.kind j i).toNat, by omega, by unfold lies; rw [if_pos h, e1, e2]; rfl, fun w => ?_⟩
  have := kind_any L i j hi hj w
  rw [e1, e2, Int.toNat_of_nonneg hk.1]
  exact this

end Go.Proofs.YtabemgplddfemaaGreatDoor

namespace Go.Proofs.YtabemgplddfemaaGreatDoor
open Go.RowKit
set_option linter.unusedVariables false

def sdEq (f g : Sd) : Bool := (List.range 5).all fun i => f i == g i
theorem sdEq_refl (f : Sd) : sdEq f f = true := by simp [sdEq]
theorem eqItems_sd {P : Program} (w : World) (d : Nat) {e : TypeId} (he : P.underlying e = some (.int .i64)) (f g : Sd) : ∀ (is : List Nat), (∀ i ∈ is, i < 5) →
    (Op.eqItems (d + 1) e 1 (sdV f) (sdV g) is).run P w = .ok (is.all fun i => f i == g i) w
  | [], _ => by simp [Op.eqItems]
  | i :: is, h => by
    have hi := h i (by simp)
    have ih := eqItems_sd w d he f g is (fun j hj => h j (by simp [hj]))
    simp only [Op.eqItems, Sem.run_bind, Nat.mul_one, run_part_one w he _ _ _ (sdV_get f i hi), run_part_one w he _ _ _ (sdV_get g i hi), Result.andThen_ok, run_equalIn_int w d e .i64 .i64 (f i) (g i) he]
    cases hq : (f i == g i)
    · simp [hq]
    · simp [hq, ih]
theorem equal_sd {P : Program} (w : World) (d : Nat) {t e : TypeId} (ht : P.underlying t = some (.array 5 e)) (he : P.underlying e = some (.int .i64)) (hc : P.cellsOf e = 1) (f g : Sd) :
    (Op.equalIn (d + 2) t (.agg (sdV f)) (.agg (sdV g))).run P w = .ok (sdEq f g) w := by
  obtain ⟨i, hi⟩ := info_of_underlying he
  rw [show d + 2 = (d + 1) + 1 from rfl, run_equalIn_array w (d + 1) _ _ ht hi, hc]
  exact eqItems_sd w d he f g _ (fun i hi => by simpa using hi)
theorem eqlSd (ρ : Operand → Value) (dst : Option Tmp) (x y : Operand) (t : TypeId) (pos : String) (aft : Array Edge) (g : Option (Nat × Bool)) (w : World) :
    (execOp ρ ⟨dst, .binOp .eql 189 x y 189, t, pos, aft, g⟩).run Tryz.prog w = opEql Tryz.prog 189 x y (ρ x) (ρ y) w := rfl
theorem cellsI64 : Tryz.prog.cellsOf 2 = 1 := by kernel_rfl
theorem guardSd : Tryz.prog.eqGuardType Tryz.prog.depth 189 = false := by kernel_rfl
@[go_sem] theorem eqlSd_at (x y : Operand) (f g : Sd) (w : World) : opEql Tryz.prog 189 x y (.agg (sdV f)) (.agg (sdV g)) w = .ok (.value (.bool (sdEq f g))) w := by
  have he := equal_sd (P := Tryz.prog) w 9998 Tryz.underlying189 Tryz.underlying2 cellsI64 f g
  simp only [opEql, Sem.run_bind, run_eqGuard_agg (P := Tryz.prog) w .eql _ x y _ _ guardSd, Result.andThen_ok, run_eql_struct (P := Tryz.prog) w]
  rw [show (10000 : Nat) = 9998 + 2 from rfl, he]
  rfl
/-- Grass at all of four sides. -/
def sdInner : Sd := fun j => match j with | 0 => 4 | _ => 0
theorem buildInner (ρ : Operand → Value) (dst : Option Tmp) (x : Operand) (t : TypeId) (pos : String) (aft : Array Edge) (g : Option (Nat × Bool)) (w : World) :
    (execOp ρ ⟨dst, .build 189 #[(0, x)], t, pos, aft, g⟩).run Tryz.prog w = opBuild Tryz.prog 189 #[(0, ρ x)] w := by kernel_rfl
@[go_sem] theorem buildInner_at (w : World) : opBuild Tryz.prog 189 #[(0, .int .i64 4)] w = .ok (.value (.agg (sdV sdInner))) w := opBuild_of (by kernel_rfl) w
theorem inner_is {L : Lawn} (hv : validB L = true) (c : Pt) : sdEq (sidesL L c) sdInner = innerB L c := by
  have h := sidesL_all hv c
  have b := sidesL_bound L c
  have b0 := b 0
  have b1 := b 1
  have b2 := b 2
  have b3 := b 3
  have b4 := b 4
  unfold sdAll at h
  unfold sdEq innerB
  rw [Bool.eq_iff_iff]
  simp only [List.all_eq_true, List.mem_range, beq_iff_eq, decide_eq_true_eq]
  constructor
  · intro hh; exact hh 0 (by omega)
  · intro hh i hi
    have : i = 0 ∨ i = 1 ∨ i = 2 ∨ i = 3 ∨ i = 4 := by omega
    rcases this with rfl | rfl | rfl | rfl | rfl <;> simp only [sdInner] <;> omega
end Go.Proofs.YtabemgplddfemaaGreatDoor

namespace Go.Proofs.YtabemgplddfemaaGreatDoor
open Go.RowKit Go.Shelf
set_option linter.unusedVariables false
attribute [local go_sem] Oper.semAt_some
attribute [local go_sem ↓] loadRow loadGrid loadLawn loadMirror storeRow storeGrid storeLawn allocRow allocGrid allocLawn buildZero buildSides loadRow' loadGrid' loadLawn' loadMirror' storeRow' storeGrid' storeLawn' allocRow' allocGrid' allocLawn' buildZero' buildSides' loadSd storeSd allocSd buildSd loadSd' storeSd' allocSd' buildSd' eqlSd buildInner




end Go.Proofs.YtabemgplddfemaaGreatDoor

namespace Go.Proofs.YtabemgplddfemaaGreatDoor
open Go.RowKit
set_option linter.unusedVariables false
set_option linter.unusedSimpArgs false
attribute [local go_sem ↓] loadRow loadGrid loadLawn loadMirror storeRow storeGrid storeLawn allocRow allocGrid allocLawn buildZero buildSides

section
variable {P : Program}
theorem zeroPairs (n : Nat) : (Builtin.zeroCells #[.int .i8 0, .int .i8 0] n).toList = List.replicate (n * 2) (.int .i8 0) := by
  apply List.ext_getElem
  · simp [Builtin.zeroCells]
  · intro i h1 h2
    have : i % 2 = 0 ∨ i % 2 = 1 := by omega
    rcases this with h | h <;> simp [Builtin.zeroCells, h]
theorem run_clear_pairs (w : World) (t e ty : TypeId) (ht : P.underlying t = some (.slice e)) (hv : ∀ w, (zeroValue e).run P w = .ok (.agg #[.int .i8 0, .int .i8 0]) w) (b o n c : Nat) (hn : 0 < n)
    (hc : ∀ j, j < n * 2 → (w.cell? ⟨b, o + j, none⟩).isSome = true) (hf : ∀ j, j < n * 2 → w.frozen? ⟨b, o + j, none⟩ = false) :
    (Builtin.clear_ #[t] ty #[.slice (some ⟨b, o, none⟩) n c]).run P w = .ok (.tuple #[]) (w.setCells b o (List.replicate (n * 2) (.int .i8 0))) := by
  have hst := run_storeCells_cells (P := P) b o (List.replicate (n * 2) (.int .i8 0)) 0 w (by simpa using hc) (by simpa using hf) (by intro v hv'; rw [List.eq_of_mem_replicate hv']; rfl)
  simp only [Nat.add_zero] at hst
  obtain ⟨m, rfl⟩ : ∃ m, n = m + 1 := ⟨n - 1, by omega⟩
  simp [Builtin.clear_, run_underlying ht, hv, Value.cells, zeroPairs, hst]
end
theorem own_cutD {w : World} {B : Nat} {e : TypeId} {size n m g cap : Nat} {xs : List Value} (h : w.ownsRow B e size (.slice (some ⟨g, 0, none⟩) n cap) n xs) (hm : m ≤ n) :
    w.ownsRow B e size (.slice (some ⟨g, 0, none⟩) m cap) m (xs.take (m * size)) := by
  obtain ⟨hl, h | ⟨g', cap', cur, he, hb, hg, hn, hc, hs, hx⟩⟩ := h
  · simp at h
  · simp only [Value.slice.injEq, Option.some.injEq, Addr.mk.injEq, and_true, true_and] at he
    obtain ⟨rfl, rfl⟩ := he
    have hms : m * size ≤ n * size := Nat.mul_le_mul_right _ hm
    refine ⟨by rw [List.length_take]; omega, .inr ⟨g, cap, cur, rfl, hb, hg, by omega, hc, hs, ?_⟩⟩
    rw [← hx, List.take_take, Nat.min_eq_left hms]
/-- An own row whose tail is written anew, cut ahead of it. -/
theorem own_clear {w : World} {B : Nat} {e : TypeId} {size n m g cap : Nat} {xs : List Value} (h : w.ownsRow B e size (.slice (some ⟨g, 0, none⟩) n cap) n xs) (hm : m ≤ n) (zs : List Value) :
    (w.setCells g (m * size) zs).ownsRow B e size (.slice (some ⟨g, 0, none⟩) m cap) m (xs.take (m * size)) := by
  obtain ⟨hl, h | ⟨g', cap', cur, he, hb, hg, hn, hc, hs, hx⟩⟩ := own_cutD h hm
  · simp at h
  · simp only [Value.slice.injEq, Option.some.injEq, Addr.mk.injEq, and_true, true_and] at he
    obtain ⟨rfl, rfl⟩ := he
    obtain ⟨cur', h1, h2, h3, h4⟩ := heap_setCells_same g e zs (m * size) cur w hg
    refine ⟨hl, .inr ⟨g, cap, cur', rfl, hb, h1, hn, hc, by omega, ?_⟩⟩
    rw [← hx]
    apply List.ext_getElem?
    intro j
    rw [List.getElem?_take, List.getElem?_take]
    by_cases hj : j < m * size
    · rw [if_pos hj, if_pos hj]
      have := h4 j hj
      simpa using this
    · rw [if_neg hj, if_neg hj]

/-- A row in which those that are kept of the first j cells stand first, i of them, and the others from the j-th on where they were. -/
structure DelIs {W H : Nat} (l : List (Fin W × Fin H)) (keep : Fin W × Fin H → Bool) (i j : Nat) (xs : List Value) : Prop where
  len : xs.length = l.length * 2
  cnt : ((l.take j).filter keep).length = i
  lo : ∀ (q : Nat) (c : Fin W × Fin H), ((l.take j).filter keep)[q]? = some c → xs[q * 2]? = some (.int .i8 c.1.val) ∧ xs[q * 2 + 1]? = some (.int .i8 c.2.val)
  hi : ∀ (q : Nat) (c : Fin W × Fin H), j ≤ q → l[q]? = some c → xs[q * 2]? = some (.int .i8 c.1.val) ∧ xs[q * 2 + 1]? = some (.int .i8 c.2.val)
theorem DelIs.le {W H : Nat} {l : List (Fin W × Fin H)} {keep : Fin W × Fin H → Bool} {i j : Nat} {xs : List Value} (h : DelIs l keep i j xs) (hj : j ≤ l.length) : i ≤ j := by
  rw [← h.cnt]
  refine Nat.le_trans (List.length_filter_le _ _) ?_
  rw [List.length_take]; omega
theorem DelIs.keep {W H : Nat} {l : List (Fin W × Fin H)} {keep : Fin W × Fin H → Bool} {i j : Nat} {xs : List Value} (h : DelIs l keep i j xs) {c : Fin W × Fin H} (hc : l[j]? = some c) (hk : keep c = true) :
    DelIs l keep (i + 1) (j + 1) ((xs.set (i * 2) (.int .i8 c.1.val)).set (i * 2 + 1) (.int .i8 c.2.val)) := by
  have hj : j < l.length := (List.getElem?_eq_some_iff.1 hc).1
  have hij := h.le (Nat.le_of_lt hj)
  have hf : (l.take (j + 1)).filter keep = (l.take j).filter keep ++ [c] := by rw [List.take_add_one, hc, Option.toList_some, List.filter_append]; simp [hk]
  have hl := h.len
  refine ⟨by simp [hl], by rw [hf, List.length_append, h.cnt]; rfl, fun q d hq => ?_, fun q d hq hd => ?_⟩
  · rw [hf] at hq
    by_cases e : q < i
    · rw [List.getElem?_append_left (by rw [h.cnt]; exact e)] at hq
      obtain ⟨a, b⟩ := h.lo q d hq
      rw [List.getElem?_set_ne (by omega), List.getElem?_set_ne (by omega), List.getElem?_set_ne (by omega), List.getElem?_set_ne (by omega)]
      exact ⟨a, b⟩
    · rw [List.getElem?_append_right (by rw [h.cnt]; omega), h.cnt] at hq
      have hqi : q = i := by
        have := (List.getElem?_eq_some_iff.1 hq).1
        simp at this
        omega
      subst hqi
      simp at hq
      subst hq
      constructor
      · rw [List.getElem?_set_ne (by omega), List.getElem?_set_self (by omega)]
      · rw [List.getElem?_set_self (by simp; omega)]
  · obtain ⟨a, b⟩ := h.hi q d (by omega) hd
    rw [List.getElem?_set_ne (by omega), List.getElem?_set_ne (by omega), List.getElem?_set_ne (by omega), List.getElem?_set_ne (by omega)]
    exact ⟨a, b⟩
theorem DelIs.drop {W H : Nat} {l : List (Fin W × Fin H)} {keep : Fin W × Fin H → Bool} {i j : Nat} {xs : List Value} (h : DelIs l keep i j xs) {c : Fin W × Fin H} (hc : l[j]? = some c) (hk : keep c = false) : DelIs l keep i (j + 1) xs := by
  have hf : (l.take (j + 1)).filter keep = (l.take j).filter keep := by rw [List.take_add_one, hc, Option.toList_some, List.filter_append]; simp [hk]
  exact ⟨h.len, by rw [hf]; exact h.cnt, fun q d hq => h.lo q d (by rwa [hf] at hq), fun q d hq hd => h.hi q d (by omega) hd⟩
theorem DelIs.done {W H : Nat} {l : List (Fin W × Fin H)} {keep : Fin W × Fin H → Bool} {i : Nat} {xs : List Value} (h : DelIs l keep i l.length xs) : i = (l.filter keep).length ∧ xs.take (i * 2) = flatV (l.filter keep) := by
  have hc := h.cnt
  have hlo := h.lo
  rw [List.take_of_length_le (Nat.le_refl _)] at hc hlo
  have hle := h.le (Nat.le_refl _)
  refine ⟨hc.symm, ?_⟩
  apply List.ext_getElem?
  intro t
  rw [List.getElem?_take]
  by_cases ht : t < i * 2
  · rw [if_pos ht]
    have hq : t / 2 < (l.filter keep).length := by omega
    have hg := List.getElem?_eq_getElem hq
    obtain ⟨a, b⟩ := hlo _ _ hg
    obtain ⟨a', b'⟩ := flatV_get _ _ _ hg
    rcases Nat.mod_two_eq_zero_or_one t with e | e
    · rw [show t / 2 * 2 = t by omega] at a a'
      rw [a, a']
    · rw [show t / 2 * 2 + 1 = t by omega] at b b'
      rw [b, b']
  · rw [if_neg ht, List.getElem?_eq_none (by rw [flatV_length]; omega)]
theorem DelIs.start {W H : Nat} {l : List (Fin W × Fin H)} {keep : Fin W × Fin H → Bool} {m : Nat} {c : Fin W × Fin H} (hall : ∀ j c, j < m → l[j]? = some c → keep c = true) (hc : l[m]? = some c) (hk : keep c = false) : DelIs l keep m (m + 1) (flatV l) := by
  have hm : m < l.length := (List.getElem?_eq_some_iff.1 hc).1
  have hf : (l.take (m + 1)).filter keep = l.take m := by
    rw [List.take_add_one, hc, Option.toList_some, List.filter_append]
    have : (l.take m).filter keep = l.take m := by
      rw [List.filter_eq_self]
      intro a ha
      obtain ⟨j, hj⟩ := List.mem_iff_getElem?.1 ha
      rw [List.getElem?_take] at hj
      split at hj
      · exact hall j a (by omega) hj
      · cases hj
    rw [this]
    simp [hk]
  refine ⟨flatV_length l, by rw [hf, List.length_take]; omega, fun q d hq => ?_, fun q d hq hd => flatV_get _ _ _ hd⟩
  rw [hf, List.getElem?_take] at hq
  split at hq
  · exact flatV_get _ _ _ hq
  · cases hq

theorem zeroCell (w : World) : (zeroValue 30).run Tryz.prog w = .ok (.agg #[.int .i8 0, .int .i8 0]) w := by kernel_rfl
theorem own_roomD {w : World} {B : Nat} {e : TypeId} {size n g cap : Nat} {xs : List Value} (h : w.ownsRow B e size (.slice (some ⟨g, 0, none⟩) n cap) n xs) : n ≤ cap := by
  obtain ⟨hl, h | ⟨g', cap', cur, he, hb, hg, hn, hc, hs, hx⟩⟩ := h
  · simp at h
  · simp only [Value.slice.injEq, Option.some.injEq, Addr.mk.injEq, and_true, true_and] at he
    obtain ⟨rfl, rfl⟩ := he
    exact hn
theorem own_maxD {w : World} {B : Nat} {e : TypeId} {size n g cap : Nat} {xs : List Value} (h : w.ownsRow B e size (.slice (some ⟨g, 0, none⟩) n cap) n xs) : cap ≤ maxLen := by
  obtain ⟨hl, h | ⟨g', cap', cur, he, hb, hg, hn, hc, hs, hx⟩⟩ := h
  · simp at h
  · simp only [Value.slice.injEq, Option.some.injEq, Addr.mk.injEq, and_true, true_and] at he
    obtain ⟨rfl, rfl⟩ := he
    exact hc
/-- Whether a cell stays in the list of the inner cells, or of the others. -/
def keepI {W H : Nat} (L : Lawn) (inner : Bool) (c : Fin W × Fin H) : Bool := innerB L ((c.1.val : Int), (c.2.val : Int)) == inner


/-- The index of the first cell that goes. -/
def goneI (n m : Nat) : Int := if m < n then (m : Int) else -1


end Go.Proofs.YtabemgplddfemaaGreatDoor

namespace Go.Proofs.YtabemgplddfemaaGreatDoor
open Go.RowKit
set_option linter.unusedVariables false
set_option linter.unusedSimpArgs false
attribute [local go_sem ↓] loadRow loadGrid loadLawn loadMirror storeRow storeGrid storeLawn allocRow allocGrid allocLawn buildZero buildSides

theorem results_cell2_tmp {P : Program} {fn : Func} {p u : Tmp} {ty : TypeId} {n : Nat} (h : fn.results = #[.cell p ty, .tmp u]) (hw : wideB P ty n = true) (tmps : Array Value) {w : World} {g : Nat} {cs : Array Value}
    (hp : tmps.getD p undef = .pointer (some ⟨g, 0, none⟩)) (hg : Holds w g cs) (hn : cs.size = n) : (results fn tmps).run P w = .ok (.tuple #[.agg cs, tmps.getD u undef]) w := results_cell_tmp_holds h hw tmps hp hg hn
/-- A cell's two numbers. -/
def cellC {W H : Nat} (c : Fin W × Fin H) : Array Value := #[.int .i8 c.1.val, .int .i8 c.2.val]
def cellO {W H : Nat} (o : Option (Fin W × Fin H)) : Array Value := match o with
  | none => #[.int .i8 0, .int .i8 0]
  | some c => #[.int .i8 c.1.val, .int .i8 c.2.val]
def pickL {α : Type} (lt : α → α → Bool) (o : Option α) (c : α) : Option α := match o with
  | none => some c
  | some d => if lt c d then some c else some d
/-- The best one of the first i, the first one of several. -/
def bestL {α : Type} (lt : α → α → Bool) (l : List α) (i : Nat) : Option α := (l.take i).foldl (pickL lt) none
theorem bestL_zero {α : Type} (lt : α → α → Bool) (l : List α) : bestL lt l 0 = none := rfl
theorem bestL_succ {α : Type} (lt : α → α → Bool) {l : List α} {i : Nat} {c : α} (h : l[i]? = some c) : bestL lt l (i + 1) = pickL lt (bestL lt l i) c := by
  unfold bestL
  rw [List.take_add_one, h]
  simp
theorem bestL_some {α : Type} (lt : α → α → Bool) {l : List α} : ∀ {i : Nat}, 0 < i → i ≤ l.length → ∃ c, bestL lt l i = some c
  | 0, h, _ => absurd h (by omega)
  | i + 1, _, h => by
    have hc : l[i]? = some l[i] := List.getElem?_eq_getElem (by omega)
    rw [bestL_succ lt hc]
    cases bestL lt l i with
    | none => exact ⟨_, rfl⟩
    | some d =>
      simp only [pickL]
      split
      · exact ⟨_, rfl⟩
      · exact ⟨_, rfl⟩
theorem own_setAt2 {W : World} {B n ga cap : Nat} {e : TypeId} {size : Nat} {xs : List Value} (h : W.ownsRow B e size (.slice (some ⟨ga, 0, none⟩) n cap) n xs) (g k : Nat) (u : Value) (hg : ga ≠ g) : (W.setCell ⟨g, k, none⟩ u).ownsRow B e size (.slice (some ⟨ga, 0, none⟩) n cap) n xs := by
  refine ⟨h.1, ?_⟩
  rcases h.2 with h2 | ⟨b, cap', cur, hv, hbg, hb, r⟩
  · exact .inl h2
  · have : b = ga := by simp at hv; exact hv.1.symm
    exact .inr ⟨b, cap', cur, hv, hbg, (heap_setCell_other W ⟨g, k, none⟩ b u (by dsimp only; omega)).trans hb, r⟩

set_option maxRecDepth 100000 in
set_option maxHeartbeats 4000000 in
theorem bestC_any {W H : Nat} (lt : Fin W × Fin H → Fin W × Fin H → Bool) (f : Nat) (caps : Array Value) (hE : ∀ args w, (callFunc f args).run Tryz.prog w = .ok (.enter f args) w) (B n : Nat) (v : Value) (hn : n ≤ 100) (l : List (Fin W × Fin H)) (hl : l.length = n) (w : World)
    (hC : ∀ (c d : Fin W × Fin H) (w1 : World), Below w.heap.size w w1 → Calls Tryz.prog f (#[.agg #[.int .i8 c.1.val, .int .i8 c.2.val], .agg #[.int .i8 d.1.val, .int .i8 d.2.val]] ++ caps) w1 fun e w' => e = .returned (.bool (lt c d)) ∧ Below w1.heap.size w1 w') (ho : w.ownsRow B 30 2 v n (flatV l)) :
    Calls Tryz.prog 47 #[v, .func (.func f) #[] caps] w fun e w' => e = .returned (.tuple #[.agg (cellO (bestL lt l n)), .bool (decide (0 < n))]) ∧ Below w.heap.size w w' := by
  obtain ⟨av, cv, rfl⟩ := own_slice ho
  have HO := Lib.hid ho
  have HBT := Lib.hid hC
  clear ho hC
  go_enter Tryz.func47, Tryz.ntmps47
  go_wp2_with fail
  obtain ⟨W0, hW0⟩ : ∃ W0, (w.alloc (.cells #[.int .i8 0, .int .i8 0] 30)).alloc (.cells #[.int .i8 0, .int .i8 0] 30) = W0 := ⟨_, rfl⟩
  have g0 : Holds W0 w.heap.size #[.int .i8 0, .int .i8 0] := by rw [← hW0]; exact (Holds.new _ _ _).alloc _
  have g1 : Holds W0 (w.heap.size + 1) #[.int .i8 0, .int .i8 0] := by rw [← hW0]; exact Holds.new' _ _ _ _ (by simp)
  have hb0 : Below w.heap.size w W0 := by rw [← hW0]; exact ((Below.refl w.heap.size w).alloc (Nat.le_refl _) _).alloc (by simp) _
  have HO0 := Lib.hid (own_below HO.out hb0)
  rw [hW0]
  clear hW0
  obtain ⟨s, hs⟩ : ∃ s, w.heap.size = s := ⟨_, rfl⟩
  have hfar : ∀ g, (Value.slice av n cv).ownBlock = some g → g < s := fun g hg => by have := (HO.out.lt g hg).2; omega
  have HFA := Lib.hid hfar
  rw [hs] at g0 g1 hb0 HBT ⊢
  have HS := Lib.hid hs
  clear hs hfar HO
  go_loopw [11] (fun q wr => ∃ i : Nat, i ≤ n ∧ q = .int .i64 i ∧ Holds wr s #[.int .i8 0, .int .i8 0] ∧ Holds wr (s + 1) (cellO (bestL lt l i)) ∧ wr.ownsRow B 30 2 (.slice av n cv) n (flatV l) ∧ Below s w wr) (fun q _ => n - (intOf q).toNat)
  case atStart => exact ⟨0, by omega, rfl, g0, g1, HO0.out, hb0⟩
  case round =>
    obtain ⟨i, hi, rfl, k0, k1, ho, hb⟩ := hrel
    have HOW := Lib.hid ho
    have hsz := k1.lt
    clear g0 g1 hb0 HO0 ho
    by_cases hlt : i < n
    · have hd : decide ((i : Int) < (n : Int)) = true := by simp; omega
      obtain ⟨c, hc⟩ : ∃ c, l[i]? = some c := ⟨_, List.getElem?_eq_getElem (by omega)⟩
      have HSU := Lib.hid (bestL_succ lt hc)
      obtain ⟨fa, fb⟩ := flatV_get _ _ _ hc
      obtain ⟨ga, cap, he, hBg, hgw⟩ := own_form HOW.out (by omega)
      simp only [Value.slice.injEq, true_and] at he
      obtain ⟨rfl, rfl⟩ := he
      have hgs := HFA.out ga rfl
      have ca := own_cell HOW.out _ _ fa
      have cb := own_cell HOW.out _ _ fb
      clear hc fa fb
      have n0 := Holds.new wr #[.int .i8 c.1.val, .int .i8 c.2.val] 30
      have j0 := k0.alloc (.cells #[.int .i8 c.1.val, .int .i8 c.2.val] 30)
      have j1 := k1.alloc (.cells #[.int .i8 c.1.val, .int .i8 c.2.val] 30)
      have hb2 := hb.alloc (by omega) (.cells #[.int .i8 c.1.val, .int .i8 c.2.val] 30)
      have HO2 := Lib.hid (own_below HOW.out ((Below.refl wr.heap.size wr).alloc (Nat.le_refl _) (.cells #[.int .i8 c.1.val, .int .i8 c.2.val] 30)))
      obtain ⟨W2, hW2⟩ : ∃ W2, wr.alloc (.cells #[.int .i8 c.1.val, .int .i8 c.2.val] 30) = W2 := ⟨_, rfl⟩
      obtain ⟨m, hm⟩ : ∃ m, wr.heap.size = m := ⟨_, rfl⟩
      rw [hW2] at n0 j0 j1 hb2 HO2
      rw [hm] at n0 hsz
      clear k0 k1 hb HOW
      obtain ⟨-, -, dn, -, -⟩ := n0.facts
      cases hbi : bestL lt l i
      case none =>
        rw [hbi] at HSU j1
        have hi0 : ((i : Int) == 0) = true := by
          rcases Nat.eq_zero_or_pos i with h | h
          · simp [h]
          · obtain ⟨d, hd⟩ := bestL_some lt (l := l) h (by omega)
            rw [hd] at hbi; cases hbi
        clear hbi
        have j1 : Holds W2 (s + 1) #[.int .i8 0, .int .i8 0] := j1
        obtain ⟨-, -, d1, f1, l1⟩ := j1.facts
        have q1 := (j1.setCell 0 (.int .i8 c.1.val)).setCell 1 (.int .i8 c.2.val)
        go_wp2_with fail
        go_roundw
        case rel => exact ⟨i + 1, by omega, by go_num, (j0.setCell_other _ _ (by dsimp only; omega)).setCell_other _ _ (by dsimp only; omega), by rw [HSU.out]; exact q1, own_setAt2 (own_setAt2 HO2.out (s + 1) 0 _ (by omega)) (s + 1) 1 _ (by omega), (hb2.setCell (p := ⟨s + 1, 0, none⟩) (by dsimp only; omega) _).setCell (p := ⟨s + 1, 1, none⟩) (by dsimp only; omega) _⟩
        case measure => simp [intOf]; omega
      case some d =>
        rw [hbi] at HSU j1
        have hi0 : ((i : Int) == 0) = false := by
          rcases Nat.eq_zero_or_pos i with h | h
          · subst h; rw [bestL_zero] at hbi; cases hbi
          · simp; omega
        clear hbi
        have j1 : Holds W2 (s + 1) #[.int .i8 d.1.val, .int .i8 d.2.val] := j1
        obtain ⟨-, -, d1, f1, l1⟩ := j1.facts
        have HBB := Lib.hid (HBT.out c d)
        go_wp2_with fail
        clear hW2 hm
        refine (HBB.out _ hb2).mono ?_
        rintro e w5 ⟨rfl, hb5⟩
        have n0 := n0.below hb5 n0.lt
        have j0 := j0.below hb5 j0.lt
        have j1 := j1.below hb5 j1.lt
        have HO2 := Lib.hid (own_below HO2.out hb5)
        have hb2 := hb2.trans (hb5.mono (by omega))
        obtain ⟨-, -, d1, f1, l1⟩ := j1.facts
        obtain ⟨-, -, dn, -, -⟩ := n0.facts
        have q1 := (j1.setCell 0 (.int .i8 c.1.val)).setCell 1 (.int .i8 c.2.val)
        obtain ⟨r, hr⟩ : ∃ r, lt c d = r := ⟨_, rfl⟩
        have HR := Lib.hid hr
        rw [hr]
        clear hr
        cases r
        · have HSU := Lib.hid (show bestL lt l (i + 1) = some d by rw [HSU.out]; simp only [pickL]; rw [HR.out]; rfl)
          go_wp2_with fail
          go_roundw
          case rel => exact ⟨i + 1, by omega, by go_num, j0, by rw [HSU.out]; exact j1, HO2.out, hb2⟩
          case measure => simp [intOf]; omega
        · have HSU := Lib.hid (show bestL lt l (i + 1) = some c by rw [HSU.out]; simp only [pickL]; rw [HR.out]; rfl)
          go_wp2_with fail
          go_roundw
          case rel => exact ⟨i + 1, by omega, by go_num, (j0.setCell_other _ _ (by dsimp only; omega)).setCell_other _ _ (by dsimp only; omega), by rw [HSU.out]; exact q1, own_setAt2 (own_setAt2 HO2.out (s + 1) 0 _ (by omega)) (s + 1) 1 _ (by omega), (hb2.setCell (p := ⟨s + 1, 0, none⟩) (by dsimp only; omega) _).setCell (p := ⟨s + 1, 1, none⟩) (by dsimp only; omega) _⟩
          case measure => simp [intOf]; omega
    · obtain rfl : i = n := by omega
      have hd : decide ((i : Int) < (i : Int)) = false := by simp
      obtain ⟨o, hoo⟩ : ∃ o, bestL lt l i = o := ⟨_, rfl⟩
      rw [hoo] at k1
      have HOO := Lib.hid hoo
      have HW := Lib.hid hb
      obtain ⟨x, y, hxy⟩ : ∃ x y, cellO o = #[.int .i8 x, .int .i8 y] := by
        cases o with
        | none => exact ⟨_, _, rfl⟩
        | some c => exact ⟨_, _, rfl⟩
      rw [hxy] at k1
      have HXY := Lib.hid hxy
      obtain ⟨-, -, d1, f1, l1⟩ := k1.facts
      obtain ⟨-, -, d0, f0, l0⟩ := k0.facts
      have q1 := (k0.setCell 0 (.int .i8 x)).setCell 1 (.int .i8 y)
      have hb9 : Below w.heap.size w ((wr.setCell ⟨s, 0, none⟩ (.int .i8 x)).setCell ⟨s, 1, none⟩ (.int .i8 y)) := by
        have := HS.out
        subst this
        exact (HW.out.setCell (p := ⟨w.heap.size, 0, none⟩) (by dsimp only; omega) _).setCell (p := ⟨w.heap.size, 1, none⟩) (by dsimp only; omega) _
      clear hoo hxy hb
      go_wp2_with fail
      exact bodyPost_ret (results_cell_tmp_holds rfl (by kernel_rfl) _ rfl q1 rfl) rfl ⟨by rw [HOO.out, HXY.out]; simp, hb9⟩

set_option maxRecDepth 100000 in
set_option maxHeartbeats 2000000 in
theorem indexC_any {Wn Hn : Nat} (keep : Fin Wn × Fin Hn → Bool) (f : Nat) (caps : Array Value) (hE : ∀ args w, (callFunc f args).run Tryz.prog w = .ok (.enter f args) w) (B n : Nat) (v : Value) (hn : n ≤ 100) (l : List (Fin Wn × Fin Hn)) (hl : l.length = n) (m : Nat) (hmn : m ≤ n) (hm1 : ∀ j d, j < m → l[j]? = some d → keep d = true) (hm2 : ∀ d, l[m]? = some d → keep d = false)
    (w : World) (ho : w.ownsRow B 30 2 v n (flatV l)) (hC : ∀ (d : Fin Wn × Fin Hn) (w1 : World), Below w.heap.size w w1 → Calls Tryz.prog f (#[.agg #[.int .i8 d.1.val, .int .i8 d.2.val]] ++ caps) w1 fun e w' => e = .returned (.bool (!keep d)) ∧ Below w1.heap.size w1 w') :
    Calls Tryz.prog 59 #[v, .func (.func f) #[] caps] w fun e w' => e = .returned (.int .i64 (goneI n m)) ∧ Below w.heap.size w w' := by
  obtain ⟨av, cv, rfl⟩ := own_slice ho
  have HIN := Lib.hid hC
  have HO := Lib.hid ho
  have HM := Lib.hid (And.intro hm1 hm2)
  clear ho hC hm1 hm2
  go_enter Tryz.func59, Tryz.ntmps59
  go_wp2_with fail
  go_loopw [8] (fun i wr => ∃ k : Nat, k ≤ m ∧ i = .int .i64 k ∧ Below w.heap.size w wr) (fun i _ => n - (intOf i).toNat)
  case atStart => exact ⟨0, by omega, rfl, Below.refl _ _⟩
  case round =>
    obtain ⟨k, hk, rfl, hbk⟩ := hrel
    by_cases hlt : k < n
    · have hd : decide ((k : Int) < (n : Int)) = true := by simp; omega
      obtain ⟨d, hdk⟩ : ∃ d, l[k]? = some d := ⟨_, List.getElem?_eq_getElem (by omega)⟩
      have HD := Lib.hid hdk
      obtain ⟨fa, fb⟩ := flatV_get _ _ _ hdk
      have ho := own_below HO.out hbk
      obtain ⟨ga, cap, he, hBg, hg⟩ := own_form ho (by omega)
      simp only [Value.slice.injEq, true_and] at he
      obtain ⟨rfl, rfl⟩ := he
      have ca := own_cell ho _ _ fa
      have cb := own_cell ho _ _ fb
      have hsz := hbk.size
      clear ho hdk fa fb
      obtain ⟨r, hr⟩ : ∃ r, (!keep d) = r := ⟨_, rfl⟩
      have HR := Lib.hid (HIN.out d)
      rw [hr] at HR
      have HKP := Lib.hid (show keep d = !r by rw [← hr]; simp)
      clear hr
      go_wp2_with fail
      refine (HR.out _ hbk).mono ?_
      rintro e w2 ⟨rfl, hb1⟩
      have hb2 := below_onto hbk hb1
      clear hb1 ca cb hbk
      cases r
      · have HKM := Lib.hid (show k < m by
          rcases Nat.lt_or_ge k m with h | h
          · exact h
          · have := HM.out.2 d (by rw [show m = k by omega]; exact HD.out)
            rw [HKP.out] at this
            cases this)
        go_wp2_with fail
        go_roundw
        case rel => exact ⟨k + 1, HKM.out, by go_num, hb2⟩
        case measure => simp [intOf]; omega
      · have HKM := Lib.hid (show goneI n m = k by
          rcases Nat.lt_or_ge k m with h | h
          · have := HM.out.1 k d h HD.out
            rw [HKP.out] at this
            cases this
          · unfold goneI; rw [show m = k by omega, if_pos hlt])
        go_wp2_with fail
        go_ret
        exact ⟨by rw [HKM.out]; rfl, hb2⟩
    · have hd : decide ((k : Int) < (n : Int)) = false := by simp; omega
      have HKM := Lib.hid (show goneI n m = -1 by unfold goneI; rw [if_neg (by omega)])
      go_wp2_with fail
      go_ret
      exact ⟨by rw [HKM.out]; rfl, hbk⟩

set_option maxRecDepth 100000 in
set_option maxHeartbeats 4000000 in
theorem deleteC_any {Wn Hn : Nat} (keep : Fin Wn × Fin Hn → Bool) (f : Nat) (caps : Array Value) (hE : ∀ args w, (callFunc f args).run Tryz.prog w = .ok (.enter f args) w) (B n : Nat) (v : Value) (hn : n ≤ 100) (l : List (Fin Wn × Fin Hn)) (hl : l.length = n) (w : World) (ho : w.ownsRow B 30 2 v n (flatV l)) (hC : ∀ (d : Fin Wn × Fin Hn) (w1 : World), Below B w w1 → Calls Tryz.prog f (#[.agg #[.int .i8 d.1.val, .int .i8 d.2.val]] ++ caps) w1 fun e w' => e = .returned (.bool (!keep d)) ∧ Below w1.heap.size w1 w') (hBle : B ≤ w.heap.size) :
    Calls Tryz.prog 65 #[v, .func (.func f) #[] caps] w fun e w' => (∃ u, e = .returned u ∧ w'.ownsRow B 30 2 u (l.filter (keep)).length (flatV (l.filter (keep)))) ∧ Below B w w' := by
  obtain ⟨m, hmn, hm1, hm2⟩ : ∃ m, m ≤ n ∧ (∀ j d, j < m → l[j]? = some d → keep d = true) ∧ (∀ d, l[m]? = some d → keep d = false) := by
    subst hl
    clear ho hC
    induction l with
    | nil => exact ⟨0, by simp, fun j d h => by omega, fun d h => by simp at h⟩
    | cons x l ih =>
      cases hx : keep x with
      | false => exact ⟨0, by simp, fun j d h => by omega, fun d h => by simp at h; subst h; exact hx⟩
      | true =>
        obtain ⟨m, h1, h2, h3⟩ := ih (by simp at hn; omega)
        refine ⟨m + 1, by simp; omega, fun j d hj hd => ?_, fun d hd => h3 d (by simpa using hd)⟩
        cases j with
        | zero => simp at hd; subst hd; exact hx
        | succ j => exact h2 j d (by omega) (by simpa using hd)
  have HX := Lib.hid (indexC_any keep f caps hE B n v hn l hl m hmn hm1 hm2 w ho (fun d w1 h => hC d w1 (h.mono hBle)))
  have HIN := Lib.hid hC
  have HM := Lib.hid (And.intro hm1 hm2)
  obtain ⟨av, cv, rfl⟩ := own_slice ho
  have HO := Lib.hid ho
  clear ho hC hm1 hm2
  rcases Nat.lt_or_ge m n with hmlt | hmge
  · have hgi : goneI n m = m := by unfold goneI; rw [if_pos hmlt]
    rw [hgi] at HX
    obtain ⟨dm, hdm⟩ : ∃ d, l[m]? = some d := ⟨_, List.getElem?_eq_getElem (by omega)⟩
    have HST := Lib.hid (DelIs.start HM.out.1 hdm (HM.out.2 dm hdm))
    have hd0 : ((m : Int) == -1) = false := by simp
    clear hgi hdm
    go_enter Tryz.func65, Tryz.ntmps65
    go_wp2_with fail
    refine HX.out.mono ?_
    rintro e w1 ⟨rfl, hb1⟩
    have ho1 := own_below HO.out hb1
    obtain ⟨g, cap, he, hBg, hg⟩ := own_form ho1 (by omega)
    simp only [Value.slice.injEq, true_and] at he
    obtain ⟨rfl, rfl⟩ := he
    have HO1 := Lib.hid ho1
    have hBw : B ≤ w.heap.size := by have := own_lt HO.out; omega
    have hbw : Below B w w1 := hb1.mono hBw
    clear ho1 hb1 HX HO
    go_wp2_with fail
    go_loopw [5, 6] (fun i j wr => ∃ p q xs, q ≤ n ∧ m + 1 ≤ q ∧ i = .int .i64 (p : Nat) ∧ j = .int .i64 (q : Nat) ∧ DelIs l (keep) p q xs ∧ wr.ownsRow B 30 2 (.slice (some ⟨g, 0, none⟩) n cv) n xs ∧ Below B w wr) (fun _ j _ => n - (intOf j).toNat)
    case atStart => exact ⟨m, m + 1, flatV l, by omega, by omega, rfl, rfl, HST.out, HO1.out, hbw⟩
    case round =>
      obtain ⟨p, q, xs, hq, hq1, rfl, rfl, hD, hoq, hbel⟩ := hrel
      have HD := Lib.hid hD
      have HOQ := Lib.hid hoq
      have hgw := (own_lt hoq).2
      clear hD hoq HO1 hbw HST
      by_cases hlt : q < n
      · have hd : decide ((q : Int) < (n : Int)) = true := by simp; omega
        obtain ⟨d, hdq⟩ : ∃ d, l[q]? = some d := ⟨_, List.getElem?_eq_getElem (by omega)⟩
        have HDQ := Lib.hid hdq
        obtain ⟨fa, fb⟩ := HD.out.hi q d (Nat.le_refl _) hdq
        have ca := own_cell HOQ.out _ _ fa
        have cb := own_cell HOQ.out _ _ fb
        have hpq := HD.out.le (by omega)
        obtain ⟨r, hr⟩ : ∃ r, (!keep d) = r := ⟨_, rfl⟩
        have HR := Lib.hid (HIN.out d)
        rw [hr] at HR
        have HKP := Lib.hid (show keep d = !r by rw [← hr]; simp)
        clear hr hdq fa fb
        have n0 := Holds.new wr #[.int .i8 d.1.val, .int .i8 d.2.val] 30
        have o0 := own_below HOQ.out ((Below.refl wr.heap.size wr).alloc (Nat.le_refl _) (.cells #[.int .i8 d.1.val, .int .i8 d.2.val] 30))
        have hb0 := hbel.alloc (by omega) (.cells #[.int .i8 d.1.val, .int .i8 d.2.val] 30)
        obtain ⟨-, -, dn, -, -⟩ := n0.facts
        have HO0 := Lib.hid o0
        clear o0 hbel
        go_wp2_with fail
        refine (HR.out _ hb0).mono ?_
        rintro e w2 ⟨rfl, hb2⟩
        have n2 := n0.below hb2 n0.lt
        have hbel2 : Below B w w2 := hb0.trans (hb2.mono (by simp; omega))
        have HO2 := Lib.hid (own_below HO0.out hb2)
        have hsz2 := n2.lt
        obtain ⟨k, hk⟩ : ∃ k, wr.heap.size = k := ⟨_, rfl⟩
        rw [hk] at n2 hsz2 hgw
        clear n0 hb0 hb2 HO0 HR HOQ ca cb dn
        cases r
        · have HD2 := Lib.hid (HD.out.keep HDQ.out (by rw [HKP.out]; rfl))
          have f0 := own_free HO2.out (p * 2)
          have f1 := own_free HO2.out (p * 2 + 1)
          have hxl := HD.out.len
          obtain ⟨x0, hx0⟩ : ∃ x, xs[p * 2]? = some x := ⟨_, List.getElem?_eq_getElem (by omega)⟩
          obtain ⟨x1, hx1⟩ : ∃ x, xs[p * 2 + 1]? = some x := ⟨_, List.getElem?_eq_getElem (by omega)⟩
          have d0 := own_cell HO2.out _ _ hx0
          have d1 := own_cell HO2.out _ _ hx1
          have HS := Lib.hid (own_set (own_set HO2.out (p * 2) (.int .i8 d.1.val) (by omega)) (p * 2 + 1) (.int .i8 d.2.val) (by simp; omega))
          obtain ⟨-, -, dn, -, -⟩ := n2.facts
          clear hx0 hx1
          go_wp2_with fail
          go_roundw
          case rel => exact ⟨p + 1, q + 1, _, by omega, by omega, by go_num, by go_num, HD2.out, HS.out, (hbel2.setCell (p := ⟨g, p * 2, none⟩) (by dsimp only; omega) _).setCell (p := ⟨g, p * 2 + 1, none⟩) (by dsimp only; omega) _⟩
          case measure => simp [intOf]; omega
        · have HD2 := Lib.hid (HD.out.drop HDQ.out (by rw [HKP.out]; rfl))
          go_wp2_with fail
          go_roundw
          case rel => exact ⟨p, q + 1, xs, by omega, by omega, rfl, by go_num, HD2.out, HO2.out, hbel2⟩
          case measure => simp [intOf]; omega
      · obtain rfl : q = n := by omega
        subst hl
        obtain ⟨hp, hx⟩ := HD.out.done
        have HX := Lib.hid hx
        have HP := Lib.hid hp
        have hpn : p < l.length := by
          rw [hp]
          obtain ⟨dm, hdm⟩ : ∃ d, l[m]? = some d := ⟨_, List.getElem?_eq_getElem (by omega)⟩
          have := (List.length_filter_lt_length_iff_exists (p := keep)).2 ⟨dm, List.mem_of_getElem? hdm, by rw [HM.out.2 dm hdm]; decide⟩
          exact this
        have hcap := own_roomD HOQ.out
        have hmx := own_maxD HOQ.out
        have hd : decide (((l.length : Nat) : Int) < (l.length : Int)) = false := by simp
        have hcl := fun ty => run_clear_pairs (P := Tryz.prog) wr 47 30 ty Tryz.underlying47 zeroCell g (p * 2) (l.length - p) (cv - p) (by omega) (fun j hj => by
          obtain ⟨x, hx⟩ : ∃ x, xs[p * 2 + j]? = some x := ⟨_, List.getElem?_eq_getElem (by have := HD.out.len; omega)⟩
          rw [own_cell HOQ.out _ _ hx]; rfl) (fun j hj => own_free HOQ.out _)
        have HCL := Lib.hid (own_clear HOQ.out (m := p) (by omega) (List.replicate ((l.length - p) * 2) (.int .i8 0)))
        clear hp hx
        go_wp2_with fail
        go_ret
        refine ⟨⟨_, rfl, ?_⟩, hbel.grown (grown_setCells _ _ _ (grown_refl _ g)) (by omega) (fun k hk => by cases hk; omega)⟩
        rw [← HP.out, ← HX.out]
        exact HCL.out
  · have hgi : goneI n m = -1 := by unfold goneI; rw [if_neg (by omega)]
    rw [hgi] at HX
    have HF := Lib.hid (show l.filter (keep) = l by
      rw [List.filter_eq_self]
      intro a ha
      obtain ⟨j, hj⟩ := List.mem_iff_getElem?.1 ha
      exact HM.out.1 j a (by have := (List.getElem?_eq_some_iff.1 hj).1; omega) hj)
    clear hgi
    go_enter Tryz.func65, Tryz.ntmps65
    go_wp2_with fail
    refine HX.out.mono ?_
    rintro e w1 ⟨rfl, hb1⟩
    go_wp2_with fail
    go_ret
    refine ⟨⟨_, rfl, ?_⟩, hb1.mono hBle⟩
    rw [HF.out, hl]
    exact own_below HO.out hb1
end Go.Proofs.YtabemgplddfemaaGreatDoor
