/- Sides, counted by what lies beside them. Sides by value: five numbers. Sides, of the model. Sides, of the program. What '==' says of two values of sides. All sides, of the program; how long the edge is. slices.DeleteFunc over cells: the list's own memory is written. Functions of the library and of the program that are told by a closure over cells: best, IndexFunc, DeleteFunc; for every closure whose answers are known. -/
import Derived.Test.YtaeenkjbmlgcmaaZF
import Derived.Test.YtaeenkjbmlgcmaaZC
import Derived.Test.YtaeenkjbmlgcmaaZG
import Derived.Lib.SliceRun
namespace Go.Proofs.Ytaeenkjbmlgcmaa
open Go.RowKit
set_option linter.unusedVariables false

/-- Counts by what lies beside. -/
abbrev Sd := Nat → Int
/-- The five counts as values. -/
def sdV (f : Sd) : Array Value := #[.int .i64 (f 0), .int .i64 (f 1), .int .i64 (f 2), .int .i64 (f 3), .int .i64 (f 4)]
theorem sdV_size (f : Sd) : (sdV f).size = 5 := rfl
theorem sdV_get (f : Sd) (k : Nat) (hk : k < 5) : (sdV f)[k]? = some (.int .i64 (f k)) := by
  have : k = 0 ∨ k = 1 ∨ k = 2 ∨ k = 3 ∨ k = 4 := by omega
  rcases this with rfl | rfl | rfl | rfl | rfl <;> rfl
/-- One more at a place; a place's count exchanged. -/
def sdSet (f : Sd) (k : Nat) (v : Int) : Sd := fun j => if j = k then v else f j
def bump (f : Sd) (k : Nat) : Sd := sdSet f k (f k + 1)
theorem sdV_set (f : Sd) (k : Nat) (hk : k < 5) (v : Int) : (sdV f).setIfInBounds k (.int .i64 v) = sdV (sdSet f k v) := by
  have : k = 0 ∨ k = 1 ∨ k = 2 ∨ k = 3 ∨ k = 4 := by omega
  rcases this with rfl | rfl | rfl | rfl | rfl <;> simp [sdV, sdSet]
theorem sdV_ext {f g : Sd} (h : ∀ k, k < 5 → f k = g k) : sdV f = sdV g := by
  simp only [sdV, h 0 (by omega), h 1 (by omega), h 2 (by omega), h 3 (by omega), h 4 (by omega)]
/-- What lies at a place: its kind, or 4 for nothing. -/
def lies (L : Lawn) (d : Pt) : Nat := if isB L d.1 d.2 then (L.kind d.2.toNat d.1.toNat).toNat else 4
/-- The first n sides of a cell, counted. -/
def sidesTo (L : Lawn) (c : Pt) (n : Nat) : Sd := ((beside c).take n).foldl (fun f d => bump f (lies L d)) fun _ => 0
def sidesL (L : Lawn) (c : Pt) : Sd := sidesTo L c 4
theorem sidesTo_zero (L : Lawn) (c : Pt) : sidesTo L c 0 = fun _ => 0 := rfl
theorem sidesTo_succ (L : Lawn) (c : Pt) {k : Nat} {d : Pt} (h : (beside c)[k]? = some d) : sidesTo L c (k + 1) = bump (sidesTo L c k) (lies L d) := by
  unfold sidesTo
  rw [List.take_add_one, h]
  simp
theorem bump_bound {f : Sd} {n : Int} (k : Nat) (h : ∀ j, 0 ≤ f j ∧ f j ≤ n) : ∀ j, 0 ≤ bump f k j ∧ bump f k j ≤ n + 1 := by
  intro j
  have := h j
  have := h k
  unfold bump sdSet
  split <;> omega
theorem sidesTo_bound (L : Lawn) (c : Pt) (n : Nat) : ∀ j, 0 ≤ sidesTo L c n j ∧ sidesTo L c n j ≤ n := by
  induction n with
  | zero => intro j; simp [sidesTo_zero]
  | succ n ih =>
    cases h : (beside c)[n]? with
    | some d =>
      rw [sidesTo_succ L c h]
      have := bump_bound (lies L d) ih
      intro j
      have := this j
      omega
    | none =>
      have e : sidesTo L c (n + 1) = sidesTo L c n := by unfold sidesTo; rw [List.take_add_one, h]; simp
      rw [e]
      intro j
      have := ih j
      omega
theorem sidesL_bound (L : Lawn) (c : Pt) (j : Nat) : 0 ≤ sidesL L c j ∧ sidesL L c j ≤ 4 := by
  have := sidesTo_bound L c 4 j
  simpa [sidesL] using this
/-- All five counts together. -/
def sdAll (f : Sd) : Int := f 0 + f 1 + f 2 + f 3 + f 4
theorem bump_all (f : Sd) (k : Nat) (hk : k < 5) : sdAll (bump f k) = sdAll f + 1 := by
  have : k = 0 ∨ k = 1 ∨ k = 2 ∨ k = 3 ∨ k = 4 := by omega
  rcases this with rfl | rfl | rfl | rfl | rfl <;> simp [sdAll, bump, sdSet] <;> omega
theorem lies_lt {L : Lawn} (hv : validB L = true) (d : Pt) : lies L d < 5 := by
  unfold lies
  split
  · rename_i h
    obtain ⟨h1, h2, h3⟩ := validB_true hv
    have hi := isB_in h
    have hk := h3 d.2.toNat d.1.toNat (by omega) (by omega)
    simp only [okAt, Bool.and_eq_true] at hk
    have := inB_true hk.1
    omega
  · omega
theorem sidesL_all {L : Lawn} (hv : validB L = true) (c : Pt) : sdAll (sidesL L c) = 4 := by
  have h0 := sidesTo_succ L c (k := 0) rfl
  have h1 := sidesTo_succ L c (k := 1) rfl
  have h2 := sidesTo_succ L c (k := 2) rfl
  have h3 := sidesTo_succ L c (k := 3) rfl
  unfold sidesL
  rw [h3, bump_all _ _ (lies_lt hv _), h2, bump_all _ _ (lies_lt hv _), h1, bump_all _ _ (lies_lt hv _), h0, bump_all _ _ (lies_lt hv _), sidesTo_zero]
  rfl
/-- Whether a cell has grass at all of its sides. -/
def innerB (L : Lawn) (c : Pt) : Bool := decide (sidesL L c 0 = 4)
def addS (f g : Sd) : Sd := fun j => f j + g j
/-- The sides of some cells. -/
def sumS {W H : Nat} (L : Lawn) (l : List (Fin W × Fin H)) : Sd := l.foldl (fun f c => addS f (sidesL L ((c.1.val : Int), (c.2.val : Int)))) fun _ => 0
theorem sumS_nil {W H : Nat} (L : Lawn) : sumS L ([] : List (Fin W × Fin H)) = fun _ => 0 := rfl
theorem sumS_snoc {W H : Nat} (L : Lawn) (l : List (Fin W × Fin H)) (c : Fin W × Fin H) : sumS L (l ++ [c]) = addS (sumS L l) (sidesL L ((c.1.val : Int), (c.2.val : Int))) := by simp [sumS]
theorem sumS_bound {W H : Nat} (L : Lawn) (l : List (Fin W × Fin H)) : ∀ j, 0 ≤ sumS L l j ∧ sumS L l j ≤ 4 * l.length := by
  suffices h : ∀ (l : List (Fin W × Fin H)) (f : Sd) (n : Int), (∀ j, 0 ≤ f j ∧ f j ≤ n) → ∀ j, 0 ≤ (l.foldl (fun f c => addS f (sidesL L ((c.1.val : Int), (c.2.val : Int)))) f) j ∧ (l.foldl (fun f c => addS f (sidesL L ((c.1.val : Int), (c.2.val : Int)))) f) j ≤ n + 4 * l.length by
    intro j
    have := h l (fun _ => 0) 0 (fun _ => ⟨by omega, by omega⟩) j
    unfold sumS
    omega
  intro l
  induction l with
  | nil => intro f n h j; have := h j; simpa using this
  | cons c l ih =>
    intro f n h j
    have := ih (addS f (sidesL L ((c.1.val : Int), (c.2.val : Int)))) (n + 4) (fun j => by have := h j; have := sidesL_bound L ((c.1.val : Int), (c.2.val : Int)) j; unfold addS; omega) j
    simp only [List.foldl_cons, List.length_cons]
    omega
/-- The sides of all cells of grass of a lawn of W by H. -/
def grassS (L : Lawn) (W H : Nat) (pre : List (Fin W × Fin H)) : Sd := sumS L (pre.filter fun c => L.kind c.2 c.1 == 0)
def allS (L : Lawn) (W H : Nat) : Sd := grassS L W H (allC W H)
theorem grassS_bound (L : Lawn) (W H : Nat) (pre : List (Fin W × Fin H)) (hp : pre.length ≤ 100) (j : Nat) : 0 ≤ grassS L W H pre j ∧ grassS L W H pre j ≤ 400 := by
  have := sumS_bound L (pre.filter fun c => L.kind c.2 c.1 == 0) j
  have := List.length_filter_le (fun c : Fin W × Fin H => L.kind c.2 c.1 == 0) pre
  unfold grassS
  omega
theorem grassS_yes {L : Lawn} {W H : Nat} (pre : List (Fin W × Fin H)) (c : Fin W × Fin H) (h : L.kind c.2 c.1 = 0) : grassS L W H (pre ++ [c]) = addS (grassS L W H pre) (sidesL L ((c.1.val : Int), (c.2.val : Int))) := by
  unfold grassS
  rw [List.filter_append]
  simp only [List.filter_cons, h, List.filter_nil, beq_self_eq_true, if_true]
  exact sumS_snoc L _ c
theorem grassS_no {L : Lawn} {W H : Nat} (pre : List (Fin W × Fin H)) (c : Fin W × Fin H) (h : ¬ L.kind c.2 c.1 = 0) : grassS L W H (pre ++ [c]) = grassS L W H pre := by
  unfold grassS
  rw [List.filter_append]
  simp [h]
/-- How long the edge is. -/
def edgeZ (f : Sd) : Int := f 1 + f 2 + f 3 + f 4
/-- Of a lawn: all sides; how long the edge is. -/
def sidesOfL (L : Lawn) : Sd := if validB L then allS L L.wide.toNat L.high.toNat else fun _ => 0
def wB (b : Bool) : Int := if b then 0 else 2
/-- The first k counts of g are put to those of f. -/
def addTo (f g : Sd) (k : Nat) : Sd := fun j => if j < k then f j + g j else f j
theorem addTo_zero (f g : Sd) : addTo f g 0 = f := by funext j; simp [addTo]
theorem addTo_succ (f g : Sd) (k : Nat) : sdSet (addTo f g k) k (f k + g k) = addTo f g (k + 1) := by
  funext j
  unfold sdSet addTo
  by_cases h : j = k
  · subst h; simp
  · rw [if_neg h]
    by_cases h2 : j < k
    · rw [if_pos h2, if_pos (by omega)]
    · rw [if_neg h2, if_neg (by omega)]
theorem addTo_at (f g : Sd) (k : Nat) : addTo f g k k = f k := by simp [addTo]
theorem addTo_all (f g : Sd) : sdV (addTo f g 5) = sdV (addS f g) := sdV_ext fun k hk => by simp [addTo, addS, hk]
/-- The first k counts together. -/
def preS (f : Sd) : Nat → Int
  | 0 => 0
  | k + 1 => preS f k + f k
theorem preS_bound {f : Sd} {n : Int} (h : ∀ j, 0 ≤ f j ∧ f j ≤ n) : ∀ k : Nat, 0 ≤ preS f k ∧ preS f k ≤ n * k
  | 0 => by simp [preS]
  | k + 1 => by
    have := preS_bound h k
    have := h k
    have e : n * ((k + 1 : Nat) : Int) = n * k + n := by rw [Int.natCast_add, Int.mul_add]; simp
    rw [e]
    simp only [preS]
    omega
theorem preS_all (f : Sd) : preS f 5 - f 0 = edgeZ f := by simp only [preS, edgeZ]; omega
theorem addS_zero (f : Sd) : addS (fun _ => 0) f = f := by funext j; simp [addS]
end Go.Proofs.Ytaeenkjbmlgcmaa

namespace Go.Proofs.Ytaeenkjbmlgcmaa
open Go.RowKit
set_option linter.unusedVariables false

attribute [simp, go_sem] sdV_size
theorem sdV_all' (f : Sd) (n : Nat) (h : n = (sdV f).size) : (sdV f).extract 0 n = sdV f := by subst h; exact Array.extract_size
@[go_sem] theorem sdV_all (f : Sd) : (sdV f).extract 0 5 = sdV f := sdV_all' f 5 rfl
@[go_sem] theorem sdV_ones (f : Sd) : Ones (sdV f) = true := by
  refine of_ones fun v hv => ?_
  simp only [sdV, List.mem_cons, List.not_mem_nil, or_false] at hv
  rcases hv with rfl | rfl | rfl | rfl | rfl <;> rfl
@[go_sem] theorem splice_sdV (f g : Sd) : splice (sdV f) 0 (sdV g) = sdV g := splice_all _ _ rfl
@[go_sem] theorem wideSd : wideB Try.prog 159 5 = true := by kernel_rfl
section
variable (ρ : Operand → Value) (dst : Option Tmp) (x y : Operand) (t : TypeId) (pos : String) (aft : Array Edge) (g : Option (Nat × Bool)) (w : World)
theorem loadSd : (execOp ρ ⟨dst, .load 159 x, t, pos, aft, g⟩).run Try.prog w = opLoad Try.prog 159 5 (ρ x) w := rfl
theorem storeSd : (execOp ρ ⟨dst, .store 159 x y, t, pos, aft, g⟩).run Try.prog w = opStore Try.prog 159 5 (ρ x) (ρ y) w := rfl
theorem allocSd : (execOp ρ ⟨dst, .alloc 159, t, pos, aft, g⟩).run Try.prog w = .ok (.value (.pointer (some ⟨w.heap.size, 0, none⟩))) (w.alloc (.cells (sdV fun _ => 0) 159)) := by kernel_rfl
theorem buildSd : (execOp ρ ⟨dst, .build 159 #[], t, pos, aft, g⟩).run Try.prog w = .ok (.value (.agg (sdV fun _ => 0))) w := by kernel_rfl
theorem loadSd' (q : Option Nat) : (Oper.semAt q ρ ⟨dst, .load 159 x, t, pos, aft, g⟩).run Try.prog w = opLoad Try.prog 159 5 (ρ x) w := by
  have h : Oper.semAt q ρ ⟨dst, .load 159 x, t, pos, aft, g⟩ = execOp ρ ⟨dst, .load 159 x, t, pos, aft, g⟩ := by cases q <;> rfl
  rw [h, loadSd]
theorem storeSd' (q : Option Nat) : (Oper.semAt q ρ ⟨dst, .store 159 x y, t, pos, aft, g⟩).run Try.prog w = opStore Try.prog 159 5 (ρ x) (ρ y) w := by
  have h : Oper.semAt q ρ ⟨dst, .store 159 x y, t, pos, aft, g⟩ = execOp ρ ⟨dst, .store 159 x y, t, pos, aft, g⟩ := by cases q <;> rfl
  rw [h, storeSd]
theorem allocSd' (q : Option Nat) : (Oper.semAt q ρ ⟨dst, .alloc 159, t, pos, aft, g⟩).run Try.prog w = .ok (.value (.pointer (some ⟨w.heap.size, 0, none⟩))) (w.alloc (.cells (sdV fun _ => 0) 159)) := by
  have h : Oper.semAt q ρ ⟨dst, .alloc 159, t, pos, aft, g⟩ = execOp ρ ⟨dst, .alloc 159, t, pos, aft, g⟩ := by cases q <;> rfl
  rw [h, allocSd]
theorem buildSd' (q : Option Nat) : (Oper.semAt q ρ ⟨dst, .build 159 #[], t, pos, aft, g⟩).run Try.prog w = .ok (.value (.agg (sdV fun _ => 0))) w := by
  have h : Oper.semAt q ρ ⟨dst, .build 159 #[], t, pos, aft, g⟩ = execOp ρ ⟨dst, .build 159 #[], t, pos, aft, g⟩ := by cases q <;> rfl
  rw [h, buildSd]
end
@[go_sem] theorem store_sd (g : Nat) (f f' : Sd) (w : World) : opStoreRow Try.prog 159 5 g 0 (sdV f) true (sdV f') w = .ok .skip (w.setRow g (sdV f')) := by
  rw [opStoreRow_at _ _ _ _ _ _ _ _ wideSd rfl (sdV_ones f') (Nat.le_refl 5), splice_sdV]
@[go_sem] theorem load_sd (g : Nat) (f : Sd) (w : World) : opLoadRow Try.prog 159 5 g 0 (sdV f) w = .ok (.value (.agg (sdV f))) w := by
  rw [opLoadRow_at _ _ _ _ _ _ _ wideSd (Nat.le_refl 5)]
  rw [Nat.zero_add, sdV_all]
theorem below_setRow {B : Nat} {w w' : World} (h : Below B w w') (g : Nat) (hg : B ≤ g) (cs : Array Value) : Below B w (w'.setRow g cs) :=
  ⟨h.os, h.tape, h.output, by have := h.size; simpa [World.setRow] using this, fun k hk => (setRow_other w' g k cs (by omega)).trans (h.block k hk)⟩
theorem own_setAt {W : World} {B : Nat} {e : TypeId} {size n : Nat} {v : Value} {xs : List Value} (h : W.ownsRow B e size v n xs) (g k : Nat) (u : Value) (hg : g < B) : (W.setCell ⟨g, k, none⟩ u).ownsRow B e size v n xs := by
  refine ⟨h.1, ?_⟩
  rcases h.2 with h2 | ⟨b, cap, cur, hv, hbg, hb, r⟩
  · exact .inl h2
  · exact .inr ⟨b, cap, cur, hv, hbg, (heap_setCell_other W ⟨g, k, none⟩ b u (by dsimp only; omega)).trans hb, r⟩
theorem sd_index0 (f : Sd) (w : World) : (Instr.index 159 (.agg (sdV f)) (.int .i64 ((0 : Nat) : Int))).run Try.prog w = .ok (.int .i64 (f 0)) w := by kernel_rfl
theorem sd_index1 (f : Sd) (w : World) : (Instr.index 159 (.agg (sdV f)) (.int .i64 ((1 : Nat) : Int))).run Try.prog w = .ok (.int .i64 (f 1)) w := by kernel_rfl
theorem sd_index2 (f : Sd) (w : World) : (Instr.index 159 (.agg (sdV f)) (.int .i64 ((2 : Nat) : Int))).run Try.prog w = .ok (.int .i64 (f 2)) w := by kernel_rfl
theorem sd_index3 (f : Sd) (w : World) : (Instr.index 159 (.agg (sdV f)) (.int .i64 ((3 : Nat) : Int))).run Try.prog w = .ok (.int .i64 (f 3)) w := by kernel_rfl
theorem sd_index4 (f : Sd) (w : World) : (Instr.index 159 (.agg (sdV f)) (.int .i64 ((4 : Nat) : Int))).run Try.prog w = .ok (.int .i64 (f 4)) w := by kernel_rfl
theorem sd_index (f : Sd) (k : Nat) (hk : k < 5) (w : World) : (Instr.index 159 (.agg (sdV f)) (.int .i64 k)).run Try.prog w = .ok (.int .i64 (f k)) w := by
  have : k = 0 ∨ k = 1 ∨ k = 2 ∨ k = 3 ∨ k = 4 := by omega
  rcases this with rfl | rfl | rfl | rfl | rfl
  · exact sd_index0 f w
  · exact sd_index1 f w
  · exact sd_index2 f w
  · exact sd_index3 f w
  · exact sd_index4 f w
/-- The numbers of a row of sides, one by one, and how one is exchanged. -/
theorem Holds.sd {w : World} {g : Nat} {f : Sd} (h : Holds w g (sdV f)) (k : Nat) (hk : k < 5) : w.cell? ⟨g, k, none⟩ = some (.int .i64 (f k)) := (h.cell k).trans (sdV_get f k hk)
theorem Holds.setSd {w : World} {g : Nat} {f : Sd} (h : Holds w g (sdV f)) (k : Nat) (hk : k < 5) (v : Int) : Holds (w.setCell ⟨g, k, none⟩ (.int .i64 v)) g (sdV (sdSet f k v)) := by
  have := h.setCell k (.int .i64 v)
  rwa [sdV_set f k hk] at this
end Go.Proofs.Ytaeenkjbmlgcmaa

namespace Go.Proofs.Ytaeenkjbmlgcmaa
open Go.RowKit
set_option linter.unusedVariables false
attribute [local go_sem ↓] loadRow loadGrid loadLawn loadMirror storeRow storeGrid storeLawn allocRow allocGrid allocLawn buildZero buildSides loadSd storeSd allocSd buildSd

/-- What lies at a cell that the lawn has: a number from 0 to 3, told by the model and by the program. -/
theorem at_lies {L : Lawn} (hv : validB L = true) (hL : L.Fits) (b : Nat) (c : Pt) (h : isB L c.1 c.2 = true) : ∃ n : Nat, n < 4 ∧ lies L c = n ∧
    ∀ w, Holds w b L.cells → Calls Try.prog 52 #[.pointer (some ⟨b, 0, none⟩), .agg #[.int .i8 c.1, .int .i8 c.2]] w fun e w' => e = .returned (.int .i64 n) ∧ Below w.heap.size w w' := by
  obtain ⟨i, j, hi, hj, e1, e2⟩ := cell_nat hv h
  have hk := (validB_true hv).2.2 j i hj hi
  simp only [okAt, Bool.and_eq_true] at hk
  have hk := inB_true hk.1
  refine ⟨(L.kind j i).toNat, by omega, by unfold lies; rw [if_pos h, e1, e2]; rfl, fun w hw => ?_⟩
  have := at_any L hL b i j hi hj w hw
  rw [e1, e2, Int.toNat_of_nonneg hk.1]
  exact this


end Go.Proofs.Ytaeenkjbmlgcmaa

namespace Go.Proofs.Ytaeenkjbmlgcmaa
open Go.RowKit
set_option linter.unusedVariables false
attribute [local go_sem ↓] loadRow loadGrid loadLawn loadMirror storeRow storeGrid storeLawn allocRow allocGrid allocLawn buildZero buildSides loadSd storeSd allocSd buildSd

/-- What lies at a cell that the lawn has, told by the program. -/
theorem kind_lies {L : Lawn} (hv : validB L = true) (c : Pt) (h : isB L c.1 c.2 = true) : ∃ n : Nat, n < 4 ∧ lies L c = n ∧
    ∀ w, Calls Try.prog 111 #[.agg L.cells, .agg #[.int .i8 c.1, .int .i8 c.2]] w fun e w' => e = .returned (.int .u8 n) ∧ Below w.heap.size w w' := by
  obtain ⟨i, j, hi, hj, e1, e2⟩ := cell_nat hv h
  have hk := (validB_true hv).2.2 j i hj hi
  simp only [okAt, Bool.and_eq_true] at hk
  have hk := inB_true hk.1
  refine ⟨(L.kind j i).toNat, by omega, by unfold lies; rw [if_pos h, e1, e2]; rfl, fun w => ?_⟩
  have := kind_any L i j hi hj w
  rw [e1, e2, Int.toNat_of_nonneg hk.1]
  exact this

set_option maxRecDepth 100000 in
set_option maxHeartbeats 2000000 in
theorem sidesAt_any (L : Lawn) (hv : validB L = true) (x y : Int) (x0 : 0 ≤ x) (x1 : x ≤ 9) (y0 : 0 ≤ y) (y1 : y ≤ 9) (w : World) :
    Calls Try.prog 102 #[.agg L.cells, .agg #[.int .i8 x, .int .i8 y]] w fun e w' => e = .returned (.agg (sdV (sidesL L (x, y)))) ∧ Below w.heap.size w w' := by
  have HAT := Lib.hid (fun (c : Pt) (h : isB L c.1 c.2 = true) => kind_lies hv c h)
  clear hv
  go_enter Try.func102, Try.ntmps102
  go_wp2_with fail
  obtain ⟨W0, hW0⟩ : ∃ W0, (((w.alloc (.cells L.cells 29)).alloc (.cells #[.int .i8 x, .int .i8 y] 37)).alloc (.cells (sdV fun _ => 0) 159)).alloc (.cells (sdV fun _ => 0) 159) = W0 := ⟨_, rfl⟩
  have g0 : Holds W0 w.heap.size L.cells := by rw [← hW0]; exact (((Holds.new _ _ _).alloc _).alloc _).alloc _
  have c0 : Holds W0 (w.heap.size + 1) #[.int .i8 x, .int .i8 y] := by rw [← hW0]; exact ((Holds.new' _ _ _ _ (by simp)).alloc _).alloc _
  have t0 : Holds W0 (w.heap.size + 1 + 1) (sdV fun _ => 0) := by rw [← hW0]; exact (Holds.new' _ _ _ _ (by simp)).alloc _
  have u0 : Holds W0 (w.heap.size + 1 + 1 + 1) (sdV fun _ => 0) := by rw [← hW0]; exact Holds.new' _ _ _ _ (by simp)
  have hb0 : Below w.heap.size w W0 := by rw [← hW0]; exact ((((Below.refl w.heap.size w).alloc (Nat.le_refl _) _).alloc (by simp) _).alloc (by simp; omega) _).alloc (by simp; omega) _
  rw [hW0]
  clear hW0
  refine (sides_any _).mono ?_
  rintro e w1 ⟨rfl, hb1⟩
  have g1 := g0.below hb1 g0.lt
  have c1 := c0.below hb1 c0.lt
  have t1 := t0.below hb1 t0.lt
  have u1 := u0.below hb1 u0.lt
  have hb2 := below_onto hb0 hb1
  obtain ⟨s, hs⟩ : ∃ s, w.heap.size = s := ⟨_, rfl⟩
  rw [hs] at g1 c1 t1 u1 hb2 ⊢
  have HS := Lib.hid hs
  clear hs g0 c0 t0 u0 hb0 hb1
  go_wp2_with fail
  go_loopw [10] (fun q wr => ∃ k : Nat, k ≤ 4 ∧ q = .int .i64 k ∧ Holds wr s L.cells ∧ Holds wr (s + 1) #[.int .i8 x, .int .i8 y] ∧ Holds wr (s + 1 + 1) (sdV fun _ => 0) ∧ Holds wr (s + 1 + 1 + 1) (sdV (sidesTo L (x, y) k)) ∧ Below s w wr) (fun q _ => 4 - (intOf q).toNat)
  case atStart => exact ⟨0, by omega, rfl, g1, c1, t1, u1, hb2⟩
  case round =>
    obtain ⟨k, hk, rfl, k0, k1, k2, k3, hb⟩ := hrel
    have hsz := k3.lt
    clear g1 c1 t1 u1 hb2
    by_cases hlt : k < 4
    · have hd : decide ((k : Int) < (4 : Int)) = true := by simp; omega
      obtain ⟨c, hc⟩ : ∃ c, (beside (x, y))[k]? = some c := ⟨_, List.getElem?_eq_getElem (by simpa [beside] using hlt)⟩
      have HC := Lib.hid (sidesTo_succ L (x, y) hc)
      have HSd := Lib.hid (side_any k hlt (x, y) c hc ⟨⟨by omega, by omega⟩, by omega, by omega⟩)
      obtain ⟨cx, cy⟩ := c
      have hix := fun w => sides_index k hlt w
      have hEs := side_enters k hlt
      have HBD := Lib.hid (sidesTo_bound L (x, y) k)
      obtain ⟨-, -, d1, -, -⟩ := k1.facts
      clear hc
      go_wp2_with fail
      refine (HSd.out _).mono ?_
      rintro e w2 ⟨rfl, hb1⟩
      have p0 := k0.below hb1 k0.lt
      have p1 := k1.below hb1 k1.lt
      have p2 := k2.below hb1 k2.lt
      have p3 := k3.below hb1 k3.lt
      have hb3 := hb.trans (hb1.mono (by omega))
      have hsz2 := p3.lt
      clear k0 k1 k2 k3 hb hb1 d1 hsz hix hEs HSd
      have q0 := p0.alloc (.cells #[.int .i8 cx, .int .i8 cy] 37)
      have qc := Holds.new w2 #[.int .i8 cx, .int .i8 cy] 37
      have q1 := p1.alloc (.cells #[.int .i8 cx, .int .i8 cy] 37)
      have q2 := p2.alloc (.cells #[.int .i8 cx, .int .i8 cy] 37)
      have q3 := p3.alloc (.cells #[.int .i8 cx, .int .i8 cy] 37)
      have hb4 : Below s w (w2.alloc (.cells #[.int .i8 cx, .int .i8 cy] 37)) := hb3.alloc (by omega) _
      obtain ⟨m, hm⟩ : ∃ m, w2.heap.size = m := ⟨_, rfl⟩
      have hms : s + 1 + 1 + 1 < m := by omega
      clear p0 p1 p2 p3 hb3 hsz2
      obtain ⟨W3, hW3⟩ : ∃ W3, w2.alloc (.cells #[.int .i8 cx, .int .i8 cy] 37) = W3 := ⟨_, rfl⟩
      rw [hW3] at q0 qc q1 q2 q3 hb4
      rw [hm] at qc
      obtain ⟨r0, -, -, -, -⟩ := q0.facts
      obtain ⟨-, -, dc, -, -⟩ := qc.facts
      go_wp2_with fail
      clear hW3 hm
      cases hin : isB L cx cy
      case true =>
        refine (has_is L cx cy _ true hin).mono ?_
        rintro e w4 ⟨rfl, hb1⟩
        have p0 := q0.below hb1 q0.lt
        have pc := qc.below hb1 qc.lt
        have p1 := q1.below hb1 q1.lt
        have p2 := q2.below hb1 q2.lt
        have p3 := q3.below hb1 q3.lt
        have hb5 := hb4.trans (hb1.mono (by have := q3.lt; omega))
        obtain ⟨n, hn4, hln, hat⟩ := HAT.out (cx, cy) hin
        rw [hln] at HC
        have HA := Lib.hid hat
        clear q0 qc q1 q2 q3 hb4 hb1 hin hln hat r0 dc
        obtain ⟨r0, -, -, -, -⟩ := p0.facts
        obtain ⟨-, -, dc, -, -⟩ := pc.facts
        go_wp2_with fail
        refine (HA.out _).mono ?_
        rintro e w5 ⟨rfl, hb1⟩
        have q0 := p0.below hb1 p0.lt
        have q1 := p1.below hb1 p1.lt
        have q2 := p2.below hb1 p2.lt
        have q3 := p3.below hb1 p3.lt
        have hb6 := hb5.trans (hb1.mono (by have := p3.lt; omega))
        clear p0 pc p1 p2 p3 hb5 hb1 r0 dc
        have cn := q3.sd n (by omega)
        obtain ⟨-, -, -, fr, hl⟩ := q3.facts
        have b1 := HBD.out n
        have hn5 : n < 5 := by omega
        have hwr : IntKind.i64.wrap (sidesTo L (x, y) k n + 1) = sidesTo L (x, y) k n + 1 := IntWalk.i64_in _ (by omega)
        go_wp2_with fail
        go_roundw
        case rel =>
          refine ⟨k + 1, by omega, by go_num, q0.setCell_other _ _ (by dsimp only; omega), q1.setCell_other _ _ (by dsimp only; omega), q2.setCell_other _ _ (by dsimp only; omega), ?_, hb6.setCell (p := ⟨s + 1 + 1 + 1, n, none⟩) (by dsimp only; omega) _⟩
          rw [HC.out]
          exact q3.setSd n hn5 _
        case measure => simp [intOf]; omega
      case false =>
        refine (has_is L cx cy _ false hin).mono ?_
        rintro e w4 ⟨rfl, hb1⟩
        have p0 := q0.below hb1 q0.lt
        have p1 := q1.below hb1 q1.lt
        have p2 := q2.below hb1 q2.lt
        have p3 := q3.below hb1 q3.lt
        have hb5 := hb4.trans (hb1.mono (by have := q3.lt; omega))
        have hln : lies L (cx, cy) = 4 := by simp [lies, hin]
        rw [hln] at HC
        clear q0 qc q1 q2 q3 hb4 hb1 hin hln r0 dc
        have cn := p3.sd 4 (by omega)
        obtain ⟨-, -, -, fr, hl⟩ := p3.facts
        have b1 := HBD.out 4
        have hwr : IntKind.i64.wrap (sidesTo L (x, y) k 4 + 1) = sidesTo L (x, y) k 4 + 1 := IntWalk.i64_in _ (by omega)
        go_wp2_with fail
        go_roundw
        case rel =>
          refine ⟨k + 1, by omega, by go_num, p0.setCell_other _ _ (by dsimp only; omega), p1.setCell_other _ _ (by dsimp only; omega), p2.setCell_other _ _ (by dsimp only; omega), ?_, hb5.setCell (p := ⟨s + 1 + 1 + 1, 4, none⟩) (by dsimp only; omega) _⟩
          rw [HC.out]
          exact p3.setSd 4 (by omega) _
        case measure => simp [intOf]; omega
    · obtain rfl : k = 4 := by omega
      have hd : decide (((4 : Nat) : Int) < (4 : Int)) = false := by decide
      have r0 := k3.row
      obtain ⟨rr, fr, -, -, -⟩ := k2.facts
      have HR := Lib.hid (k2.setRow (sdV (sidesTo L (x, y) 4)))
      have HB := Lib.hid hb
      go_wp2_with fail
      exact bodyPost_ret (results_cell_holds (n := 5) rfl (by kernel_rfl) _ rfl HR.out rfl) rfl ⟨rfl, by have := HS.out; subst this; exact below_setRow HB.out _ (by omega) _⟩
end Go.Proofs.Ytaeenkjbmlgcmaa

namespace Go.Proofs.Ytaeenkjbmlgcmaa
open Go.RowKit
set_option linter.unusedVariables false

def sdEq (f g : Sd) : Bool := (List.range 5).all fun i => f i == g i
theorem sdEq_refl (f : Sd) : sdEq f f = true := by simp [sdEq]
theorem eqItems_sd {P : Program} (w : World) (d : Nat) {e : TypeId} (he : P.underlying e = some (.int .i64)) (f g : Sd) : ∀ (is : List Nat), (∀ i ∈ is, i < 5) →
    (Op.eqItems (d + 1) e 1 (sdV f) (sdV g) is).run P w = .ok (is.all fun i => f i == g i) w
  | [], _ => by simp [Op.eqItems]
  | i :: is, h => by
    have hi := h i (by simp)
    have ih := eqItems_sd w d he f g is (fun j hj => h j (by simp [hj]))
    simp only [Op.eqItems, Sem.run_bind, Nat.mul_one, run_part_one w he _ _ _ (sdV_get f i hi), run_part_one w he _ _ _ (sdV_get g i hi), Result.andThen_ok, run_equalIn_int w d e .i64 .i64 (f i) (g i) he]
    cases hq : (f i == g i)
    · simp [hq]
    · simp [hq, ih]
theorem equal_sd {P : Program} (w : World) (d : Nat) {t e : TypeId} (ht : P.underlying t = some (.array 5 e)) (he : P.underlying e = some (.int .i64)) (hc : P.cellsOf e = 1) (f g : Sd) :
    (Op.equalIn (d + 2) t (.agg (sdV f)) (.agg (sdV g))).run P w = .ok (sdEq f g) w := by
  obtain ⟨i, hi⟩ := info_of_underlying he
  rw [show d + 2 = (d + 1) + 1 from rfl, run_equalIn_array w (d + 1) _ _ ht hi, hc]
  exact eqItems_sd w d he f g _ (fun i hi => by simpa using hi)
theorem eqlSd (ρ : Operand → Value) (dst : Option Tmp) (x y : Operand) (t : TypeId) (pos : String) (aft : Array Edge) (g : Option (Nat × Bool)) (w : World) :
    (execOp ρ ⟨dst, .binOp .eql 159 x y 159, t, pos, aft, g⟩).run Try.prog w = opEql Try.prog 159 x y (ρ x) (ρ y) w := rfl
theorem cellsI64 : Try.prog.cellsOf 2 = 1 := by kernel_rfl
theorem guardSd : Try.prog.eqGuardType Try.prog.depth 159 = false := by kernel_rfl
@[go_sem] theorem eqlSd_at (x y : Operand) (f g : Sd) (w : World) : opEql Try.prog 159 x y (.agg (sdV f)) (.agg (sdV g)) w = .ok (.value (.bool (sdEq f g))) w := by
  have he := equal_sd (P := Try.prog) w 9998 Try.underlying159 Try.underlying2 cellsI64 f g
  simp only [opEql, Sem.run_bind, run_eqGuard_agg (P := Try.prog) w .eql _ x y _ _ guardSd, Result.andThen_ok, run_eql_struct (P := Try.prog) w]
  rw [show (10000 : Nat) = 9998 + 2 from rfl, he]
  rfl
/-- Grass at all of four sides. -/
def sdInner : Sd := fun j => match j with | 0 => 4 | _ => 0
theorem buildInner (ρ : Operand → Value) (dst : Option Tmp) (x : Operand) (t : TypeId) (pos : String) (aft : Array Edge) (g : Option (Nat × Bool)) (w : World) :
    (execOp ρ ⟨dst, .build 159 #[(0, x)], t, pos, aft, g⟩).run Try.prog w = opBuild Try.prog 159 #[(0, ρ x)] w := by kernel_rfl
@[go_sem] theorem buildInner_at (w : World) : opBuild Try.prog 159 #[(0, .int .i64 4)] w = .ok (.value (.agg (sdV sdInner))) w := opBuild_of (by kernel_rfl) w
theorem inner_is {L : Lawn} (hv : validB L = true) (c : Pt) : sdEq (sidesL L c) sdInner = innerB L c := by
  have h := sidesL_all hv c
  have b := sidesL_bound L c
  have b0 := b 0
  have b1 := b 1
  have b2 := b 2
  have b3 := b 3
  have b4 := b 4
  unfold sdAll at h
  unfold sdEq innerB
  rw [Bool.eq_iff_iff]
  simp only [List.all_eq_true, List.mem_range, beq_iff_eq, decide_eq_true_eq]
  constructor
  · intro hh; exact hh 0 (by omega)
  · intro hh i hi
    have : i = 0 ∨ i = 1 ∨ i = 2 ∨ i = 3 ∨ i = 4 := by omega
    rcases this with rfl | rfl | rfl | rfl | rfl <;> simp only [sdInner] <;> omega
end Go.Proofs.Ytaeenkjbmlgcmaa

namespace Go.Proofs.Ytaeenkjbmlgcmaa
open Go.RowKit Go.Shelf
set_option linter.unusedVariables false
attribute [local go_sem] Oper.semAt_some
attribute [local go_sem ↓] loadRow loadGrid loadLawn loadMirror storeRow storeGrid storeLawn allocRow allocGrid allocLawn buildZero buildSides loadRow' loadGrid' loadLawn' loadMirror' storeRow' storeGrid' storeLawn' allocRow' allocGrid' allocLawn' buildZero' buildSides' loadSd storeSd allocSd buildSd loadSd' storeSd' allocSd' buildSd' eqlSd buildInner




end Go.Proofs.Ytaeenkjbmlgcmaa

namespace Go.Proofs.Ytaeenkjbmlgcmaa
open Go.RowKit
set_option linter.unusedVariables false
set_option linter.unusedSimpArgs false
attribute [local go_sem ↓] loadRow loadGrid loadLawn loadMirror storeRow storeGrid storeLawn allocRow allocGrid allocLawn buildZero buildSides

section
variable {P : Program}
theorem zeroPairs (n : Nat) : (Builtin.zeroCells #[.int .i8 0, .int .i8 0] n).toList = List.replicate (n * 2) (.int .i8 0) := by
  apply List.ext_getElem
  · simp [Builtin.zeroCells]
  · intro i h1 h2
    have : i % 2 = 0 ∨ i % 2 = 1 := by omega
    rcases this with h | h <;> simp [Builtin.zeroCells, h]
theorem run_clear_pairs (w : World) (t e ty : TypeId) (ht : P.underlying t = some (.slice e)) (hv : ∀ w, (zeroValue e).run P w = .ok (.agg #[.int .i8 0, .int .i8 0]) w) (b o n c : Nat) (hn : 0 < n)
    (hc : ∀ j, j < n * 2 → (w.cell? ⟨b, o + j, none⟩).isSome = true) (hf : ∀ j, j < n * 2 → w.frozen? ⟨b, o + j, none⟩ = false) :
    (Builtin.clear_ #[t] ty #[.slice (some ⟨b, o, none⟩) n c]).run P w = .ok (.tuple #[]) (w.setCells b o (List.replicate (n * 2) (.int .i8 0))) := by
  have hst := run_storeCells_cells (P := P) b o (List.replicate (n * 2) (.int .i8 0)) 0 w (by simpa using hc) (by simpa using hf) (by intro v hv'; rw [List.eq_of_mem_replicate hv']; rfl)
  simp only [Nat.add_zero] at hst
  obtain ⟨m, rfl⟩ : ∃ m, n = m + 1 := ⟨n - 1, by omega⟩
  simp [Builtin.clear_, run_underlying ht, hv, Value.cells, zeroPairs, hst]
end
theorem own_cutD {w : World} {B : Nat} {e : TypeId} {size n m g cap : Nat} {xs : List Value} (h : w.ownsRow B e size (.slice (some ⟨g, 0, none⟩) n cap) n xs) (hm : m ≤ n) :
    w.ownsRow B e size (.slice (some ⟨g, 0, none⟩) m cap) m (xs.take (m * size)) := by
  obtain ⟨hl, h | ⟨g', cap', cur, he, hb, hg, hn, hc, hs, hx⟩⟩ := h
  · simp at h
  · simp only [Value.slice.injEq, Option.some.injEq, Addr.mk.injEq, and_true, true_and] at he
    obtain ⟨rfl, rfl⟩ := he
    have hms : m * size ≤ n * size := Nat.mul_le_mul_right _ hm
    refine ⟨by rw [List.length_take]; omega, .inr ⟨g, cap, cur, rfl, hb, hg, by omega, hc, hs, ?_⟩⟩
    rw [← hx, List.take_take, Nat.min_eq_left hms]
/-- An own row whose tail is written anew, cut ahead of it. -/
theorem own_clear {w : World} {B : Nat} {e : TypeId} {size n m g cap : Nat} {xs : List Value} (h : w.ownsRow B e size (.slice (some ⟨g, 0, none⟩) n cap) n xs) (hm : m ≤ n) (zs : List Value) :
    (w.setCells g (m * size) zs).ownsRow B e size (.slice (some ⟨g, 0, none⟩) m cap) m (xs.take (m * size)) := by
  obtain ⟨hl, h | ⟨g', cap', cur, he, hb, hg, hn, hc, hs, hx⟩⟩ := own_cutD h hm
  · simp at h
  · simp only [Value.slice.injEq, Option.some.injEq, Addr.mk.injEq, and_true, true_and] at he
    obtain ⟨rfl, rfl⟩ := he
    obtain ⟨cur', h1, h2, h3, h4⟩ := heap_setCells_same g e zs (m * size) cur w hg
    refine ⟨hl, .inr ⟨g, cap, cur', rfl, hb, h1, hn, hc, by omega, ?_⟩⟩
    rw [← hx]
    apply List.ext_getElem?
    intro j
    rw [List.getElem?_take, List.getElem?_take]
    by_cases hj : j < m * size
    · rw [if_pos hj, if_pos hj]
      have := h4 j hj
      simpa using this
    · rw [if_neg hj, if_neg hj]

/-- A row in which those that are kept of the first j cells stand first, i of them, and the others from the j-th on where they were. -/
structure DelIs {W H : Nat} (l : List (Fin W × Fin H)) (keep : Fin W × Fin H → Bool) (i j : Nat) (xs : List Value) : Prop where
  len : xs.length = l.length * 2
  cnt : ((l.take j).filter keep).length = i
  lo : ∀ (q : Nat) (c : Fin W × Fin H), ((l.take j).filter keep)[q]? = some c → xs[q * 2]? = some (.int .i8 c.1.val) ∧ xs[q * 2 + 1]? = some (.int .i8 c.2.val)
  hi : ∀ (q : Nat) (c : Fin W × Fin H), j ≤ q → l[q]? = some c → xs[q * 2]? = some (.int .i8 c.1.val) ∧ xs[q * 2 + 1]? = some (.int .i8 c.2.val)
theorem DelIs.le {W H : Nat} {l : List (Fin W × Fin H)} {keep : Fin W × Fin H → Bool} {i j : Nat} {xs : List Value} (h : DelIs l keep i j xs) (hj : j ≤ l.length) : i ≤ j := by
  rw [← h.cnt]
  refine Nat.le_trans (List.length_filter_le _ _) ?_
  rw [List.length_take]; omega
theorem DelIs.keep {W H : Nat} {l : List (Fin W × Fin H)} {keep : Fin W × Fin H → Bool} {i j : Nat} {xs : List Value} (h : DelIs l keep i j xs) {c : Fin W × Fin H} (hc : l[j]? = some c) (hk : keep c = true) :
    DelIs l keep (i + 1) (j + 1) ((xs.set (i * 2) (.int .i8 c.1.val)).set (i * 2 + 1) (.int .i8 c.2.val)) := by
  have hj : j < l.length := (List.getElem?_eq_some_iff.1 hc).1
  have hij := h.le (Nat.le_of_lt hj)
  have hf : (l.take (j + 1)).filter keep = (l.take j).filter keep ++ [c] := by rw [List.take_add_one, hc, Option.toList_some, List.filter_append]; simp [hk]
  have hl := h.len
  refine ⟨by simp [hl], by rw [hf, List.length_append, h.cnt]; rfl, fun q d hq => ?_, fun q d hq hd => ?_⟩
  · rw [hf] at hq
    by_cases e : q < i
    · rw [List.getElem?_append_left (by rw [h.cnt]; exact e)] at hq
      obtain ⟨a, b⟩ := h.lo q d hq
      rw [List.getElem?_set_ne (by omega), List.getElem?_set_ne (by omega), List.getElem?_set_ne (by omega), List.getElem?_set_ne (by omega)]
      exact ⟨a, b⟩
    · rw [List.getElem?_append_right (by rw [h.cnt]; omega), h.cnt] at hq
      have hqi : q = i := by
        have := (List.getElem?_eq_some_iff.1 hq).1
        simp at this
        omega
      subst hqi
      simp at hq
      subst hq
      constructor
      · rw [List.getElem?_set_ne (by omega), List.getElem?_set_self (by omega)]
      · rw [List.getElem?_set_self (by simp; omega)]
  · obtain ⟨a, b⟩ := h.hi q d (by omega) hd
    rw [List.getElem?_set_ne (by omega), List.getElem?_set_ne (by omega), List.getElem?_set_ne (by omega), List.getElem?_set_ne (by omega)]
    exact ⟨a, b⟩
theorem DelIs.drop {W H : Nat} {l : List (Fin W × Fin H)} {keep : Fin W × Fin H → Bool} {i j : Nat} {xs : List Value} (h : DelIs l keep i j xs) {c : Fin W × Fin H} (hc : l[j]? = some c) (hk : keep c = false) : DelIs l keep i (j + 1) xs := by
  have hf : (l.take (j + 1)).filter keep = (l.take j).filter keep := by rw [List.take_add_one, hc, Option.toList_some, List.filter_append]; simp [hk]
  exact ⟨h.len, by rw [hf]; exact h.cnt, fun q d hq => h.lo q d (by rwa [hf] at hq), fun q d hq hd => h.hi q d (by omega) hd⟩
theorem DelIs.done {W H : Nat} {l : List (Fin W × Fin H)} {keep : Fin W × Fin H → Bool} {i : Nat} {xs : List Value} (h : DelIs l keep i l.length xs) : i = (l.filter keep).length ∧ xs.take (i * 2) = flatV (l.filter keep) := by
  have hc := h.cnt
  have hlo := h.lo
  rw [List.take_of_length_le (Nat.le_refl _)] at hc hlo
  have hle := h.le (Nat.le_refl _)
  refine ⟨hc.symm, ?_⟩
  apply List.ext_getElem?
  intro t
  rw [List.getElem?_take]
  by_cases ht : t < i * 2
  · rw [if_pos ht]
    have hq : t / 2 < (l.filter keep).length := by omega
    have hg := List.getElem?_eq_getElem hq
    obtain ⟨a, b⟩ := hlo _ _ hg
    obtain ⟨a', b'⟩ := flatV_get _ _ _ hg
    rcases Nat.mod_two_eq_zero_or_one t with e | e
    · rw [show t / 2 * 2 = t by omega] at a a'
      rw [a, a']
    · rw [show t / 2 * 2 + 1 = t by omega] at b b'
      rw [b, b']
  · rw [if_neg ht, List.getElem?_eq_none (by rw [flatV_length]; omega)]
theorem DelIs.start {W H : Nat} {l : List (Fin W × Fin H)} {keep : Fin W × Fin H → Bool} {m : Nat} {c : Fin W × Fin H} (hall : ∀ j c, j < m → l[j]? = some c → keep c = true) (hc : l[m]? = some c) (hk : keep c = false) : DelIs l keep m (m + 1) (flatV l) := by
  have hm : m < l.length := (List.getElem?_eq_some_iff.1 hc).1
  have hf : (l.take (m + 1)).filter keep = l.take m := by
    rw [List.take_add_one, hc, Option.toList_some, List.filter_append]
    have : (l.take m).filter keep = l.take m := by
      rw [List.filter_eq_self]
      intro a ha
      obtain ⟨j, hj⟩ := List.mem_iff_getElem?.1 ha
      rw [List.getElem?_take] at hj
      split at hj
      · exact hall j a (by omega) hj
      · cases hj
    rw [this]
    simp [hk]
  refine ⟨flatV_length l, by rw [hf, List.length_take]; omega, fun q d hq => ?_, fun q d hq hd => flatV_get _ _ _ hd⟩
  rw [hf, List.getElem?_take] at hq
  split at hq
  · exact flatV_get _ _ _ hq
  · cases hq

theorem zeroCell (w : World) : (zeroValue 37).run Try.prog w = .ok (.agg #[.int .i8 0, .int .i8 0]) w := by kernel_rfl
theorem own_roomD {w : World} {B : Nat} {e : TypeId} {size n g cap : Nat} {xs : List Value} (h : w.ownsRow B e size (.slice (some ⟨g, 0, none⟩) n cap) n xs) : n ≤ cap := by
  obtain ⟨hl, h | ⟨g', cap', cur, he, hb, hg, hn, hc, hs, hx⟩⟩ := h
  · simp at h
  · simp only [Value.slice.injEq, Option.some.injEq, Addr.mk.injEq, and_true, true_and] at he
    obtain ⟨rfl, rfl⟩ := he
    exact hn
theorem own_maxD {w : World} {B : Nat} {e : TypeId} {size n g cap : Nat} {xs : List Value} (h : w.ownsRow B e size (.slice (some ⟨g, 0, none⟩) n cap) n xs) : cap ≤ maxLen := by
  obtain ⟨hl, h | ⟨g', cap', cur, he, hb, hg, hn, hc, hs, hx⟩⟩ := h
  · simp at h
  · simp only [Value.slice.injEq, Option.some.injEq, Addr.mk.injEq, and_true, true_and] at he
    obtain ⟨rfl, rfl⟩ := he
    exact hc
/-- Whether a cell stays in the list of the inner cells, or of the others. -/
def keepI {W H : Nat} (L : Lawn) (inner : Bool) (c : Fin W × Fin H) : Bool := innerB L ((c.1.val : Int), (c.2.val : Int)) == inner


/-- The index of the first cell that goes. -/
def goneI (n m : Nat) : Int := if m < n then (m : Int) else -1


end Go.Proofs.Ytaeenkjbmlgcmaa

namespace Go.Proofs.Ytaeenkjbmlgcmaa
open Go.RowKit
set_option linter.unusedVariables false
set_option linter.unusedSimpArgs false
attribute [local go_sem ↓] loadRow loadGrid loadLawn loadMirror storeRow storeGrid storeLawn allocRow allocGrid allocLawn buildZero buildSides

theorem results_cell2_tmp {P : Program} {fn : Func} {p u : Tmp} {ty : TypeId} {n : Nat} (h : fn.results = #[.cell p ty, .tmp u]) (hw : wideB P ty n = true) (tmps : Array Value) {w : World} {g : Nat} {cs : Array Value}
    (hp : tmps.getD p undef = .pointer (some ⟨g, 0, none⟩)) (hg : Holds w g cs) (hn : cs.size = n) : (results fn tmps).run P w = .ok (.tuple #[.agg cs, tmps.getD u undef]) w := results_cell_tmp_holds h hw tmps hp hg hn
/-- A cell's two numbers. -/
def cellC {W H : Nat} (c : Fin W × Fin H) : Array Value := #[.int .i8 c.1.val, .int .i8 c.2.val]
def cellO {W H : Nat} (o : Option (Fin W × Fin H)) : Array Value := match o with
  | none => #[.int .i8 0, .int .i8 0]
  | some c => #[.int .i8 c.1.val, .int .i8 c.2.val]
def pickL {α : Type} (lt : α → α → Bool) (o : Option α) (c : α) : Option α := match o with
  | none => some c
  | some d => if lt c d then some c else some d
/-- The best one of the first i, the first one of several. -/
def bestL {α : Type} (lt : α → α → Bool) (l : List α) (i : Nat) : Option α := (l.take i).foldl (pickL lt) none
theorem bestL_zero {α : Type} (lt : α → α → Bool) (l : List α) : bestL lt l 0 = none := rfl
theorem bestL_succ {α : Type} (lt : α → α → Bool) {l : List α} {i : Nat} {c : α} (h : l[i]? = some c) : bestL lt l (i + 1) = pickL lt (bestL lt l i) c := by
  unfold bestL
  rw [List.take_add_one, h]
  simp
theorem bestL_some {α : Type} (lt : α → α → Bool) {l : List α} : ∀ {i : Nat}, 0 < i → i ≤ l.length → ∃ c, bestL lt l i = some c
  | 0, h, _ => absurd h (by omega)
  | i + 1, _, h => by
    have hc : l[i]? = some l[i] := List.getElem?_eq_getElem (by omega)
    rw [bestL_succ lt hc]
    cases bestL lt l i with
    | none => exact ⟨_, rfl⟩
    | some d =>
      simp only [pickL]
      split
      · exact ⟨_, rfl⟩
      · exact ⟨_, rfl⟩
theorem own_setAt2 {W : World} {B n ga cap : Nat} {e : TypeId} {size : Nat} {xs : List Value} (h : W.ownsRow B e size (.slice (some ⟨ga, 0, none⟩) n cap) n xs) (g k : Nat) (u : Value) (hg : ga ≠ g) : (W.setCell ⟨g, k, none⟩ u).ownsRow B e size (.slice (some ⟨ga, 0, none⟩) n cap) n xs := by
  refine ⟨h.1, ?_⟩
  rcases h.2 with h2 | ⟨b, cap', cur, hv, hbg, hb, r⟩
  · exact .inl h2
  · have : b = ga := by simp at hv; exact hv.1.symm
    exact .inr ⟨b, cap', cur, hv, hbg, (heap_setCell_other W ⟨g, k, none⟩ b u (by dsimp only; omega)).trans hb, r⟩



end Go.Proofs.Ytaeenkjbmlgcmaa
