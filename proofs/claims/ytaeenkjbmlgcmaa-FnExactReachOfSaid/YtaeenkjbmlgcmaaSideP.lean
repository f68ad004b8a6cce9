/- Sides, counted by what lies beside them. -/
import Derived.Test.YtaeenkjbmlgcmaaZF
import Derived.Test.YtaeenkjbmlgcmaaZC
namespace Go.Proofs.Ytaeenkjbmlgcmaa
open Go.RowKit
set_option linter.unusedVariables false

/-- Counts by what lies beside. -/
abbrev Sd := Nat → Int
/-- The five counts as values. -/
def sdV (f : Sd) : Array Value := #[.int .i64 (f 0), .int .i64 (f 1), .int .i64 (f 2), .int .i64 (f 3), .int .i64 (f 4)]
theorem sdV_size (f : Sd) : (sdV f).size = 5 := rfl
theorem sdV_get (f : Sd) (k : Nat) (hk : k < 5) : (sdV f)[k]? = some (.int .i64 (f k)) := by
  have : k = 0 ∨ k = 1 ∨ k = 2 ∨ k = 3 ∨ k = 4 := by omega
  rcases this with rfl | rfl | rfl | rfl | rfl <;> rfl
/-- One more at a place; a place's count exchanged. -/
def sdSet (f : Sd) (k : Nat) (v : Int) : Sd := fun j => if j = k then v else f j
def bump (f : Sd) (k : Nat) : Sd := sdSet f k (f k + 1)
theorem sdV_set (f : Sd) (k : Nat) (hk : k < 5) (v : Int) : (sdV f).setIfInBounds k (.int .i64 v) = sdV (sdSet f k v) := by
  have : k = 0 ∨ k = 1 ∨ k = 2 ∨ k = 3 ∨ k = 4 := by omega
  rcases this with rfl | rfl | rfl | rfl | rfl <;> simp [sdV, sdSet]
theorem sdV_ext {f g : Sd} (h : ∀ k, k < 5 → f k = g k) : sdV f = sdV g := by
  simp only [sdV, h 0 (by omega), h 1 (by omega), h 2 (by omega), h 3 (by omega), h 4 (by omega)]
/-- What lies at a place: its kind, or 4 for nothing. -/
def lies (L : Lawn) (d : Pt) : Nat := if isB L d.1 d.2 then (L.kind d.2.toNat d.1.toNat).toNat else 4
/-- The first n sides of a cell, counted. -/
def sidesTo (L : Lawn) (c : Pt) (n : Nat) : Sd := ((beside c).take n).foldl (fun f d => bump f (lies L d)) fun _ => 0
def sidesL (L : Lawn) (c : Pt) : Sd := sidesTo L c 4
theorem sidesTo_zero (L : Lawn) (c : Pt) : sidesTo L c 0 = fun _ => 0 := rfl
theorem sidesTo_succ (L : Lawn) (c : Pt) {k : Nat} {d : Pt} (h : (beside c)[k]? = some d) : sidesTo L c (k + 1) = bump (sidesTo L c k) (lies L d) := by
  unfold sidesTo
  rw [List.take_add_one, h]
  simp
theorem bump_bound {f : Sd} {n : Int} (k : Nat) (h : ∀ j, 0 ≤ f j ∧ f j ≤ n) : ∀ j, 0 ≤ bump f k j ∧ bump f k j ≤ n + 1 := by
  intro j
  have := h j
  have := h k
  unfold bump sdSet
  split <;> omega
theorem sidesTo_bound (L : Lawn) (c : Pt) (n : Nat) : ∀ j, 0 ≤ sidesTo L c n j ∧ sidesTo L c n j ≤ n := by
  induction n with
  | zero => intro j; simp [sidesTo_zero]
  | succ n ih =>
    cases h : (beside c)[n]? with
    | some d =>
      rw [sidesTo_succ L c h]
      have := bump_bound (lies L d) ih
      intro j
      have := this j
      omega
    | none =>
      have e : sidesTo L c (n + 1) = sidesTo L c n := by unfold sidesTo; rw [List.take_add_one, h]; simp
      rw [e]
      intro j
      have := ih j
      omega
theorem sidesL_bound (L : Lawn) (c : Pt) (j : Nat) : 0 ≤ sidesL L c j ∧ sidesL L c j ≤ 4 := by
  have := sidesTo_bound L c 4 j
  simpa [sidesL] using this
/-- All five counts together. -/
def sdAll (f : Sd) : Int := f 0 + f 1 + f 2 + f 3 + f 4
theorem bump_all (f : Sd) (k : Nat) (hk : k < 5) : sdAll (bump f k) = sdAll f + 1 := by
  have : k = 0 ∨ k = 1 ∨ k = 2 ∨ k = 3 ∨ k = 4 := by omega
  rcases this with rfl | rfl | rfl | rfl | rfl <;> simp [sdAll, bump, sdSet] <;> omega
theorem lies_lt {L : Lawn} (hv : validB L = true) (d : Pt) : lies L d < 5 := by
  unfold lies
  split
  · rename_i h
    obtain ⟨h1, h2, h3⟩ := validB_true hv
    have hi := isB_in h
    have hk := h3 d.2.toNat d.1.toNat (by omega) (by omega)
    simp only [okAt, Bool.and_eq_true] at hk
    have := inB_true hk.1
    omega
  · omega
theorem sidesL_all {L : Lawn} (hv : validB L = true) (c : Pt) : sdAll (sidesL L c) = 4 := by
  have h0 := sidesTo_succ L c (k := 0) rfl
  have h1 := sidesTo_succ L c (k := 1) rfl
  have h2 := sidesTo_succ L c (k := 2) rfl
  have h3 := sidesTo_succ L c (k := 3) rfl
  unfold sidesL
  rw [h3, bump_all _ _ (lies_lt hv _), h2, bump_all _ _ (lies_lt hv _), h1, bump_all _ _ (lies_lt hv _), h0, bump_all _ _ (lies_lt hv _), sidesTo_zero]
  rfl
/-- Whether a cell has grass at all of its sides. -/
def innerB (L : Lawn) (c : Pt) : Bool := decide (sidesL L c 0 = 4)
def addS (f g : Sd) : Sd := fun j => f j + g j
/-- The sides of some cells. -/
def sumS {W H : Nat} (L : Lawn) (l : List (Fin W × Fin H)) : Sd := l.foldl (fun f c => addS f (sidesL L ((c.1.val : Int), (c.2.val : Int)))) fun _ => 0
theorem sumS_nil {W H : Nat} (L : Lawn) : sumS L ([] : List (Fin W × Fin H)) = fun _ => 0 := rfl
theorem sumS_snoc {W H : Nat} (L : Lawn) (l : List (Fin W × Fin H)) (c : Fin W × Fin H) : sumS L (l ++ [c]) = addS (sumS L l) (sidesL L ((c.1.val : Int), (c.2.val : Int))) := by simp [sumS]
theorem sumS_bound {W H : Nat} (L : Lawn) (l : List (Fin W × Fin H)) : ∀ j, 0 ≤ sumS L l j ∧ sumS L l j ≤ 4 * l.length := by
  suffices h : ∀ (l : List (Fin W × Fin H)) (f : Sd) (n : Int), (∀ j, 0 ≤ f j ∧ f j ≤ n) → ∀ j, 0 ≤ (l.foldl (fun f c => addS f (sidesL L ((c.1.val : Int), (c.2.val : Int)))) f) j ∧ (l.foldl (fun f c => addS f (sidesL L ((c.1.val : Int), (c.2.val : Int)))) f) j ≤ n + 4 * l.length by
    intro j
    have := h l (fun _ => 0) 0 (fun _ => ⟨by omega, by omega⟩) j
    unfold sumS
    omega
  intro l
  induction l with
  | nil => intro f n h j; have := h j; simpa using this
  | cons c l ih =>
    intro f n h j
    have := ih (addS f (sidesL L ((c.1.val : Int), (c.2.val : Int)))) (n + 4) (fun j => by have := h j; have := sidesL_bound L ((c.1.val : Int), (c.2.val : Int)) j; unfold addS; omega) j
    simp only [List.foldl_cons, List.length_cons]
    omega
/-- The sides of all cells of grass of a lawn of W by H. -/
def grassS (L : Lawn) (W H : Nat) (pre : List (Fin W × Fin H)) : Sd := sumS L (pre.filter fun c => L.kind c.2 c.1 == 0)
def allS (L : Lawn) (W H : Nat) : Sd := grassS L W H (allC W H)
theorem grassS_bound (L : Lawn) (W H : Nat) (pre : List (Fin W × Fin H)) (hp : pre.length ≤ 100) (j : Nat) : 0 ≤ grassS L W H pre j ∧ grassS L W H pre j ≤ 400 := by
  have := sumS_bound L (pre.filter fun c => L.kind c.2 c.1 == 0) j
  have := List.length_filter_le (fun c : Fin W × Fin H => L.kind c.2 c.1 == 0) pre
  unfold grassS
  omega
theorem grassS_yes {L : Lawn} {W H : Nat} (pre : List (Fin W × Fin H)) (c : Fin W × Fin H) (h : L.kind c.2 c.1 = 0) : grassS L W H (pre ++ [c]) = addS (grassS L W H pre) (sidesL L ((c.1.val : Int), (c.2.val : Int))) := by
  unfold grassS
  rw [List.filter_append]
  simp only [List.filter_cons, h, List.filter_nil, beq_self_eq_true, if_true]
  exact sumS_snoc L _ c
theorem grassS_no {L : Lawn} {W H : Nat} (pre : List (Fin W × Fin H)) (c : Fin W × Fin H) (h : ¬ L.kind c.2 c.1 = 0) : grassS L W H (pre ++ [c]) = grassS L W H pre := by
  unfold grassS
  rw [List.filter_append]
  simp [h]
/-- How long the edge is. -/
def edgeZ (f : Sd) : Int := f 1 + f 2 + f 3 + f 4
/-- Of a lawn: all sides; how long the edge is. -/
def sidesOfL (L : Lawn) : Sd := if validB L then allS L L.wide.toNat L.high.toNat else fun _ => 0
def wB (b : Bool) : Int := if b then 0 else 2
/-- The first k counts of g are put to those of f. -/
def addTo (f g : Sd) (k : Nat) : Sd := fun j => if j < k then f j + g j else f j
theorem addTo_zero (f g : Sd) : addTo f g 0 = f := by funext j; simp [addTo]
theorem addTo_succ (f g : Sd) (k : Nat) : sdSet (addTo f g k) k (f k + g k) = addTo f g (k + 1) := by
  funext j
  unfold sdSet addTo
  by_cases h : j = k
  · subst h; simp
  · rw [if_neg h]
    by_cases h2 : j < k
    · rw [if_pos h2, if_pos (by omega)]
    · rw [if_neg h2, if_neg (by omega)]
theorem addTo_at (f g : Sd) (k : Nat) : addTo f g k k = f k := by simp [addTo]
theorem addTo_all (f g : Sd) : sdV (addTo f g 5) = sdV (addS f g) := sdV_ext fun k hk => by simp [addTo, addS, hk]
/-- The first k counts together. -/
def preS (f : Sd) : Nat → Int
  | 0 => 0
  | k + 1 => preS f k + f k
theorem preS_bound {f : Sd} {n : Int} (h : ∀ j, 0 ≤ f j ∧ f j ≤ n) : ∀ k : Nat, 0 ≤ preS f k ∧ preS f k ≤ n * k
  | 0 => by simp [preS]
  | k + 1 => by
    have := preS_bound h k
    have := h k
    have e : n * ((k + 1 : Nat) : Int) = n * k + n := by rw [Int.natCast_add, Int.mul_add]; simp
    rw [e]
    simp only [preS]
    omega
theorem preS_all (f : Sd) : preS f 5 - f 0 = edgeZ f := by simp only [preS, edgeZ]; omega
theorem addS_zero (f : Sd) : addS (fun _ => 0) f = f := by funext j; simp [addS]
end Go.Proofs.Ytaeenkjbmlgcmaa
