/- When levels are valid for a lawn: pure; and the levels that a range over the cells has laid. -/
import Derived.Test.YthfhpcigjnjkdaaDoorLev
import Derived.Test.YthfhpcigjnjkdaaDoorZE
namespace Go.Proofs.YthfhpcigjnjkdaaDoor
open Go.RowKit
set_option linter.unusedVariables false

/-- Whether a place has a level that it may have. -/
def levAt (L : Lawn) (g : Nat → Nat → Int) (y x : Nat) : Bool := inB (g y x) (-9) 9 && (g y x == 0 || grassB L x y)
def levB (L : Lawn) (g : Nat → Nat → Int) : Bool := validB L && (List.range 10).all fun y => (List.range 10).all fun x => levAt L g y x
/-- All places ahead of a row's place are fine. -/
def levTo (L : Lawn) (g : Nat → Nat → Int) (k j : Nat) : Prop := ∀ y x, y < 10 → x < 10 → (y < k ∨ y = k ∧ x < j) → levAt L g y x = true
theorem levTo_zero (L : Lawn) (g : Nat → Nat → Int) : levTo L g 0 0 := fun y x _ _ h => by omega
theorem levTo_snoc {L : Lawn} {g : Nat → Nat → Int} {k j : Nat} (h : levTo L g k j) (hn : levAt L g k j = true) : levTo L g k (j + 1) := fun y x hy hx hl => by
  by_cases e : y = k ∧ x = j
  · obtain ⟨rfl, rfl⟩ := e; exact hn
  · exact h y x hy hx (by omega)
theorem levTo_row {L : Lawn} {g : Nat → Nat → Int} {k : Nat} (h : levTo L g k 10) : levTo L g (k + 1) 0 := fun y x hy hx hl => h y x hy hx (by omega)
theorem levB_true {L : Lawn} {g : Nat → Nat → Int} (h : levB L g = true) : validB L = true ∧ ∀ y x, y < 10 → x < 10 → levAt L g y x = true := by
  simp only [levB, Bool.and_eq_true, List.all_eq_true, List.mem_range] at h
  exact ⟨h.1, fun y x hy hx => h.2 y hy x hx⟩
theorem levB_of {L : Lawn} {g : Nat → Nat → Int} (hv : validB L = true) (h : levTo L g 10 0) : levB L g = true := by
  simp only [levB, Bool.and_eq_true, List.all_eq_true, List.mem_range]
  exact ⟨hv, fun y hy x hx => h y x hy hx (by omega)⟩
theorem levB_not {L : Lawn} {g : Nat → Nat → Int} {y x : Nat} (hy : y < 10) (hx : x < 10) (h : levAt L g y x = false) : levB L g = false := by
  cases hv : levB L g with
  | false => rfl
  | true => have := (levB_true hv).2 y x hy hx; rw [h] at this; cases this
theorem levB_lawn {L : Lawn} {g : Nat → Nat → Int} (h : validB L = false) : levB L g = false := by simp [levB, h]
theorem levAt_true {L : Lawn} {g : Nat → Nat → Int} {y x : Nat} (h : levAt L g y x = true) : (-9 ≤ g y x ∧ g y x ≤ 9) ∧ (g y x = 0 ∨ grassB L x y = true) := by
  simp only [levAt, Bool.and_eq_true, Bool.or_eq_true, beq_iff_eq] at h
  exact ⟨inB_true h.1, h.2⟩
theorem lev_range {L : Lawn} {g : Nat → Nat → Int} (h : levB L g = true) (y x : Nat) (hy : y < 10) (hx : x < 10) : -9 ≤ g y x ∧ g y x ≤ 9 := (levAt_true ((levB_true h).2 y x hy hx)).1

/-- Whether a cell's level is taken. -/
def layB (L : Lawn) (g : Nat → Nat → Int) (y x : Nat) : Bool := grassB L x y && inB (g y x) (-9) 9
/-- The levels of grass that have come; 0 elsewhere. -/
def layG {W H : Nat} (L : Lawn) (g : Nat → Nat → Int) (pre : List (Fin W × Fin H)) (y x : Nat) : Int := if pre.any (fun c => c.2.val == y && c.1.val == x) && layB L g y x then g y x else 0
theorem layG_nil {W H : Nat} (L : Lawn) (g : Nat → Nat → Int) : levV (layG L g ([] : List (Fin W × Fin H))) = levV fun _ _ => 0 := levV_ext fun y x _ _ => by simp [layG]
theorem layG_hit {W H : Nat} (hW : W ≤ 10) (hH : H ≤ 10) (L : Lawn) (g : Nat → Nat → Int) (pre : List (Fin W × Fin H)) (c : Fin W × Fin H) (h : layB L g c.2 c.1 = true) :
    (levV (layG L g pre)).setIfInBounds (c.2.val * 10 + c.1.val) (.int .i8 (g c.2.val c.1.val)) = levV (layG L g (pre ++ [c])) := by
  have h1 := c.1.isLt; have h2 := c.2.isLt
  rw [levV_set _ _ _ _ (by omega) (by omega)]
  refine levV_ext fun y x _ _ => ?_
  unfold upd layG
  by_cases e : y = c.2.val ∧ x = c.1.val
  · obtain ⟨rfl, rfl⟩ := e
    simp [h]
  · rw [if_neg e]
    have hb : (c.2.val == y && c.1.val == x) = false := by
      cases h : (c.2.val == y && c.1.val == x) with
      | false => rfl
      | true => simp only [Bool.and_eq_true, beq_iff_eq] at h; exact absurd ⟨h.1.symm, h.2.symm⟩ e
    simp only [List.any_append, List.any_cons, List.any_nil, Bool.or_false, hb]
theorem layG_miss {W H : Nat} (L : Lawn) (g : Nat → Nat → Int) (pre : List (Fin W × Fin H)) (c : Fin W × Fin H) (h : layB L g c.2 c.1 = false) :
    levV (layG L g (pre ++ [c])) = levV (layG L g pre) := by
  refine levV_ext fun y x _ _ => ?_
  unfold layG
  by_cases e : y = c.2.val ∧ x = c.1.val
  · obtain ⟨rfl, rfl⟩ := e
    simp [h]
  · have hb : (c.2.val == y && c.1.val == x) = false := by
      cases h : (c.2.val == y && c.1.val == x) with
      | false => rfl
      | true => simp only [Bool.and_eq_true, beq_iff_eq] at h; exact absurd ⟨h.1.symm, h.2.symm⟩ e
    simp only [List.any_append, List.any_cons, List.any_nil, Bool.or_false, hb]
theorem allC_any (W H : Nat) (y x : Nat) : (allC W H).any (fun c => c.2.val == y && c.1.val == x) = decide (x < W ∧ y < H) := by
  rw [Bool.eq_iff_iff, List.any_eq_true, decide_eq_true_eq]
  constructor
  · rintro ⟨c, _, hc⟩
    simp only [Bool.and_eq_true, beq_iff_eq] at hc
    have := c.1.isLt; have := c.2.isLt; omega
  · rintro ⟨hx, hy⟩
    exact ⟨(⟨x, hx⟩, ⟨y, hy⟩), allC_mem _ _ _, by simp⟩
/-- Levels are valid where they are what has been laid. -/
theorem lay_final {W H : Nat} {L : Lawn} (hv : validB L = true) (hW : L.wide = W) (hH : L.high = H) (g : Nat → Nat → Int) : gridEq g (layG L g (allC W H)) = levB L g := by
  have point : ∀ y x, (g y x = layG L g (allC W H) y x) ↔ levAt L g y x = true := by
    intro y x
    unfold layG
    rw [allC_any]
    cases hl : layB L g y x with
    | true =>
      have hl' := hl
      simp only [layB, Bool.and_eq_true] at hl'
      have := isB_in (grassB_in hl'.1)
      have hd : decide (x < W ∧ y < H) = true := by simp; omega
      rw [hd]
      simp [levAt, hl'.1, hl'.2]
    | false =>
      rw [Bool.and_false]
      simp only [Bool.false_eq_true, if_false]
      constructor
      · intro h0
        simp [levAt, h0, inB]
      · intro h1
        simp only [levAt, Bool.and_eq_true, Bool.or_eq_true, beq_iff_eq] at h1
        rcases h1.2 with h | h
        · exact h
        · rw [layB, h, h1.1] at hl
          cases hl
  rw [Bool.eq_iff_iff]
  constructor
  · intro h
    have h := gridEq_true h
    exact levB_of hv fun y x hy hx _ => (point y x).1 (h y x hy hx)
  · intro h
    have h := (levB_true h).2
    exact gridEq_of fun y x hy hx => (point y x).2 (h y x hy hx)
end Go.Proofs.YthfhpcigjnjkdaaDoor
