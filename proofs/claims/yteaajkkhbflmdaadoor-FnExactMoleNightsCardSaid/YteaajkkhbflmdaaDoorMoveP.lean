/- Hauls, pure. -/
import Derived.Test.YteaajkkhbflmdaaDoorLevP
namespace Go.Proofs.YteaajkkhbflmdaaDoor
set_option linter.unusedVariables false

/-- A haul's cells or amount are out of range. -/
def hlOut (L : Lawn) (fx fy tx ty n : Int) : Bool := !isB L fx fy || !isB L tx ty || decide (n < 1) || decide (18 < n)
/-- A haul's cell is no grass. -/
def hlBare (L : Lawn) (fx fy tx ty : Int) : Bool := !grassB L fx fy || !grassB L tx ty
/-- The levels behind a haul. -/
def hlG (g : Nat → Nat → Int) (fx fy tx ty n : Int) : Nat → Nat → Int :=
  upd (upd g fy.toNat fx.toNat (g fy.toNat fx.toNat - n)) ty.toNat tx.toNat (upd g fy.toNat fx.toNat (g fy.toNat fx.toNat - n) ty.toNat tx.toNat + n)
/-- Which error a haul meets. -/
def hlE (L : Lawn) (g : Nat → Nat → Int) (fx fy tx ty n : Int) : Option Nat :=
  if hlOut L fx fy tx ty n then some 0 else if hlBare L fx fy tx ty then some 1 else if fx = tx ∧ fy = ty then some 2 else if levB L (hlG g fx fy tx ty n) then none else some 3
/-- The code of an error. -/
def errZ (i : Nat) : Int := if i = 4 then 1 else if i = 0 then 2 else 4

theorem levB_upd {L : Lawn} {g : Nat → Nat → Int} (h : levB L g = true) (y x : Nat) (v : Int) (hy : y < 10) (hx : x < 10) (hg : grassB L x y = true) : levB L (upd g y x v) = inB v (-9) 9 := by
  obtain ⟨hv, ha⟩ := levB_true h
  cases hi : inB v (-9) 9 with
  | false => exact levB_not hy hx (by unfold levAt upd; simp [hi])
  | true =>
    simp only [levB, Bool.and_eq_true, List.all_eq_true, List.mem_range]
    refine ⟨hv, fun y' hy' x' hx' => ?_⟩
    have := ha y' x' hy' hx'
    unfold levAt upd at *
    by_cases he : y' = y ∧ x' = x
    · obtain ⟨rfl, rfl⟩ := he
      simp [hi, hg]
    · rw [if_neg he]; exact this
/-- Levels that differ from fine ones at two cells of grass. -/
theorem levB_upd2 {L : Lawn} {g : Nat → Nat → Int} (h : levB L g = true) (y x y' x' : Nat) (v v' : Int) (hy : y < 10) (hx : x < 10) (hy' : y' < 10) (hx' : x' < 10) (hg : grassB L x y = true) (hg' : grassB L x' y' = true) (hne : ¬(y = y' ∧ x = x')) :
    levB L (upd (upd g y x v) y' x' v') = (inB v (-9) 9 && inB v' (-9) 9) := by
  cases hi : inB v (-9) 9 with
  | true => rw [levB_upd (by rw [levB_upd h y x v hy hx hg, hi]) y' x' v' hy' hx' hg', Bool.true_and]
  | false =>
    rw [Bool.false_and]
    refine levB_not hy hx ?_
    unfold levAt upd
    rw [if_neg hne, if_pos ⟨rfl, rfl⟩, hi, Bool.false_and]
end Go.Proofs.YteaajkkhbflmdaaDoor
