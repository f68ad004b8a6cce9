/- DifferIn, of the program and of the model. -/
import Derived.Test.YtgmahakpmjfhhaaRRCells
import Derived.Test.YtgmahakpmjfhhaaRRMark
import Derived.Maps.OwnIn
namespace Go.Proofs.YtgmahakpmjfhhaaRR
open Go.RowKit Go.Shelf
set_option linter.unusedVariables false
attribute [local go_sem] Oper.semAt_some
attribute [local go_sem ↓] loadRow loadGrid loadLawn loadMirror storeRow storeGrid storeLawn allocRow allocGrid allocLawn buildZero buildSides loadRow' loadGrid' loadLawn' loadMirror' storeRow' storeGrid' storeLawn' allocRow' allocGrid' allocLawn' buildZero' buildSides'

/-- Those of some cells of which p is so. -/
def filtB {W H : Nat} (p : Nat → Nat → Bool) (pre : List (Fin W × Fin H)) : List (Fin W × Fin H) := pre.filter fun c => p c.2 c.1
theorem filtB_hit {W H : Nat} {p : Nat → Nat → Bool} {pre : List (Fin W × Fin H)} {c : Fin W × Fin H} (h : p c.2 c.1 = true) : filtB p (pre ++ [c]) = filtB p pre ++ [c] := by simp [filtB, h]
theorem filtB_miss {W H : Nat} {p : Nat → Nat → Bool} {pre : List (Fin W × Fin H)} {c : Fin W × Fin H} (h : p c.2 c.1 = false) : filtB p (pre ++ [c]) = filtB p pre := by simp [filtB, h]
theorem filtB_le {W H : Nat} (p : Nat → Nat → Bool) (pre : List (Fin W × Fin H)) : (filtB p pre).length ≤ pre.length := List.length_filter_le _ _

def sideB (A B : Lawn) : Bool := A.wide == B.wide && A.high == B.high
/-- The code of DifferIn. -/
def differC (A B : Lawn) : Int := if validB A && validB B then (if sideB A B then 0 else 4) else 1
def differP (A B : Lawn) (y x : Nat) : Bool := A.kind y x != B.kind y x
def differL (A B : Lawn) : List (Fin A.wide.toNat × Fin A.high.toNat) := if differC A B = 0 then filtB (differP A B) (allC A.wide.toNat A.high.toNat) else []

/-- The list that a loop over the cells has gathered, in its variable at block s. -/
def Gathers (s B : Nat) (l : List Value) (n : Nat) (W : World) : Prop := ∃ v, Holds W s #[v] ∧ W.ownsRow B 35 2 v n l
theorem gathers_own {β : Type} (s B : Nat) (l : β → List Value) (n : β → Nat) : Own (fun (b : β) w => Gathers s B (l b) (n b) w) := by
  rintro b W W' row ⟨v, h1, h2⟩ hg hr
  exact ⟨v, h1.grown hg hr, own_of_own (B := B) (e := 35) (size := 2) (v := fun _ : Unit => v) (n := fun _ => n b) (xs := fun _ => l b) () W W' row h2 hg hr⟩


theorem side_nats {L : Lawn} (hv : validB L = true) : ∃ W H : Nat, (W ≤ 10 ∧ H ≤ 10) ∧ (1 ≤ W ∧ 1 ≤ H) ∧ L.wide.toNat = W ∧ L.high.toNat = H ∧ L.wide = W ∧ L.high = H := by
  obtain ⟨h1, h2, -⟩ := validB_true hv
  exact ⟨L.wide.toNat, L.high.toNat, by omega, by omega, rfl, rfl, by omega, by omega⟩

end Go.Proofs.YtgmahakpmjfhhaaRR
