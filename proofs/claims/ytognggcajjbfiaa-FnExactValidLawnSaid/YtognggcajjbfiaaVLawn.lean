/- ValidLawn, of the program and of the model: both say whether a lawn is valid. -/
import Derived.Test.YtognggcajjbfiaaValid
import Derived.Test.YtognggcajjbfiaaOk
import Derived.Test.YtognggcajjbfiaaEq
import Derived.Test.YtognggcajjbfiaaGrow
namespace Go.Proofs.Ytognggcajjbfiaa
open Go.RowKit
attribute [local go_sem ↓] loadRow loadGrid loadLawn loadMirror storeRow storeGrid storeLawn allocRow allocGrid allocLawn buildZero buildSides

set_option maxRecDepth 100000 in
set_option maxHeartbeats 1000000 in
/-- The law on ValidLawn answers true. -/
theorem exactValid (A : Lawn) (hA : A.Fits) (w : World) :
    Calls Try.prog 4 #[.agg A.cells] w fun e w' => e = .returned (.bool true) ∧ Below w.heap.size w w' := by
  obtain ⟨v, hv⟩ : ∃ v, validB A = v := ⟨_, rfl⟩
  have HI : ∀ w : World, Calls Try.prog 37 #[.agg A.cells] w fun e w' => e = .returned (.bool v) ∧ Below w.heap.size w w' := fun w => hv ▸ implValid_any A hA w
  have HS : ∀ w : World, Calls Try.prog 35 #[.agg A.cells] w fun e w' => e = .returned (.bool v) ∧ Below w.heap.size w w' := fun w => hv ▸ specValid_any A hA w
  clear hv hA
  have HI' := Lib.hid HI
  have HS' := Lib.hid HS
  clear HI HS
  go_enter Try.func4, Try.ntmps4
  go_wp2_with fail
  have g0 : Holds (w.alloc (.cells A.cells 51)) w.heap.size A.cells := (Holds.new _ _ _)
  have hb : Below w.heap.size w (w.alloc (.cells A.cells 51)) := (Below.refl _ _).alloc (Nat.le_refl _) _
  obtain ⟨W, hW⟩ : ∃ W, w.alloc (.cells A.cells 51) = W := ⟨_, rfl⟩
  rw [hW] at g0 hb ⊢
  clear hW
  refine (toLawn_any _ _).mono ?_
  rintro e w1 ⟨rfl, hb1⟩
  go_wp2_with fail
  refine (HS'.out _).mono ?_
  rintro e w2 ⟨rfl, hb2⟩
  have hb3 := hb1.trans (hb2.mono hb1.size)
  have hb4 := below_onto hb hb3
  have g1 := g0.below hb3 g0.lt
  clear hb hb1 hb2 hb3 g0
  obtain ⟨r1, -⟩ := g1.facts
  go_wp2_with fail
  refine (toLawn_any _ _).mono ?_
  rintro e w3 ⟨rfl, hb1⟩
  go_wp2_with fail
  refine (HI'.out _).mono ?_
  rintro e w4 ⟨rfl, hb2⟩
  have hb3 := hb1.trans (hb2.mono hb1.size)
  have hb5 := below_onto hb4 hb3
  clear hb4 hb1 hb2 hb3 g1 r1
  cases v
  all_goals
    go_wp2
    go_ret
    exact ⟨rfl, hb5⟩
end Go.Proofs.Ytognggcajjbfiaa
