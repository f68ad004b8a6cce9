/- The law on RingsOf. -/
import Derived.Test.YtaeenkjbmlgcmaaSHoles
import Derived.Test.YtaeenkjbmlgcmaaZC
import Derived.Test.YtaeenkjbmlgcmaaZB
namespace Go.Proofs.Ytaeenkjbmlgcmaa
open Go.RowKit
set_option linter.unusedVariables false
attribute [local go_sem ↓] loadRow loadGrid loadLawn loadMirror storeRow storeGrid storeLawn allocRow allocGrid allocLawn buildZero buildSides

set_option maxRecDepth 100000 in
set_option maxHeartbeats 2000000 in
theorem exactRingsOf_walk (A : Lawn) (r0 : Int) (r1 : Int)
    (HI : ∀ w : World, Calls Try.prog 14 #[.agg A.cells] w fun e w' => e = .returned (.tuple #[.int .i64 r0, .int .i64 r1]) ∧ Below w.heap.size w w')
    (HS : ∀ w : World, Calls Try.prog 12 #[.agg A.cells] w fun e w' => e = .returned (.tuple #[.int .i64 r0, .int .i64 r1]) ∧ Below w.heap.size w w') (w : World) :
    Calls Try.prog 3 #[.agg A.cells] w fun e w' => e = .returned (.bool true) ∧ Below w.heap.size w w' := by
  have HI' := Lib.hid HI
  have HS' := Lib.hid HS
  clear HI HS
  go_enter Try.func3, Try.ntmps3
  go_wp2_with fail
  have g0 : Holds (w.alloc (.cells A.cells 26)) (w.heap.size) A.cells := Holds.new w A.cells 26
  have hb : Below w.heap.size w (w.alloc (.cells A.cells 26)) := (Below.refl w.heap.size w).alloc (Nat.le_refl _) (.cells A.cells 26)
  obtain ⟨W, hW⟩ : ∃ W, (w.alloc (.cells A.cells 26)) = W := ⟨_, rfl⟩
  rw [hW] at g0 hb ⊢
  clear hW
  obtain ⟨l0, -⟩ := g0.facts
  refine (toLawn_any _ _).mono ?_
  rintro e w1 ⟨rfl, hb5⟩
  go_wp2_with fail
  refine (HS'.out _).mono ?_
  rintro e W1 ⟨rfl, hb6⟩
  have hW := below_onto hb5 hb6
  have hb1 := below_onto hb hW
  have g0 := g0.below hW g0.lt
  clear hW hb5 hb6 hb l0
  obtain ⟨l0, -⟩ := g0.facts
  go_wp2_with fail
  refine (toLawn_any _ _).mono ?_
  rintro e w1 ⟨rfl, hb5⟩
  go_wp2_with fail
  refine (HI'.out _).mono ?_
  rintro e W2 ⟨rfl, hb6⟩
  have hW := below_onto hb5 hb6
  have hb2 := below_onto hb1 hW
  have g0 := g0.below hW g0.lt
  clear hW hb5 hb6 hb1 l0
  all_goals
    go_wp2_with fail
    go_ret
    exact ⟨rfl, hb2⟩

theorem exactRingsOf (A : Lawn) (hA : A.Fits) (w : World) :
    Calls Try.prog 3 #[.agg A.cells] w fun e w' => e = .returned (.bool true) ∧ Below w.heap.size w w' :=
  exactRingsOf_walk A (ringsZ A) (pcC A) (implRings_any A hA) (specRings_any A hA) w

end Go.Proofs.Ytaeenkjbmlgcmaa
