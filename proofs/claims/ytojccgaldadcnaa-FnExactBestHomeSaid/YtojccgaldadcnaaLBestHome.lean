/- The law on BestHome. -/
import Derived.Test.YtojccgaldadcnaaSHome
import Derived.Test.YtojccgaldadcnaaEqCellS
import Derived.Test.YtojccgaldadcnaaZD
namespace Go.Proofs.Ytojccgaldadcnaa
open Go.RowKit
set_option linter.unusedVariables false
attribute [local go_sem ↓] loadRow loadGrid loadLawn loadMirror storeRow storeGrid storeLawn allocRow allocGrid allocLawn buildZero buildSides

set_option maxRecDepth 100000 in
set_option maxHeartbeats 2000000 in
theorem exactBestHome_walk (A : Lawn) (x y z m : Int)
    (HI : ∀ w : World, Calls Try.prog 22 #[.agg A.cells] w fun e w' => e = .returned (.tuple #[.agg #[.int .i8 x, .int .i8 y], .int .i64 z, .int .i64 m]) ∧ Below w.heap.size w w')
    (HS : ∀ w : World, Calls Try.prog 21 #[.agg A.cells] w fun e w' => e = .returned (.tuple #[.agg #[.int .i8 x, .int .i8 y], .int .i64 z, .int .i64 m]) ∧ Below w.heap.size w w') (w : World) :
    Calls Try.prog 6 #[.agg A.cells] w fun e w' => e = .returned (.bool true) ∧ Below w.heap.size w w' := by
  have HI' := Lib.hid HI
  have HS' := Lib.hid HS
  clear HI HS
  go_enter Try.func6, Try.ntmps6
  go_wp2_with fail
  have g0 : Holds (w.alloc (.cells A.cells 26)) w.heap.size A.cells := Holds.new _ _ _
  have hb : Below w.heap.size w (w.alloc (.cells A.cells 26)) := (Below.refl _ _).alloc (Nat.le_refl _) _
  obtain ⟨W, hW⟩ : ∃ W, w.alloc (.cells A.cells 26) = W := ⟨_, rfl⟩
  rw [hW] at g0 hb ⊢
  clear hW
  refine (toLawn_any _ _).mono ?_
  rintro e w1 ⟨rfl, hb1⟩
  have g1 := g0.below hb1 g0.lt
  have hb2 := below_onto hb hb1
  clear g0 hb hb1
  go_wp2_with fail
  refine (HS'.out _).mono ?_
  rintro e w2 ⟨rfl, hb3⟩
  have g2 := g1.below hb3 g1.lt
  have hb4 := below_onto hb2 hb3
  clear g1 hb2 hb3
  have q1 := Holds.new w2 #[.int .i8 x, .int .i8 y] 43
  have r2 := g2.alloc (.cells #[.int .i8 x, .int .i8 y] 43)
  have hb5 := hb4.alloc hb4.size (.cells #[.int .i8 x, .int .i8 y] 43)
  obtain ⟨e0, -⟩ := r2.facts
  obtain ⟨W3, hW3⟩ : ∃ W3, w2.alloc (.cells #[.int .i8 x, .int .i8 y] 43) = W3 := ⟨_, rfl⟩
  obtain ⟨m2, hm2⟩ : ∃ m2, w2.heap.size = m2 := ⟨_, rfl⟩
  rw [hW3] at q1 r2 hb5 e0
  rw [hm2] at q1
  clear g2 hb4
  go_wp2_with fail
  clear hW3 hm2 e0
  refine (toLawn_any _ _).mono ?_
  rintro e w3 ⟨rfl, hb6⟩
  have k1 := q1.below hb6 q1.lt
  have hb7 := below_onto hb5 hb6
  clear q1 r2 hb5 hb6
  go_wp2_with fail
  refine (HI'.out _).mono ?_
  rintro e w4 ⟨rfl, hb8⟩
  have k2 := k1.below hb8 k1.lt
  have hb9 := below_onto hb7 hb8
  clear k1 hb7 hb8
  have q1 := Holds.new w4 #[.int .i8 x, .int .i8 y] 43
  have q2 := k2.alloc (.cells #[.int .i8 x, .int .i8 y] 43)
  have hb5 := hb9.alloc hb9.size (.cells #[.int .i8 x, .int .i8 y] 43)
  obtain ⟨W5, hW5⟩ : ∃ W5, w4.alloc (.cells #[.int .i8 x, .int .i8 y] 43) = W5 := ⟨_, rfl⟩
  obtain ⟨m4, hm4⟩ : ∃ m4, w4.heap.size = m4 := ⟨_, rfl⟩
  rw [hW5] at q1 q2 hb5
  rw [hm4] at q1
  have d10 : W5.cell? ⟨m4, 0, none⟩ = some (.int .i8 x) := by rw [q1.cell]; rfl
  have d11 : W5.cell? ⟨m4, 1, none⟩ = some (.int .i8 y) := by rw [q1.cell]; rfl
  have d20 : W5.cell? ⟨m2, 0, none⟩ = some (.int .i8 x) := by rw [q2.cell]; rfl
  have d21 : W5.cell? ⟨m2, 1, none⟩ = some (.int .i8 y) := by rw [q2.cell]; rfl
  clear k2 hb9
  go_wp2_with fail
  refine (eqCell_same _ _ _).mono ?_
  rintro e w3 ⟨rfl, hb4⟩
  go_wp2_with fail
  go_ret
  exact ⟨rfl, below_onto hb5 hb4⟩

/-- The law on BestHome answers true. -/
theorem exactBestHome (A : Lawn) (hA : A.Fits) (w : World) :
    Calls Try.prog 6 #[.agg A.cells] w fun e w' => e = .returned (.bool true) ∧ Below w.heap.size w w' := by
  have hi := implHome_any A hA
  have hs := specHome_any A hA
  obtain ⟨x, y, z, m, hp⟩ := bestHomeV_form A
  rw [hp] at hi hs
  exact exactBestHome_walk A x y z m hi hs w
end Go.Proofs.Ytojccgaldadcnaa
