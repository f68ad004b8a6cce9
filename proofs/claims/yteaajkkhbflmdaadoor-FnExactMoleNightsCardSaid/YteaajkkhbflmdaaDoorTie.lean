/-
  DERIVED. GIVEN WITH THE SEED: THE PROGRAM's TIES (one call each: nine closed facts by the kernel) AND EACH ROW's TIE, after the 31st guide's Derived/Test/Toyas{Tie, Card}.lean. No idea stands in it: it is a product of the set-up. Laid BY PROGRAM, IN A SANDBOX (cutbox-door.mjs). By AI agents, Wed Nov 11 2026. No macro, syntax, notation, axiom, sorry.
-/
import Derived.Test.YteaajkkhbflmdaaDoorRows
import Derived.LaidByTextLater
import Derived.SevenTiedAt
import Derived.LaidSub
import Derived.LaidOnce
namespace Go.Proofs.YteaajkkhbflmdaaDoor
open Go
set_option maxRecDepth 100000
theorem seatTie1 : Tryd.prog.laidByTextLater [("loop.example/g01405/impl.errLevels", Rows.laid_loop_example_g01405_impl_errLevels), ("loop.example/g01405/impl.errOutside", Rows.laid_loop_example_g01405_impl_errOutside), ("loop.example/g01405/impl.errNoGrass", Rows.laid_loop_example_g01405_impl_errNoGrass), ("loop.example/g01405/impl.errNoWay", Rows.laid_loop_example_g01405_impl_errNoWay), ("loop.example/g01405/impl.errTooFar", Rows.laid_loop_example_g01405_impl_errTooFar)] [.sentinel, .sentinel, .sentinel, .sentinel, .sentinel] true :=
  Program.laidByTextLater_by_one 104 8 2 (by kernel_rfl) (by kernel_rfl) (by kernel_rfl) (by kernel_rfl) (by kernel_rfl) (by kernel_rfl) (fun _ _ => by kernel_rfl)
theorem noOwnUnsafe : Tryd.pinned.checked.prog.headLifts.contains "ownunsafe" = false := by kernel_rfl
theorem tie : Tryd.prog.laidByTextLater [("loop.example/g01405/impl.errLevels", Rows.laid_loop_example_g01405_impl_errLevels), ("loop.example/g01405/impl.errOutside", Rows.laid_loop_example_g01405_impl_errOutside), ("loop.example/g01405/impl.errNoGrass", Rows.laid_loop_example_g01405_impl_errNoGrass), ("loop.example/g01405/impl.errNoWay", Rows.laid_loop_example_g01405_impl_errNoWay), ("loop.example/g01405/impl.errTooFar", Rows.laid_loop_example_g01405_impl_errTooFar)] [.sentinel, .sentinel, .sentinel, .sentinel, .sentinel] true :=
  Program.laidByTextLater.sub seatTie1 ["loop.example/g01405/impl.errLevels", "loop.example/g01405/impl.errOutside", "loop.example/g01405/impl.errNoGrass", "loop.example/g01405/impl.errNoWay", "loop.example/g01405/impl.errTooFar"] (by kernel_rfl) (by kernel_rfl)
theorem fnExactMoveSoil_row_tie : Rows.fnExactMoveSoilRow.laidByTextAt .later Tryd.pinned [.sentinel, .sentinel, .sentinel, .sentinel, .sentinel] true :=
  OpenClaim.laidByTextAt_later rfl rfl tie noOwnUnsafe
theorem fnExactMoveAll_row_tie : Rows.fnExactMoveAllRow.laidByTextAt .later Tryd.pinned [.sentinel, .sentinel, .sentinel, .sentinel, .sentinel] true :=
  OpenClaim.laidByTextAt_later rfl rfl tie noOwnUnsafe
theorem fnExactMoleOnce_row_tie : Rows.fnExactMoleOnceRow.laidByTextAt .later Tryd.pinned [.sentinel, .sentinel, .sentinel, .sentinel, .sentinel] true :=
  OpenClaim.laidByTextAt_later rfl rfl tie noOwnUnsafe
theorem fnExactMoleNights_row_tie : Rows.fnExactMoleNightsRow.laidByTextAt .later Tryd.pinned [.sentinel, .sentinel, .sentinel, .sentinel, .sentinel] true :=
  OpenClaim.laidByTextAt_later rfl rfl tie noOwnUnsafe
theorem fnExactNightOf_row_tie : Rows.fnExactNightOfRow.laidByTextAt .later Tryd.pinned [.sentinel, .sentinel, .sentinel, .sentinel, .sentinel] true :=
  OpenClaim.laidByTextAt_later rfl rfl tie noOwnUnsafe
theorem fnExactMoveSoilUpto_row_tie : Rows.fnExactMoveSoilUptoRow.laidByTextAt .later Tryd.pinned [.sentinel, .sentinel, .sentinel, .sentinel, .sentinel] true :=
  OpenClaim.laidByTextAt_later rfl rfl tie noOwnUnsafe
theorem fnExactMoveAllUpto_row_tie : Rows.fnExactMoveAllUptoRow.laidByTextAt .later Tryd.pinned [.sentinel, .sentinel, .sentinel, .sentinel, .sentinel] true :=
  OpenClaim.laidByTextAt_later rfl rfl tie noOwnUnsafe
theorem fnExactMoleOnceUpto_row_tie : Rows.fnExactMoleOnceUptoRow.laidByTextAt .later Tryd.pinned [.sentinel, .sentinel, .sentinel, .sentinel, .sentinel] true :=
  OpenClaim.laidByTextAt_later rfl rfl tie noOwnUnsafe
theorem fnExactMoleNightsUpto_row_tie : Rows.fnExactMoleNightsUptoRow.laidByTextAt .later Tryd.pinned [.sentinel, .sentinel, .sentinel, .sentinel, .sentinel] true :=
  OpenClaim.laidByTextAt_later rfl rfl tie noOwnUnsafe
theorem fnExactNightOfUpto_row_tie : Rows.fnExactNightOfUptoRow.laidByTextAt .later Tryd.pinned [.sentinel, .sentinel, .sentinel, .sentinel, .sentinel] true :=
  OpenClaim.laidByTextAt_later rfl rfl tie noOwnUnsafe
end Go.Proofs.YteaajkkhbflmdaaDoor
