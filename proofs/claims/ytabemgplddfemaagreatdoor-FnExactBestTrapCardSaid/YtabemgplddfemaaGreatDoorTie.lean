/-
  DERIVED. GIVEN WITH THE SEED: THE PROGRAM's TIES (one call each: nine closed facts by the kernel) AND EACH ROW's TIE, after the 31st guide's Derived/Test/Toyas{Tie, Card}.lean. No idea stands in it: it is a product of the set-up. Laid BY PROGRAM, IN A SANDBOX (cutbox-door.mjs). By AI agents, Wed Nov 11 2026. No macro, syntax, notation, axiom, sorry.
-/
import Derived.Test.YtabemgplddfemaaGreatDoorRows
import Derived.LaidByTextLater
import Derived.SevenTiedAt
import Derived.LaidSub
import Derived.LaidOnce
namespace Go.Proofs.YtabemgplddfemaaGreatDoor
open Go
set_option maxRecDepth 100000
theorem seatTie1 : Tryz.prog.laidByTextLater [("loop.example/g01405/impl.errLevels", Rows.laid_loop_example_g01405_impl_errLevels), ("loop.example/g01405/impl.errOutside", Rows.laid_loop_example_g01405_impl_errOutside), ("loop.example/g01405/impl.errNoGrass", Rows.laid_loop_example_g01405_impl_errNoGrass), ("loop.example/g01405/impl.errNoWay", Rows.laid_loop_example_g01405_impl_errNoWay), ("loop.example/g01405/impl.errTooFar", Rows.laid_loop_example_g01405_impl_errTooFar)] [.sentinel, .sentinel, .sentinel, .sentinel, .sentinel] true :=
  Program.laidByTextLater_by_one 104 8 2 (by kernel_rfl) (by kernel_rfl) (by kernel_rfl) (by kernel_rfl) (by kernel_rfl) (by kernel_rfl) (fun _ _ => by kernel_rfl)
theorem noOwnUnsafe : Tryz.pinned.checked.prog.headLifts.contains "ownunsafe" = false := by kernel_rfl
theorem tie : Tryz.prog.laidByTextLater [("loop.example/g01405/impl.errLevels", Rows.laid_loop_example_g01405_impl_errLevels), ("loop.example/g01405/impl.errOutside", Rows.laid_loop_example_g01405_impl_errOutside), ("loop.example/g01405/impl.errNoGrass", Rows.laid_loop_example_g01405_impl_errNoGrass), ("loop.example/g01405/impl.errNoWay", Rows.laid_loop_example_g01405_impl_errNoWay), ("loop.example/g01405/impl.errTooFar", Rows.laid_loop_example_g01405_impl_errTooFar)] [.sentinel, .sentinel, .sentinel, .sentinel, .sentinel] true :=
  Program.laidByTextLater.sub seatTie1 ["loop.example/g01405/impl.errLevels", "loop.example/g01405/impl.errOutside", "loop.example/g01405/impl.errNoGrass", "loop.example/g01405/impl.errNoWay", "loop.example/g01405/impl.errTooFar"] (by kernel_rfl) (by kernel_rfl)
theorem fnExactBestTrap_row_tie : Rows.fnExactBestTrapRow.laidByTextAt .later Tryz.pinned [.sentinel, .sentinel, .sentinel, .sentinel, .sentinel] true :=
  OpenClaim.laidByTextAt_later rfl rfl tie noOwnUnsafe
theorem fnExactMostVisited_row_tie : Rows.fnExactMostVisitedRow.laidByTextAt .later Tryz.pinned [.sentinel, .sentinel, .sentinel, .sentinel, .sentinel] true :=
  OpenClaim.laidByTextAt_later rfl rfl tie noOwnUnsafe
theorem fnExactBestTrapUpto_row_tie : Rows.fnExactBestTrapUptoRow.laidByTextAt .later Tryz.pinned [.sentinel, .sentinel, .sentinel, .sentinel, .sentinel] true :=
  OpenClaim.laidByTextAt_later rfl rfl tie noOwnUnsafe
theorem fnExactMostVisitedUpto_row_tie : Rows.fnExactMostVisitedUptoRow.laidByTextAt .later Tryz.pinned [.sentinel, .sentinel, .sentinel, .sentinel, .sentinel] true :=
  OpenClaim.laidByTextAt_later rfl rfl tie noOwnUnsafe
end Go.Proofs.YtabemgplddfemaaGreatDoor
