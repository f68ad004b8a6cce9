/-
  NARROWER THAN 'FOR EVERY INPUT', by the rows' own cells (each row's printed sentence says how): FnExactBestTrap: ifaces, laid · FnExactMostVisited: ifaces, laid.
  DERIVED. THE GIVEN ROWS OF THIS SEAT. 2 by the template 'for every input the law returns true; each argument reads behind the call as it read before'; 0 by the template 'total and deterministic' (their statements: YtabemgplddfemaaGreatDoorTotals.lean).
  GIVEN WITH THE SEED: the statements are not yours to turn. If you find one false, say at which input.
  Laid BY PROGRAM, IN A SANDBOX (cutbox-rows.mjs): the forced cells as the released guide's own fill.sh prints them over the translation 9c10880228e84f36… (all of the seat's roots in one cut). By AI agents, Wed Nov 11 2026. No macro, syntax, notation, axiom, sorry.
-/
import Derived.Test.YtabemgplddfemaaGreatDoorChecked
import GoSem.Claim
import GoSem.ClaimJoined
import GoSem.ClaimMapViews
import Derived.JoinedTies
import Derived.KernelRfl
namespace Go.Proofs.YtabemgplddfemaaGreatDoor
/- THE CELL 'sum', in the pinned program and in every row, IS THE sha256 OF THE DUMP (.gsa) THAT YtabemgplddfemaaGreatDoorProg.lean LOADS. Nothing in Lean hashes anything: it is a label: what it is worth is what the hold of that sum in a sandbox is worth. -/
noncomputable def Tryz.pinned : Pinned := { name := "ytabemgplddfemaagreatdoor", sum := "9c10880228e84f362d3d1a5334afd2f6ee961d67f83e11cfb4e754b4c725a5d4", checked := Tryz.checked }
namespace Rows
def none {H : Type} : Left H := { results := [], args := [] }

/- WHAT THE LISTED PACKAGE-LEVEL VARIABLES READ AS WHEN THE CALL BEGINS. Each datum BY PROGRAM (the guide's laid-datum.mjs) off the statement by which the dump's own 'gosem.cut.vars' lays the variable. In a bare row this is a premise. The card (YtabemgplddfemaaGreatDoorCards.lean) ties it to the program's text. -/
def laid_loop_example_g01405_impl_errLevels {H : Type} : DataW H := .iface "*errors.errorString" (.ptr (.agg [.lit (.string [108, 101, 118, 101, 108, 115, 32, 97, 114, 101, 32, 110, 111, 116, 32, 118, 97, 108, 105, 100, 32, 102, 111, 114, 32, 116, 104, 101, 32, 108, 97, 119, 110])]))
def laid_loop_example_g01405_impl_errOutside {H : Type} : DataW H := .iface "*errors.errorString" (.ptr (.agg [.lit (.string [97, 32, 99, 101, 108, 108, 32, 111, 114, 32, 97, 32, 110, 117, 109, 98, 101, 114, 32, 105, 115, 32, 111, 117, 116, 32, 111, 102, 32, 114, 97, 110, 103, 101])]))
def laid_loop_example_g01405_impl_errNoGrass {H : Type} : DataW H := .iface "*errors.errorString" (.ptr (.agg [.lit (.string [97, 32, 99, 101, 108, 108, 32, 105, 115, 32, 110, 111, 32, 103, 114, 97, 115, 115])]))
def laid_loop_example_g01405_impl_errNoWay {H : Type} : DataW H := .iface "*errors.errorString" (.ptr (.agg [.lit (.string [97, 32, 104, 97, 117, 108, 32, 101, 110, 100, 115, 32, 119, 104, 101, 114, 101, 32, 105, 116, 32, 98, 101, 103, 105, 110, 115])]))
def laid_loop_example_g01405_impl_errTooFar {H : Type} : DataW H := .iface "*errors.errorString" (.ptr (.agg [.lit (.string [97, 32, 108, 101, 118, 101, 108, 32, 119, 111, 117, 108, 100, 32, 98, 101, 32, 116, 111, 111, 32, 104, 105, 103, 104, 32, 111, 114, 32, 116, 111, 111, 32, 108, 111, 119])]))

/-- 'laws.FnExactBestTrap': WHATEVER THE INPUT: true; the input reads as it did. -/
def fnExactBestTrapSpec : ChangeSpec := { name := "fnExactBestTrap", vars := ["loop.example/g01405/impl.errLevels", "loop.example/g01405/impl.errOutside", "loop.example/g01405/impl.errNoGrass", "loop.example/g01405/impl.errNoWay", "loop.example/g01405/impl.errTooFar"], fn := fun _ => fun
  | [d1, d2, d3, g1, g2, g3, g4, g5] => { results := [.lit (.bool true)], args := [d1, d2, d3], vars := [g1, g2, g3, g4, g5] }
  | _ => none }
def fnExactBestTrapRow : OpenClaim := { program := "ytabemgplddfemaagreatdoor", sum := "9c10880228e84f362d3d1a5334afd2f6ee961d67f83e11cfb4e754b4c725a5d4", func := "loop.example/g01405/laws.FnExactBestTrap", spec := "fnExactBestTrap", inPlace := ["internal/reflectlite.TypeOf"], unfollowed := true, recurses := true, named := ["loop.example/g01405/impl.errLevels", "loop.example/g01405/impl.errOutside", "loop.example/g01405/impl.errNoGrass", "loop.example/g01405/impl.errNoWay", "loop.example/g01405/impl.errTooFar"], ifaces := true, plainKeys := false, apart := false, laid := [("loop.example/g01405/impl.errLevels", laid_loop_example_g01405_impl_errLevels), ("loop.example/g01405/impl.errOutside", laid_loop_example_g01405_impl_errOutside), ("loop.example/g01405/impl.errNoGrass", laid_loop_example_g01405_impl_errNoGrass), ("loop.example/g01405/impl.errNoWay", laid_loop_example_g01405_impl_errNoWay), ("loop.example/g01405/impl.errTooFar", laid_loop_example_g01405_impl_errTooFar)] }
def FnExactBestTrapSaid : Prop := fnExactBestTrapRow.holds Tryz.pinned (OpenSpec.ofChange fnExactBestTrapSpec)

/-- ITS FALSE NEIGHBOUR: 'it returns false'. Refute it at one input. -/
def fnExactBestTrapWrong : ChangeSpec := { name := "fnExactBestTrap", vars := ["loop.example/g01405/impl.errLevels", "loop.example/g01405/impl.errOutside", "loop.example/g01405/impl.errNoGrass", "loop.example/g01405/impl.errNoWay", "loop.example/g01405/impl.errTooFar"], fn := fun _ => fun
  | [d1, d2, d3, g1, g2, g3, g4, g5] => { results := [.lit (.bool false)], args := [d1, d2, d3], vars := [g1, g2, g3, g4, g5] }
  | _ => none }
def FnExactBestTrapWrongFalsely : Prop := fnExactBestTrapRow.holds Tryz.pinned (OpenSpec.ofChange fnExactBestTrapWrong)

/-- 'laws.FnExactMostVisited': WHATEVER THE INPUT: true; the input reads as it did. -/
def fnExactMostVisitedSpec : ChangeSpec := { name := "fnExactMostVisited", vars := ["loop.example/g01405/impl.errLevels", "loop.example/g01405/impl.errOutside", "loop.example/g01405/impl.errNoGrass", "loop.example/g01405/impl.errNoWay", "loop.example/g01405/impl.errTooFar"], fn := fun _ => fun
  | [d1, d2, d3, d4, g1, g2, g3, g4, g5] => { results := [.lit (.bool true)], args := [d1, d2, d3, d4], vars := [g1, g2, g3, g4, g5] }
  | _ => none }
def fnExactMostVisitedRow : OpenClaim := { program := "ytabemgplddfemaagreatdoor", sum := "9c10880228e84f362d3d1a5334afd2f6ee961d67f83e11cfb4e754b4c725a5d4", func := "loop.example/g01405/laws.FnExactMostVisited", spec := "fnExactMostVisited", inPlace := ["internal/reflectlite.TypeOf"], unfollowed := true, recurses := true, named := ["loop.example/g01405/impl.errLevels", "loop.example/g01405/impl.errOutside", "loop.example/g01405/impl.errNoGrass", "loop.example/g01405/impl.errNoWay", "loop.example/g01405/impl.errTooFar"], ifaces := true, plainKeys := false, apart := false, laid := [("loop.example/g01405/impl.errLevels", laid_loop_example_g01405_impl_errLevels), ("loop.example/g01405/impl.errOutside", laid_loop_example_g01405_impl_errOutside), ("loop.example/g01405/impl.errNoGrass", laid_loop_example_g01405_impl_errNoGrass), ("loop.example/g01405/impl.errNoWay", laid_loop_example_g01405_impl_errNoWay), ("loop.example/g01405/impl.errTooFar", laid_loop_example_g01405_impl_errTooFar)] }
def FnExactMostVisitedSaid : Prop := fnExactMostVisitedRow.holds Tryz.pinned (OpenSpec.ofChange fnExactMostVisitedSpec)

/-- ITS FALSE NEIGHBOUR: 'it returns false'. Refute it at one input. -/
def fnExactMostVisitedWrong : ChangeSpec := { name := "fnExactMostVisited", vars := ["loop.example/g01405/impl.errLevels", "loop.example/g01405/impl.errOutside", "loop.example/g01405/impl.errNoGrass", "loop.example/g01405/impl.errNoWay", "loop.example/g01405/impl.errTooFar"], fn := fun _ => fun
  | [d1, d2, d3, d4, g1, g2, g3, g4, g5] => { results := [.lit (.bool false)], args := [d1, d2, d3, d4], vars := [g1, g2, g3, g4, g5] }
  | _ => none }
def FnExactMostVisitedWrongFalsely : Prop := fnExactMostVisitedRow.holds Tryz.pinned (OpenSpec.ofChange fnExactMostVisitedWrong)

/- THE SECOND FORM. 'bulk': how many values and letters a reading holds, each counted each time it is reached (what is shared counts as often as it is met; a slice's spare places count too). A statement '..UptoSaid' is the law's where the arguments, and the package variables that the reading takes, are together of bulk at most 1048576: NARROWER than '..Said'. Prove '..Said' where nothing that the law and all that it calls make is longer than what came in: it says more and counts as full. Else prove '..UptoSaid'. A law counts once. -/
mutual
def uptoBulk {H : Type} : DataW H → Nat
  | .lit (.string bytes) => bytes.length + 1
  | .lit _ => 1
  | .nil => 1
  | .ptr d => uptoBulk d + 1
  | .slice elems spare => uptoBulkAll elems + uptoBulkAll spare + 1
  | .agg parts => uptoBulkAll parts + 1
  | .iface _ d => uptoBulk d + 1
  | .map entries => uptoBulkEntries entries + 1
  | .held _ => 1
def uptoBulkAll {H : Type} : List (DataW H) → Nat
  | [] => 0
  | d :: r => uptoBulk d + uptoBulkAll r
def uptoBulkEntries {H : Type} : List (Lit × DataW H) → Nat
  | [] => 0
  | x :: r => uptoBulkEntry x + uptoBulkEntries r
def uptoBulkEntry {H : Type} : Lit × DataW H → Nat
  | (.string bytes, d) => bytes.length + uptoBulk d + 1
  | (_, d) => uptoBulk d + 1
 end
def uptoSmall : (H : Type) → List (DataW H) → Bool := fun _ ds => decide (uptoBulkAll ds ≤ 1048576)
def OpenSpec.upto (s : _root_.Go.ChangeSpec) : _root_.Go.OpenSpec := { _root_.Go.OpenSpec.ofChange s with cond := some uptoSmall }

/-- 'laws.FnExactBestTrap', WHERE WHAT IT READS IS OF BULK AT MOST 1048576: true; the input reads as it did. -/
def fnExactBestTrapUptoRow : OpenClaim := { program := "ytabemgplddfemaagreatdoor", sum := "9c10880228e84f362d3d1a5334afd2f6ee961d67f83e11cfb4e754b4c725a5d4", func := "loop.example/g01405/laws.FnExactBestTrap", spec := "fnExactBestTrap", inPlace := ["internal/reflectlite.TypeOf"], unfollowed := true, recurses := true, named := ["loop.example/g01405/impl.errLevels", "loop.example/g01405/impl.errOutside", "loop.example/g01405/impl.errNoGrass", "loop.example/g01405/impl.errNoWay", "loop.example/g01405/impl.errTooFar"], ifaces := true, plainKeys := false, apart := false, laid := [("loop.example/g01405/impl.errLevels", laid_loop_example_g01405_impl_errLevels), ("loop.example/g01405/impl.errOutside", laid_loop_example_g01405_impl_errOutside), ("loop.example/g01405/impl.errNoGrass", laid_loop_example_g01405_impl_errNoGrass), ("loop.example/g01405/impl.errNoWay", laid_loop_example_g01405_impl_errNoWay), ("loop.example/g01405/impl.errTooFar", laid_loop_example_g01405_impl_errTooFar)], narrowed := true }
def FnExactBestTrapUptoSaid : Prop := fnExactBestTrapUptoRow.holds Tryz.pinned (OpenSpec.upto fnExactBestTrapSpec)

/-- 'laws.FnExactMostVisited', WHERE WHAT IT READS IS OF BULK AT MOST 1048576: true; the input reads as it did. -/
def fnExactMostVisitedUptoRow : OpenClaim := { program := "ytabemgplddfemaagreatdoor", sum := "9c10880228e84f362d3d1a5334afd2f6ee961d67f83e11cfb4e754b4c725a5d4", func := "loop.example/g01405/laws.FnExactMostVisited", spec := "fnExactMostVisited", inPlace := ["internal/reflectlite.TypeOf"], unfollowed := true, recurses := true, named := ["loop.example/g01405/impl.errLevels", "loop.example/g01405/impl.errOutside", "loop.example/g01405/impl.errNoGrass", "loop.example/g01405/impl.errNoWay", "loop.example/g01405/impl.errTooFar"], ifaces := true, plainKeys := false, apart := false, laid := [("loop.example/g01405/impl.errLevels", laid_loop_example_g01405_impl_errLevels), ("loop.example/g01405/impl.errOutside", laid_loop_example_g01405_impl_errOutside), ("loop.example/g01405/impl.errNoGrass", laid_loop_example_g01405_impl_errNoGrass), ("loop.example/g01405/impl.errNoWay", laid_loop_example_g01405_impl_errNoWay), ("loop.example/g01405/impl.errTooFar", laid_loop_example_g01405_impl_errTooFar)], narrowed := true }
def FnExactMostVisitedUptoSaid : Prop := fnExactMostVisitedUptoRow.holds Tryz.pinned (OpenSpec.upto fnExactMostVisitedSpec)

end Rows
end Go.Proofs.YtabemgplddfemaaGreatDoor
