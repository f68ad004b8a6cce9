/-
  NARROWER THAN 'FOR EVERY INPUT', by the rows' own cells (each row's printed sentence says how): FnExactCountWeeds: laid · FnExactSpreadOnce: laid · FnExactSpreadDays: laid · FnExactDaysUntil: laid · FnExactCutRow: laid · FnExactHoeRow: laid · FnExactBestRow: laid · FnExactMayBeFrom: laid · FnExactSeedFor: laid · FnExactMirrorWeeds: laid · FnExactSpotsOf: laid.
  DERIVED. THE GIVEN ROWS OF THIS SEAT. 11 by the template 'for every input the law returns true; each argument reads behind the call as it read before'; 0 by the template 'total and deterministic' (their statements: YtoengjabakcpjaaDoorTotals.lean).
  GIVEN WITH THE SEED: the statements are not yours to turn. If you find one false, say at which input.
  Laid BY PROGRAM, IN A SANDBOX (cutbox-rows.mjs): the forced cells as the released guide's own fill.sh prints them over the translation 0e8ddecfa49bf913… (all of the seat's roots in one cut). By AI agents, Wed Nov 11 2026. No macro, syntax, notation, axiom, sorry.
-/
import Derived.Test.YtoengjabakcpjaaDoorChecked
import GoSem.Claim
import GoSem.ClaimJoined
import GoSem.ClaimMapViews
import Derived.JoinedTies
import Derived.KernelRfl
namespace Go.Proofs.YtoengjabakcpjaaDoor
/- THE CELL 'sum', in the pinned program and in every row, IS THE sha256 OF THE DUMP (.gsa) THAT YtoengjabakcpjaaDoorProg.lean LOADS. Nothing in Lean hashes anything: it is a label: what it is worth is what the hold of that sum in a sandbox is worth. -/
noncomputable def Tryd.pinned : Pinned := { name := "ytoengjabakcpjaadoor", sum := "0e8ddecfa49bf913393b9c71c1cbfbc44ee99e17049bcb7ac3bed3efb9173371", checked := Tryd.checked }
namespace Rows
def none {H : Type} : Left H := { results := [], args := [] }

/- WHAT THE LISTED PACKAGE-LEVEL VARIABLES READ AS WHEN THE CALL BEGINS. Each datum BY PROGRAM (the guide's laid-datum.mjs) off the statement by which the dump's own 'gosem.cut.vars' lays the variable. In a bare row this is a premise. The card (YtoengjabakcpjaaDoorCards.lean) ties it to the program's text. -/
def laid_errors_errorType {H : Type} : DataW H := .iface "internal/reflectlite.rtype" (.agg [.ptr (.lit (.string [101, 114, 114, 111, 114]))])

/-- 'laws.FnExactCountWeeds': WHATEVER THE INPUT: true; the input reads as it did. -/
def fnExactCountWeedsSpec : ChangeSpec := { name := "fnExactCountWeeds", fn := fun _ => fun
  | [d1, d2] => { results := [.lit (.bool true)], args := [d1, d2] }
  | _ => none }
def fnExactCountWeedsRow : OpenClaim := { program := "ytoengjabakcpjaadoor", sum := "0e8ddecfa49bf913393b9c71c1cbfbc44ee99e17049bcb7ac3bed3efb9173371", func := "loop.example/g01405/laws.FnExactCountWeeds", spec := "fnExactCountWeeds", inPlace := ["internal/reflectlite.ValueOf", "(internal/reflectlite.Value).Type", "(internal/reflectlite.Value).IsNil", "internal/reflectlite.TypeOf", "(internal/reflectlite.Value).Elem", "(internal/reflectlite.Value).Set"], unfollowed := true, recurses := true, named := ["errors.errorType"], apart := false, laid := [("errors.errorType", laid_errors_errorType)] }
def FnExactCountWeedsSaid : Prop := fnExactCountWeedsRow.holds Tryd.pinned (OpenSpec.ofChange fnExactCountWeedsSpec)

/-- ITS FALSE NEIGHBOUR: 'it returns false'. Refute it at one input. -/
def fnExactCountWeedsWrong : ChangeSpec := { name := "fnExactCountWeeds", fn := fun _ => fun
  | [d1, d2] => { results := [.lit (.bool false)], args := [d1, d2] }
  | _ => none }
def FnExactCountWeedsWrongFalsely : Prop := fnExactCountWeedsRow.holds Tryd.pinned (OpenSpec.ofChange fnExactCountWeedsWrong)

/-- 'laws.FnExactSpreadOnce': WHATEVER THE INPUT: true; the input reads as it did. -/
def fnExactSpreadOnceSpec : ChangeSpec := { name := "fnExactSpreadOnce", fn := fun _ => fun
  | [d1, d2, d3] => { results := [.lit (.bool true)], args := [d1, d2, d3] }
  | _ => none }
def fnExactSpreadOnceRow : OpenClaim := { program := "ytoengjabakcpjaadoor", sum := "0e8ddecfa49bf913393b9c71c1cbfbc44ee99e17049bcb7ac3bed3efb9173371", func := "loop.example/g01405/laws.FnExactSpreadOnce", spec := "fnExactSpreadOnce", inPlace := ["internal/reflectlite.ValueOf", "(internal/reflectlite.Value).Type", "(internal/reflectlite.Value).IsNil", "internal/reflectlite.TypeOf", "(internal/reflectlite.Value).Elem", "(internal/reflectlite.Value).Set"], unfollowed := true, recurses := true, named := ["errors.errorType"], apart := false, laid := [("errors.errorType", laid_errors_errorType)] }
def FnExactSpreadOnceSaid : Prop := fnExactSpreadOnceRow.holds Tryd.pinned (OpenSpec.ofChange fnExactSpreadOnceSpec)

/-- ITS FALSE NEIGHBOUR: 'it returns false'. Refute it at one input. -/
def fnExactSpreadOnceWrong : ChangeSpec := { name := "fnExactSpreadOnce", fn := fun _ => fun
  | [d1, d2, d3] => { results := [.lit (.bool false)], args := [d1, d2, d3] }
  | _ => none }
def FnExactSpreadOnceWrongFalsely : Prop := fnExactSpreadOnceRow.holds Tryd.pinned (OpenSpec.ofChange fnExactSpreadOnceWrong)

/-- 'laws.FnExactSpreadDays': WHATEVER THE INPUT: true; the input reads as it did. -/
def fnExactSpreadDaysSpec : ChangeSpec := { name := "fnExactSpreadDays", fn := fun _ => fun
  | [d1, d2, d3, d4] => { results := [.lit (.bool true)], args := [d1, d2, d3, d4] }
  | _ => none }
def fnExactSpreadDaysRow : OpenClaim := { program := "ytoengjabakcpjaadoor", sum := "0e8ddecfa49bf913393b9c71c1cbfbc44ee99e17049bcb7ac3bed3efb9173371", func := "loop.example/g01405/laws.FnExactSpreadDays", spec := "fnExactSpreadDays", inPlace := ["internal/reflectlite.ValueOf", "(internal/reflectlite.Value).Type", "(internal/reflectlite.Value).IsNil", "internal/reflectlite.TypeOf", "(internal/reflectlite.Value).Elem", "(internal/reflectlite.Value).Set"], unfollowed := true, recurses := true, named := ["errors.errorType"], apart := false, laid := [("errors.errorType", laid_errors_errorType)] }
def FnExactSpreadDaysSaid : Prop := fnExactSpreadDaysRow.holds Tryd.pinned (OpenSpec.ofChange fnExactSpreadDaysSpec)

/-- ITS FALSE NEIGHBOUR: 'it returns false'. Refute it at one input. -/
def fnExactSpreadDaysWrong : ChangeSpec := { name := "fnExactSpreadDays", fn := fun _ => fun
  | [d1, d2, d3, d4] => { results := [.lit (.bool false)], args := [d1, d2, d3, d4] }
  | _ => none }
def FnExactSpreadDaysWrongFalsely : Prop := fnExactSpreadDaysRow.holds Tryd.pinned (OpenSpec.ofChange fnExactSpreadDaysWrong)

/-- 'laws.FnExactDaysUntil': WHATEVER THE INPUT: true; the input reads as it did. -/
def fnExactDaysUntilSpec : ChangeSpec := { name := "fnExactDaysUntil", fn := fun _ => fun
  | [d1, d2, d3, d4] => { results := [.lit (.bool true)], args := [d1, d2, d3, d4] }
  | _ => none }
def fnExactDaysUntilRow : OpenClaim := { program := "ytoengjabakcpjaadoor", sum := "0e8ddecfa49bf913393b9c71c1cbfbc44ee99e17049bcb7ac3bed3efb9173371", func := "loop.example/g01405/laws.FnExactDaysUntil", spec := "fnExactDaysUntil", inPlace := ["internal/reflectlite.ValueOf", "(internal/reflectlite.Value).Type", "(internal/reflectlite.Value).IsNil", "internal/reflectlite.TypeOf", "(internal/reflectlite.Value).Elem", "(internal/reflectlite.Value).Set"], unfollowed := true, recurses := true, named := ["errors.errorType"], apart := false, laid := [("errors.errorType", laid_errors_errorType)] }
def FnExactDaysUntilSaid : Prop := fnExactDaysUntilRow.holds Tryd.pinned (OpenSpec.ofChange fnExactDaysUntilSpec)

/-- ITS FALSE NEIGHBOUR: 'it returns false'. Refute it at one input. -/
def fnExactDaysUntilWrong : ChangeSpec := { name := "fnExactDaysUntil", fn := fun _ => fun
  | [d1, d2, d3, d4] => { results := [.lit (.bool false)], args := [d1, d2, d3, d4] }
  | _ => none }
def FnExactDaysUntilWrongFalsely : Prop := fnExactDaysUntilRow.holds Tryd.pinned (OpenSpec.ofChange fnExactDaysUntilWrong)

/-- 'laws.FnExactCutRow': WHATEVER THE INPUT: true; the input reads as it did. -/
def fnExactCutRowSpec : ChangeSpec := { name := "fnExactCutRow", fn := fun _ => fun
  | [d1, d2, d3] => { results := [.lit (.bool true)], args := [d1, d2, d3] }
  | _ => none }
def fnExactCutRowRow : OpenClaim := { program := "ytoengjabakcpjaadoor", sum := "0e8ddecfa49bf913393b9c71c1cbfbc44ee99e17049bcb7ac3bed3efb9173371", func := "loop.example/g01405/laws.FnExactCutRow", spec := "fnExactCutRow", inPlace := ["internal/reflectlite.ValueOf", "(internal/reflectlite.Value).Type", "(internal/reflectlite.Value).IsNil", "internal/reflectlite.TypeOf", "(internal/reflectlite.Value).Elem", "(internal/reflectlite.Value).Set"], unfollowed := true, recurses := true, named := ["errors.errorType"], apart := false, laid := [("errors.errorType", laid_errors_errorType)] }
def FnExactCutRowSaid : Prop := fnExactCutRowRow.holds Tryd.pinned (OpenSpec.ofChange fnExactCutRowSpec)

/-- ITS FALSE NEIGHBOUR: 'it returns false'. Refute it at one input. -/
def fnExactCutRowWrong : ChangeSpec := { name := "fnExactCutRow", fn := fun _ => fun
  | [d1, d2, d3] => { results := [.lit (.bool false)], args := [d1, d2, d3] }
  | _ => none }
def FnExactCutRowWrongFalsely : Prop := fnExactCutRowRow.holds Tryd.pinned (OpenSpec.ofChange fnExactCutRowWrong)

/-- 'laws.FnExactHoeRow': WHATEVER THE INPUT: true; the input reads as it did. -/
def fnExactHoeRowSpec : ChangeSpec := { name := "fnExactHoeRow", fn := fun _ => fun
  | [d1, d2, d3] => { results := [.lit (.bool true)], args := [d1, d2, d3] }
  | _ => none }
def fnExactHoeRowRow : OpenClaim := { program := "ytoengjabakcpjaadoor", sum := "0e8ddecfa49bf913393b9c71c1cbfbc44ee99e17049bcb7ac3bed3efb9173371", func := "loop.example/g01405/laws.FnExactHoeRow", spec := "fnExactHoeRow", inPlace := ["internal/reflectlite.ValueOf", "(internal/reflectlite.Value).Type", "(internal/reflectlite.Value).IsNil", "internal/reflectlite.TypeOf", "(internal/reflectlite.Value).Elem", "(internal/reflectlite.Value).Set"], unfollowed := true, recurses := true, named := ["errors.errorType"], apart := false, laid := [("errors.errorType", laid_errors_errorType)] }
def FnExactHoeRowSaid : Prop := fnExactHoeRowRow.holds Tryd.pinned (OpenSpec.ofChange fnExactHoeRowSpec)

/-- ITS FALSE NEIGHBOUR: 'it returns false'. Refute it at one input. -/
def fnExactHoeRowWrong : ChangeSpec := { name := "fnExactHoeRow", fn := fun _ => fun
  | [d1, d2, d3] => { results := [.lit (.bool false)], args := [d1, d2, d3] }
  | _ => none }
def FnExactHoeRowWrongFalsely : Prop := fnExactHoeRowRow.holds Tryd.pinned (OpenSpec.ofChange fnExactHoeRowWrong)

/-- 'laws.FnExactBestRow': WHATEVER THE INPUT: true; the input reads as it did. -/
def fnExactBestRowSpec : ChangeSpec := { name := "fnExactBestRow", fn := fun _ => fun
  | [d1, d2, d3] => { results := [.lit (.bool true)], args := [d1, d2, d3] }
  | _ => none }
def fnExactBestRowRow : OpenClaim := { program := "ytoengjabakcpjaadoor", sum := "0e8ddecfa49bf913393b9c71c1cbfbc44ee99e17049bcb7ac3bed3efb9173371", func := "loop.example/g01405/laws.FnExactBestRow", spec := "fnExactBestRow", inPlace := ["internal/reflectlite.ValueOf", "(internal/reflectlite.Value).Type", "(internal/reflectlite.Value).IsNil", "internal/reflectlite.TypeOf", "(internal/reflectlite.Value).Elem", "(internal/reflectlite.Value).Set"], unfollowed := true, recurses := true, named := ["errors.errorType"], apart := false, laid := [("errors.errorType", laid_errors_errorType)] }
def FnExactBestRowSaid : Prop := fnExactBestRowRow.holds Tryd.pinned (OpenSpec.ofChange fnExactBestRowSpec)

/-- ITS FALSE NEIGHBOUR: 'it returns false'. Refute it at one input. -/
def fnExactBestRowWrong : ChangeSpec := { name := "fnExactBestRow", fn := fun _ => fun
  | [d1, d2, d3] => { results := [.lit (.bool false)], args := [d1, d2, d3] }
  | _ => none }
def FnExactBestRowWrongFalsely : Prop := fnExactBestRowRow.holds Tryd.pinned (OpenSpec.ofChange fnExactBestRowWrong)

/-- 'laws.FnExactMayBeFrom': WHATEVER THE INPUT: true; the input reads as it did. -/
def fnExactMayBeFromSpec : ChangeSpec := { name := "fnExactMayBeFrom", fn := fun _ => fun
  | [d1, d2, d3, d4] => { results := [.lit (.bool true)], args := [d1, d2, d3, d4] }
  | _ => none }
def fnExactMayBeFromRow : OpenClaim := { program := "ytoengjabakcpjaadoor", sum := "0e8ddecfa49bf913393b9c71c1cbfbc44ee99e17049bcb7ac3bed3efb9173371", func := "loop.example/g01405/laws.FnExactMayBeFrom", spec := "fnExactMayBeFrom", inPlace := ["internal/reflectlite.ValueOf", "(internal/reflectlite.Value).Type", "(internal/reflectlite.Value).IsNil", "internal/reflectlite.TypeOf", "(internal/reflectlite.Value).Elem", "(internal/reflectlite.Value).Set"], unfollowed := true, recurses := true, named := ["errors.errorType"], apart := false, laid := [("errors.errorType", laid_errors_errorType)] }
def FnExactMayBeFromSaid : Prop := fnExactMayBeFromRow.holds Tryd.pinned (OpenSpec.ofChange fnExactMayBeFromSpec)

/-- ITS FALSE NEIGHBOUR: 'it returns false'. Refute it at one input. -/
def fnExactMayBeFromWrong : ChangeSpec := { name := "fnExactMayBeFrom", fn := fun _ => fun
  | [d1, d2, d3, d4] => { results := [.lit (.bool false)], args := [d1, d2, d3, d4] }
  | _ => none }
def FnExactMayBeFromWrongFalsely : Prop := fnExactMayBeFromRow.holds Tryd.pinned (OpenSpec.ofChange fnExactMayBeFromWrong)

/-- 'laws.FnExactSeedFor': WHATEVER THE INPUT: true; the input reads as it did. -/
def fnExactSeedForSpec : ChangeSpec := { name := "fnExactSeedFor", fn := fun _ => fun
  | [d1, d2, d3] => { results := [.lit (.bool true)], args := [d1, d2, d3] }
  | _ => none }
def fnExactSeedForRow : OpenClaim := { program := "ytoengjabakcpjaadoor", sum := "0e8ddecfa49bf913393b9c71c1cbfbc44ee99e17049bcb7ac3bed3efb9173371", func := "loop.example/g01405/laws.FnExactSeedFor", spec := "fnExactSeedFor", inPlace := ["internal/reflectlite.ValueOf", "(internal/reflectlite.Value).Type", "(internal/reflectlite.Value).IsNil", "internal/reflectlite.TypeOf", "(internal/reflectlite.Value).Elem", "(internal/reflectlite.Value).Set"], unfollowed := true, recurses := true, named := ["errors.errorType"], apart := false, laid := [("errors.errorType", laid_errors_errorType)] }
def FnExactSeedForSaid : Prop := fnExactSeedForRow.holds Tryd.pinned (OpenSpec.ofChange fnExactSeedForSpec)

/-- ITS FALSE NEIGHBOUR: 'it returns false'. Refute it at one input. -/
def fnExactSeedForWrong : ChangeSpec := { name := "fnExactSeedFor", fn := fun _ => fun
  | [d1, d2, d3] => { results := [.lit (.bool false)], args := [d1, d2, d3] }
  | _ => none }
def FnExactSeedForWrongFalsely : Prop := fnExactSeedForRow.holds Tryd.pinned (OpenSpec.ofChange fnExactSeedForWrong)

/-- 'laws.FnExactMirrorWeeds': WHATEVER THE INPUT: true; the input reads as it did. -/
def fnExactMirrorWeedsSpec : ChangeSpec := { name := "fnExactMirrorWeeds", fn := fun _ => fun
  | [d1, d2] => { results := [.lit (.bool true)], args := [d1, d2] }
  | _ => none }
def fnExactMirrorWeedsRow : OpenClaim := { program := "ytoengjabakcpjaadoor", sum := "0e8ddecfa49bf913393b9c71c1cbfbc44ee99e17049bcb7ac3bed3efb9173371", func := "loop.example/g01405/laws.FnExactMirrorWeeds", spec := "fnExactMirrorWeeds", inPlace := ["internal/reflectlite.ValueOf", "(internal/reflectlite.Value).Type", "(internal/reflectlite.Value).IsNil", "internal/reflectlite.TypeOf", "(internal/reflectlite.Value).Elem", "(internal/reflectlite.Value).Set"], unfollowed := true, recurses := true, named := ["errors.errorType"], apart := false, laid := [("errors.errorType", laid_errors_errorType)] }
def FnExactMirrorWeedsSaid : Prop := fnExactMirrorWeedsRow.holds Tryd.pinned (OpenSpec.ofChange fnExactMirrorWeedsSpec)

/-- ITS FALSE NEIGHBOUR: 'it returns false'. Refute it at one input. -/
def fnExactMirrorWeedsWrong : ChangeSpec := { name := "fnExactMirrorWeeds", fn := fun _ => fun
  | [d1, d2] => { results := [.lit (.bool false)], args := [d1, d2] }
  | _ => none }
def FnExactMirrorWeedsWrongFalsely : Prop := fnExactMirrorWeedsRow.holds Tryd.pinned (OpenSpec.ofChange fnExactMirrorWeedsWrong)

/-- 'laws.FnExactSpotsOf': WHATEVER THE INPUT: true; the input reads as it did. -/
def fnExactSpotsOfSpec : ChangeSpec := { name := "fnExactSpotsOf", fn := fun _ => fun
  | [d1, d2] => { results := [.lit (.bool true)], args := [d1, d2] }
  | _ => none }
def fnExactSpotsOfRow : OpenClaim := { program := "ytoengjabakcpjaadoor", sum := "0e8ddecfa49bf913393b9c71c1cbfbc44ee99e17049bcb7ac3bed3efb9173371", func := "loop.example/g01405/laws.FnExactSpotsOf", spec := "fnExactSpotsOf", inPlace := ["internal/reflectlite.ValueOf", "(internal/reflectlite.Value).Type", "(internal/reflectlite.Value).IsNil", "internal/reflectlite.TypeOf", "(internal/reflectlite.Value).Elem", "(internal/reflectlite.Value).Set"], unfollowed := true, recurses := true, named := ["errors.errorType"], apart := false, laid := [("errors.errorType", laid_errors_errorType)] }
def FnExactSpotsOfSaid : Prop := fnExactSpotsOfRow.holds Tryd.pinned (OpenSpec.ofChange fnExactSpotsOfSpec)

/-- ITS FALSE NEIGHBOUR: 'it returns false'. Refute it at one input. -/
def fnExactSpotsOfWrong : ChangeSpec := { name := "fnExactSpotsOf", fn := fun _ => fun
  | [d1, d2] => { results := [.lit (.bool false)], args := [d1, d2] }
  | _ => none }
def FnExactSpotsOfWrongFalsely : Prop := fnExactSpotsOfRow.holds Tryd.pinned (OpenSpec.ofChange fnExactSpotsOfWrong)

/- THE SECOND FORM. 'bulk': how many values and letters a reading holds, each counted each time it is reached (what is shared counts as often as it is met; a slice's spare places count too). A statement '..UptoSaid' is the law's where the arguments, and the package variables that the reading takes, are together of bulk at most 1048576: NARROWER than '..Said'. Prove '..Said' where nothing that the law and all that it calls make is longer than what came in: it says more and counts as full. Else prove '..UptoSaid'. A law counts once. -/
mutual
def uptoBulk {H : Type} : DataW H → Nat
  | .lit (.string bytes) => bytes.length + 1
  | .lit _ => 1
  | .nil => 1
  | .ptr d => uptoBulk d + 1
  | .slice elems spare => uptoBulkAll elems + uptoBulkAll spare + 1
  | .agg parts => uptoBulkAll parts + 1
  | .iface _ d => uptoBulk d + 1
  | .map entries => uptoBulkEntries entries + 1
  | .held _ => 1
def uptoBulkAll {H : Type} : List (DataW H) → Nat
  | [] => 0
  | d :: r => uptoBulk d + uptoBulkAll r
def uptoBulkEntries {H : Type} : List (Lit × DataW H) → Nat
  | [] => 0
  | x :: r => uptoBulkEntry x + uptoBulkEntries r
def uptoBulkEntry {H : Type} : Lit × DataW H → Nat
  | (.string bytes, d) => bytes.length + uptoBulk d + 1
  | (_, d) => uptoBulk d + 1
 end
def uptoSmall : (H : Type) → List (DataW H) → Bool := fun _ ds => decide (uptoBulkAll ds ≤ 1048576)
def OpenSpec.upto (s : _root_.Go.ChangeSpec) : _root_.Go.OpenSpec := { _root_.Go.OpenSpec.ofChange s with cond := some uptoSmall }

/-- 'laws.FnExactCountWeeds', WHERE WHAT IT READS IS OF BULK AT MOST 1048576: true; the input reads as it did. -/
def fnExactCountWeedsUptoRow : OpenClaim := { program := "ytoengjabakcpjaadoor", sum := "0e8ddecfa49bf913393b9c71c1cbfbc44ee99e17049bcb7ac3bed3efb9173371", func := "loop.example/g01405/laws.FnExactCountWeeds", spec := "fnExactCountWeeds", inPlace := ["internal/reflectlite.ValueOf", "(internal/reflectlite.Value).Type", "(internal/reflectlite.Value).IsNil", "internal/reflectlite.TypeOf", "(internal/reflectlite.Value).Elem", "(internal/reflectlite.Value).Set"], unfollowed := true, recurses := true, named := ["errors.errorType"], apart := false, laid := [("errors.errorType", laid_errors_errorType)], narrowed := true }
def FnExactCountWeedsUptoSaid : Prop := fnExactCountWeedsUptoRow.holds Tryd.pinned (OpenSpec.upto fnExactCountWeedsSpec)

/-- 'laws.FnExactSpreadOnce', WHERE WHAT IT READS IS OF BULK AT MOST 1048576: true; the input reads as it did. -/
def fnExactSpreadOnceUptoRow : OpenClaim := { program := "ytoengjabakcpjaadoor", sum := "0e8ddecfa49bf913393b9c71c1cbfbc44ee99e17049bcb7ac3bed3efb9173371", func := "loop.example/g01405/laws.FnExactSpreadOnce", spec := "fnExactSpreadOnce", inPlace := ["internal/reflectlite.ValueOf", "(internal/reflectlite.Value).Type", "(internal/reflectlite.Value).IsNil", "internal/reflectlite.TypeOf", "(internal/reflectlite.Value).Elem", "(internal/reflectlite.Value).Set"], unfollowed := true, recurses := true, named := ["errors.errorType"], apart := false, laid := [("errors.errorType", laid_errors_errorType)], narrowed := true }
def FnExactSpreadOnceUptoSaid : Prop := fnExactSpreadOnceUptoRow.holds Tryd.pinned (OpenSpec.upto fnExactSpreadOnceSpec)

/-- 'laws.FnExactSpreadDays', WHERE WHAT IT READS IS OF BULK AT MOST 1048576: true; the input reads as it did. -/
def fnExactSpreadDaysUptoRow : OpenClaim := { program := "ytoengjabakcpjaadoor", sum := "0e8ddecfa49bf913393b9c71c1cbfbc44ee99e17049bcb7ac3bed3efb9173371", func := "loop.example/g01405/laws.FnExactSpreadDays", spec := "fnExactSpreadDays", inPlace := ["internal/reflectlite.ValueOf", "(internal/reflectlite.Value).Type", "(internal/reflectlite.Value).IsNil", "internal/reflectlite.TypeOf", "(internal/reflectlite.Value).Elem", "(internal/reflectlite.Value).Set"], unfollowed := true, recurses := true, named := ["errors.errorType"], apart := false, laid := [("errors.errorType", laid_errors_errorType)], narrowed := true }
def FnExactSpreadDaysUptoSaid : Prop := fnExactSpreadDaysUptoRow.holds Tryd.pinned (OpenSpec.upto fnExactSpreadDaysSpec)

/-- 'laws.FnExactDaysUntil', WHERE WHAT IT READS IS OF BULK AT MOST 1048576: true; the input reads as it did. -/
def fnExactDaysUntilUptoRow : OpenClaim := { program := "ytoengjabakcpjaadoor", sum := "0e8ddecfa49bf913393b9c71c1cbfbc44ee99e17049bcb7ac3bed3efb9173371", func := "loop.example/g01405/laws.FnExactDaysUntil", spec := "fnExactDaysUntil", inPlace := ["internal/reflectlite.ValueOf", "(internal/reflectlite.Value).Type", "(internal/reflectlite.Value).IsNil", "internal/reflectlite.TypeOf", "(internal/reflectlite.Value).Elem", "(internal/reflectlite.Value).Set"], unfollowed := true, recurses := true, named := ["errors.errorType"], apart := false, laid := [("errors.errorType", laid_errors_errorType)], narrowed := true }
def FnExactDaysUntilUptoSaid : Prop := fnExactDaysUntilUptoRow.holds Tryd.pinned (OpenSpec.upto fnExactDaysUntilSpec)

/-- 'laws.FnExactCutRow', WHERE WHAT IT READS IS OF BULK AT MOST 1048576: true; the input reads as it did. -/
def fnExactCutRowUptoRow : OpenClaim := { program := "ytoengjabakcpjaadoor", sum := "0e8ddecfa49bf913393b9c71c1cbfbc44ee99e17049bcb7ac3bed3efb9173371", func := "loop.example/g01405/laws.FnExactCutRow", spec := "fnExactCutRow", inPlace := ["internal/reflectlite.ValueOf", "(internal/reflectlite.Value).Type", "(internal/reflectlite.Value).IsNil", "internal/reflectlite.TypeOf", "(internal/reflectlite.Value).Elem", "(internal/reflectlite.Value).Set"], unfollowed := true, recurses := true, named := ["errors.errorType"], apart := false, laid := [("errors.errorType", laid_errors_errorType)], narrowed := true }
def FnExactCutRowUptoSaid : Prop := fnExactCutRowUptoRow.holds Tryd.pinned (OpenSpec.upto fnExactCutRowSpec)

/-- 'laws.FnExactHoeRow', WHERE WHAT IT READS IS OF BULK AT MOST 1048576: true; the input reads as it did. -/
def fnExactHoeRowUptoRow : OpenClaim := { program := "ytoengjabakcpjaadoor", sum := "0e8ddecfa49bf913393b9c71c1cbfbc44ee99e17049bcb7ac3bed3efb9173371", func := "loop.example/g01405/laws.FnExactHoeRow", spec := "fnExactHoeRow", inPlace := ["internal/reflectlite.ValueOf", "(internal/reflectlite.Value).Type", "(internal/reflectlite.Value).IsNil", "internal/reflectlite.TypeOf", "(internal/reflectlite.Value).Elem", "(internal/reflectlite.Value).Set"], unfollowed := true, recurses := true, named := ["errors.errorType"], apart := false, laid := [("errors.errorType", laid_errors_errorType)], narrowed := true }
def FnExactHoeRowUptoSaid : Prop := fnExactHoeRowUptoRow.holds Tryd.pinned (OpenSpec.upto fnExactHoeRowSpec)

/-- 'laws.FnExactBestRow', WHERE WHAT IT READS IS OF BULK AT MOST 1048576: true; the input reads as it did. -/
def fnExactBestRowUptoRow : OpenClaim := { program := "ytoengjabakcpjaadoor", sum := "0e8ddecfa49bf913393b9c71c1cbfbc44ee99e17049bcb7ac3bed3efb9173371", func := "loop.example/g01405/laws.FnExactBestRow", spec := "fnExactBestRow", inPlace := ["internal/reflectlite.ValueOf", "(internal/reflectlite.Value).Type", "(internal/reflectlite.Value).IsNil", "internal/reflectlite.TypeOf", "(internal/reflectlite.Value).Elem", "(internal/reflectlite.Value).Set"], unfollowed := true, recurses := true, named := ["errors.errorType"], apart := false, laid := [("errors.errorType", laid_errors_errorType)], narrowed := true }
def FnExactBestRowUptoSaid : Prop := fnExactBestRowUptoRow.holds Tryd.pinned (OpenSpec.upto fnExactBestRowSpec)

/-- 'laws.FnExactMayBeFrom', WHERE WHAT IT READS IS OF BULK AT MOST 1048576: true; the input reads as it did. -/
def fnExactMayBeFromUptoRow : OpenClaim := { program := "ytoengjabakcpjaadoor", sum := "0e8ddecfa49bf913393b9c71c1cbfbc44ee99e17049bcb7ac3bed3efb9173371", func := "loop.example/g01405/laws.FnExactMayBeFrom", spec := "fnExactMayBeFrom", inPlace := ["internal/reflectlite.ValueOf", "(internal/reflectlite.Value).Type", "(internal/reflectlite.Value).IsNil", "internal/reflectlite.TypeOf", "(internal/reflectlite.Value).Elem", "(internal/reflectlite.Value).Set"], unfollowed := true, recurses := true, named := ["errors.errorType"], apart := false, laid := [("errors.errorType", laid_errors_errorType)], narrowed := true }
def FnExactMayBeFromUptoSaid : Prop := fnExactMayBeFromUptoRow.holds Tryd.pinned (OpenSpec.upto fnExactMayBeFromSpec)

/-- 'laws.FnExactSeedFor', WHERE WHAT IT READS IS OF BULK AT MOST 1048576: true; the input reads as it did. -/
def fnExactSeedForUptoRow : OpenClaim := { program := "ytoengjabakcpjaadoor", sum := "0e8ddecfa49bf913393b9c71c1cbfbc44ee99e17049bcb7ac3bed3efb9173371", func := "loop.example/g01405/laws.FnExactSeedFor", spec := "fnExactSeedFor", inPlace := ["internal/reflectlite.ValueOf", "(internal/reflectlite.Value).Type", "(internal/reflectlite.Value).IsNil", "internal/reflectlite.TypeOf", "(internal/reflectlite.Value).Elem", "(internal/reflectlite.Value).Set"], unfollowed := true, recurses := true, named := ["errors.errorType"], apart := false, laid := [("errors.errorType", laid_errors_errorType)], narrowed := true }
def FnExactSeedForUptoSaid : Prop := fnExactSeedForUptoRow.holds Tryd.pinned (OpenSpec.upto fnExactSeedForSpec)

/-- 'laws.FnExactMirrorWeeds', WHERE WHAT IT READS IS OF BULK AT MOST 1048576: true; the input reads as it did. -/
def fnExactMirrorWeedsUptoRow : OpenClaim := { program := "ytoengjabakcpjaadoor", sum := "0e8ddecfa49bf913393b9c71c1cbfbc44ee99e17049bcb7ac3bed3efb9173371", func := "loop.example/g01405/laws.FnExactMirrorWeeds", spec := "fnExactMirrorWeeds", inPlace := ["internal/reflectlite.ValueOf", "(internal/reflectlite.Value).Type", "(internal/reflectlite.Value).IsNil", "internal/reflectlite.TypeOf", "(internal/reflectlite.Value).Elem", "(internal/reflectlite.Value).Set"], unfollowed := true, recurses := true, named := ["errors.errorType"], apart := false, laid := [("errors.errorType", laid_errors_errorType)], narrowed := true }
def FnExactMirrorWeedsUptoSaid : Prop := fnExactMirrorWeedsUptoRow.holds Tryd.pinned (OpenSpec.upto fnExactMirrorWeedsSpec)

/-- 'laws.FnExactSpotsOf', WHERE WHAT IT READS IS OF BULK AT MOST 1048576: true; the input reads as it did. -/
def fnExactSpotsOfUptoRow : OpenClaim := { program := "ytoengjabakcpjaadoor", sum := "0e8ddecfa49bf913393b9c71c1cbfbc44ee99e17049bcb7ac3bed3efb9173371", func := "loop.example/g01405/laws.FnExactSpotsOf", spec := "fnExactSpotsOf", inPlace := ["internal/reflectlite.ValueOf", "(internal/reflectlite.Value).Type", "(internal/reflectlite.Value).IsNil", "internal/reflectlite.TypeOf", "(internal/reflectlite.Value).Elem", "(internal/reflectlite.Value).Set"], unfollowed := true, recurses := true, named := ["errors.errorType"], apart := false, laid := [("errors.errorType", laid_errors_errorType)], narrowed := true }
def FnExactSpotsOfUptoSaid : Prop := fnExactSpotsOfUptoRow.holds Tryd.pinned (OpenSpec.upto fnExactSpotsOfSpec)

end Rows
end Go.Proofs.YtoengjabakcpjaaDoor
