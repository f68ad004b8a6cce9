/-
  No cell of these rows narrows 'for every input' (looked for: loops, veiled, ifaces, maps, wideKeys, modest, calm, conditions, laid).
  DERIVED. THE GIVEN ROWS OF THIS SEAT. 20 by the template 'for every input the law returns true; each argument reads behind the call as it read before'; 0 by the template 'total and deterministic' (their statements: YtgmahakpmjfhhaaRRTotals.lean).
  GIVEN WITH THE SEED: the statements are not yours to turn. If you find one false, say at which input.
  Laid BY PROGRAM, IN A SANDBOX (cutbox-rows.mjs): the forced cells as the released guide's own fill.sh prints them over the translation d5f08659bdb51c75… (all of the seat's roots in one cut). By AI agents, Wed Nov 11 2026. No macro, syntax, notation, axiom, sorry.
-/
import Derived.Test.YtgmahakpmjfhhaaRRChecked
import GoSem.Claim
import GoSem.ClaimJoined
import GoSem.ClaimMapViews
import Derived.JoinedTies
import Derived.KernelRfl
namespace Go.Proofs.YtgmahakpmjfhhaaRR
/- THE CELL 'sum', in the pinned program and in every row, IS THE sha256 OF THE DUMP (.gsa) THAT YtgmahakpmjfhhaaRRProg.lean LOADS. Nothing in Lean hashes anything: it is a label: what it is worth is what the hold of that sum in a sandbox is worth. -/
noncomputable def Try.pinned : Pinned := { name := "ytgmahakpmjfhhaarr", sum := "d5f08659bdb51c75c5d8731be4111f8b38aeab0ae474d3e144724f85f7b80751", checked := Try.checked }
namespace Rows
def none {H : Type} : Left H := { results := [], args := [] }

/-- 'laws.FnRuns': WHATEVER THE INPUT: true; the input reads as it did. -/
def fnRunsSpec : ChangeSpec := { name := "fnRuns", fn := fun _ => fun
  | [d1, d2] => { results := [.lit (.bool true)], args := [d1, d2] }
  | _ => none }
def fnRunsRow : OpenClaim := { program := "ytgmahakpmjfhhaarr", sum := "d5f08659bdb51c75c5d8731be4111f8b38aeab0ae474d3e144724f85f7b80751", func := "loop.example/g01405/laws.FnRuns", spec := "fnRuns", unfollowed := true, recurses := true, plainKeys := false, apart := false }
def FnRunsSaid : Prop := fnRunsRow.holds Try.pinned (OpenSpec.ofChange fnRunsSpec)

/-- ITS FALSE NEIGHBOUR: 'it returns false'. Refute it at one input. -/
def fnRunsWrong : ChangeSpec := { name := "fnRuns", fn := fun _ => fun
  | [d1, d2] => { results := [.lit (.bool false)], args := [d1, d2] }
  | _ => none }
def FnRunsWrongFalsely : Prop := fnRunsRow.holds Try.pinned (OpenSpec.ofChange fnRunsWrong)

/-- 'laws.FnWays': WHATEVER THE INPUT: true; the input reads as it did. -/
def fnWaysSpec : ChangeSpec := { name := "fnWays", fn := fun _ => fun
  | [d1, d2] => { results := [.lit (.bool true)], args := [d1, d2] }
  | _ => none }
def fnWaysRow : OpenClaim := { program := "ytgmahakpmjfhhaarr", sum := "d5f08659bdb51c75c5d8731be4111f8b38aeab0ae474d3e144724f85f7b80751", func := "loop.example/g01405/laws.FnWays", spec := "fnWays", inPlace := ["internal/bytealg.IndexByteString", "internal/bytealg.MakeNoZero"], unfollowed := true, recurses := true, plainKeys := false, apart := false }
def FnWaysSaid : Prop := fnWaysRow.holds Try.pinned (OpenSpec.ofChange fnWaysSpec)

/-- ITS FALSE NEIGHBOUR: 'it returns false'. Refute it at one input. -/
def fnWaysWrong : ChangeSpec := { name := "fnWays", fn := fun _ => fun
  | [d1, d2] => { results := [.lit (.bool false)], args := [d1, d2] }
  | _ => none }
def FnWaysWrongFalsely : Prop := fnWaysRow.holds Try.pinned (OpenSpec.ofChange fnWaysWrong)

/-- 'laws.FnExactPiecesOf': WHATEVER THE INPUT: true; the input reads as it did. -/
def fnExactPiecesOfSpec : ChangeSpec := { name := "fnExactPiecesOf", fn := fun _ => fun
  | [d] => { results := [.lit (.bool true)], args := [d] }
  | _ => none }
def fnExactPiecesOfRow : OpenClaim := { program := "ytgmahakpmjfhhaarr", sum := "d5f08659bdb51c75c5d8731be4111f8b38aeab0ae474d3e144724f85f7b80751", func := "loop.example/g01405/laws.FnExactPiecesOf", spec := "fnExactPiecesOf", unfollowed := true, recurses := true, plainKeys := false, apart := false }
def FnExactPiecesOfSaid : Prop := fnExactPiecesOfRow.holds Try.pinned (OpenSpec.ofChange fnExactPiecesOfSpec)

/-- ITS FALSE NEIGHBOUR: 'it returns false'. Refute it at one input. -/
def fnExactPiecesOfWrong : ChangeSpec := { name := "fnExactPiecesOf", fn := fun _ => fun
  | [d] => { results := [.lit (.bool false)], args := [d] }
  | _ => none }
def FnExactPiecesOfWrongFalsely : Prop := fnExactPiecesOfRow.holds Try.pinned (OpenSpec.ofChange fnExactPiecesOfWrong)

/-- 'laws.FnExactStepsFrom': WHATEVER THE INPUT: true; the input reads as it did. -/
def fnExactStepsFromSpec : ChangeSpec := { name := "fnExactStepsFrom", fn := fun _ => fun
  | [d1, d2] => { results := [.lit (.bool true)], args := [d1, d2] }
  | _ => none }
def fnExactStepsFromRow : OpenClaim := { program := "ytgmahakpmjfhhaarr", sum := "d5f08659bdb51c75c5d8731be4111f8b38aeab0ae474d3e144724f85f7b80751", func := "loop.example/g01405/laws.FnExactStepsFrom", spec := "fnExactStepsFrom", unfollowed := true, recurses := true, plainKeys := false, apart := false }
def FnExactStepsFromSaid : Prop := fnExactStepsFromRow.holds Try.pinned (OpenSpec.ofChange fnExactStepsFromSpec)

/-- ITS FALSE NEIGHBOUR: 'it returns false'. Refute it at one input. -/
def fnExactStepsFromWrong : ChangeSpec := { name := "fnExactStepsFrom", fn := fun _ => fun
  | [d1, d2] => { results := [.lit (.bool false)], args := [d1, d2] }
  | _ => none }
def FnExactStepsFromWrongFalsely : Prop := fnExactStepsFromRow.holds Try.pinned (OpenSpec.ofChange fnExactStepsFromWrong)

/-- 'laws.FnExactStepsTo': WHATEVER THE INPUT: true; the input reads as it did. -/
def fnExactStepsToSpec : ChangeSpec := { name := "fnExactStepsTo", fn := fun _ => fun
  | [d1, d2, d3] => { results := [.lit (.bool true)], args := [d1, d2, d3] }
  | _ => none }
def fnExactStepsToRow : OpenClaim := { program := "ytgmahakpmjfhhaarr", sum := "d5f08659bdb51c75c5d8731be4111f8b38aeab0ae474d3e144724f85f7b80751", func := "loop.example/g01405/laws.FnExactStepsTo", spec := "fnExactStepsTo", unfollowed := true, recurses := true, plainKeys := false, apart := false }
def FnExactStepsToSaid : Prop := fnExactStepsToRow.holds Try.pinned (OpenSpec.ofChange fnExactStepsToSpec)

/-- ITS FALSE NEIGHBOUR: 'it returns false'. Refute it at one input. -/
def fnExactStepsToWrong : ChangeSpec := { name := "fnExactStepsTo", fn := fun _ => fun
  | [d1, d2, d3] => { results := [.lit (.bool false)], args := [d1, d2, d3] }
  | _ => none }
def FnExactStepsToWrongFalsely : Prop := fnExactStepsToRow.holds Try.pinned (OpenSpec.ofChange fnExactStepsToWrong)

/-- 'laws.FnExactLawnText': WHATEVER THE INPUT: true; the input reads as it did. -/
def fnExactLawnTextSpec : ChangeSpec := { name := "fnExactLawnText", fn := fun _ => fun
  | [d] => { results := [.lit (.bool true)], args := [d] }
  | _ => none }
def fnExactLawnTextRow : OpenClaim := { program := "ytgmahakpmjfhhaarr", sum := "d5f08659bdb51c75c5d8731be4111f8b38aeab0ae474d3e144724f85f7b80751", func := "loop.example/g01405/laws.FnExactLawnText", spec := "fnExactLawnText", inPlace := ["internal/abi.NoEscape"], unfollowed := true, recurses := true, plainKeys := false, apart := false }
def FnExactLawnTextSaid : Prop := fnExactLawnTextRow.holds Try.pinned (OpenSpec.ofChange fnExactLawnTextSpec)

/-- ITS FALSE NEIGHBOUR: 'it returns false'. Refute it at one input. -/
def fnExactLawnTextWrong : ChangeSpec := { name := "fnExactLawnText", fn := fun _ => fun
  | [d] => { results := [.lit (.bool false)], args := [d] }
  | _ => none }
def FnExactLawnTextWrongFalsely : Prop := fnExactLawnTextRow.holds Try.pinned (OpenSpec.ofChange fnExactLawnTextWrong)

/-- 'laws.FnExactCheckWay': WHATEVER THE INPUT: true; the input reads as it did. -/
def fnExactCheckWaySpec : ChangeSpec := { name := "fnExactCheckWay", fn := fun _ => fun
  | [d1, d2, d3] => { results := [.lit (.bool true)], args := [d1, d2, d3] }
  | _ => none }
def fnExactCheckWayRow : OpenClaim := { program := "ytgmahakpmjfhhaarr", sum := "d5f08659bdb51c75c5d8731be4111f8b38aeab0ae474d3e144724f85f7b80751", func := "loop.example/g01405/laws.FnExactCheckWay", spec := "fnExactCheckWay", inPlace := ["internal/bytealg.IndexByteString"], unfollowed := true, recurses := true, plainKeys := false, apart := false }
def FnExactCheckWaySaid : Prop := fnExactCheckWayRow.holds Try.pinned (OpenSpec.ofChange fnExactCheckWaySpec)

/-- ITS FALSE NEIGHBOUR: 'it returns false'. Refute it at one input. -/
def fnExactCheckWayWrong : ChangeSpec := { name := "fnExactCheckWay", fn := fun _ => fun
  | [d1, d2, d3] => { results := [.lit (.bool false)], args := [d1, d2, d3] }
  | _ => none }
def FnExactCheckWayWrongFalsely : Prop := fnExactCheckWayRow.holds Try.pinned (OpenSpec.ofChange fnExactCheckWayWrong)

/-- 'laws.FnExactEndOf': WHATEVER THE INPUT: true; the input reads as it did. -/
def fnExactEndOfSpec : ChangeSpec := { name := "fnExactEndOf", fn := fun _ => fun
  | [d1, d2, d3] => { results := [.lit (.bool true)], args := [d1, d2, d3] }
  | _ => none }
def fnExactEndOfRow : OpenClaim := { program := "ytgmahakpmjfhhaarr", sum := "d5f08659bdb51c75c5d8731be4111f8b38aeab0ae474d3e144724f85f7b80751", func := "loop.example/g01405/laws.FnExactEndOf", spec := "fnExactEndOf", inPlace := ["internal/bytealg.IndexByteString"], unfollowed := true, recurses := true, plainKeys := false, apart := false }
def FnExactEndOfSaid : Prop := fnExactEndOfRow.holds Try.pinned (OpenSpec.ofChange fnExactEndOfSpec)

/-- ITS FALSE NEIGHBOUR: 'it returns false'. Refute it at one input. -/
def fnExactEndOfWrong : ChangeSpec := { name := "fnExactEndOf", fn := fun _ => fun
  | [d1, d2, d3] => { results := [.lit (.bool false)], args := [d1, d2, d3] }
  | _ => none }
def FnExactEndOfWrongFalsely : Prop := fnExactEndOfRow.holds Try.pinned (OpenSpec.ofChange fnExactEndOfWrong)

/-- 'laws.FnExactMownBy': WHATEVER THE INPUT: true; the input reads as it did. -/
def fnExactMownBySpec : ChangeSpec := { name := "fnExactMownBy", fn := fun _ => fun
  | [d1, d2, d3] => { results := [.lit (.bool true)], args := [d1, d2, d3] }
  | _ => none }
def fnExactMownByRow : OpenClaim := { program := "ytgmahakpmjfhhaarr", sum := "d5f08659bdb51c75c5d8731be4111f8b38aeab0ae474d3e144724f85f7b80751", func := "loop.example/g01405/laws.FnExactMownBy", spec := "fnExactMownBy", inPlace := ["internal/bytealg.IndexByteString"], unfollowed := true, recurses := true, plainKeys := false, apart := false }
def FnExactMownBySaid : Prop := fnExactMownByRow.holds Try.pinned (OpenSpec.ofChange fnExactMownBySpec)

/-- ITS FALSE NEIGHBOUR: 'it returns false'. Refute it at one input. -/
def fnExactMownByWrong : ChangeSpec := { name := "fnExactMownBy", fn := fun _ => fun
  | [d1, d2, d3] => { results := [.lit (.bool false)], args := [d1, d2, d3] }
  | _ => none }
def FnExactMownByWrongFalsely : Prop := fnExactMownByRow.holds Try.pinned (OpenSpec.ofChange fnExactMownByWrong)

/-- 'laws.FnExactMownTimes': WHATEVER THE INPUT: true; the input reads as it did. -/
def fnExactMownTimesSpec : ChangeSpec := { name := "fnExactMownTimes", fn := fun _ => fun
  | [d1, d2, d3] => { results := [.lit (.bool true)], args := [d1, d2, d3] }
  | _ => none }
def fnExactMownTimesRow : OpenClaim := { program := "ytgmahakpmjfhhaarr", sum := "d5f08659bdb51c75c5d8731be4111f8b38aeab0ae474d3e144724f85f7b80751", func := "loop.example/g01405/laws.FnExactMownTimes", spec := "fnExactMownTimes", inPlace := ["internal/bytealg.IndexByteString"], unfollowed := true, recurses := true, plainKeys := false, apart := false }
def FnExactMownTimesSaid : Prop := fnExactMownTimesRow.holds Try.pinned (OpenSpec.ofChange fnExactMownTimesSpec)

/-- ITS FALSE NEIGHBOUR: 'it returns false'. Refute it at one input. -/
def fnExactMownTimesWrong : ChangeSpec := { name := "fnExactMownTimes", fn := fun _ => fun
  | [d1, d2, d3] => { results := [.lit (.bool false)], args := [d1, d2, d3] }
  | _ => none }
def FnExactMownTimesWrongFalsely : Prop := fnExactMownTimesRow.holds Try.pinned (OpenSpec.ofChange fnExactMownTimesWrong)

/-- 'laws.FnExactLeftBy': WHATEVER THE INPUT: true; the input reads as it did. -/
def fnExactLeftBySpec : ChangeSpec := { name := "fnExactLeftBy", fn := fun _ => fun
  | [d1, d2, d3] => { results := [.lit (.bool true)], args := [d1, d2, d3] }
  | _ => none }
def fnExactLeftByRow : OpenClaim := { program := "ytgmahakpmjfhhaarr", sum := "d5f08659bdb51c75c5d8731be4111f8b38aeab0ae474d3e144724f85f7b80751", func := "loop.example/g01405/laws.FnExactLeftBy", spec := "fnExactLeftBy", inPlace := ["internal/bytealg.IndexByteString"], unfollowed := true, recurses := true, plainKeys := false, apart := false }
def FnExactLeftBySaid : Prop := fnExactLeftByRow.holds Try.pinned (OpenSpec.ofChange fnExactLeftBySpec)

/-- ITS FALSE NEIGHBOUR: 'it returns false'. Refute it at one input. -/
def fnExactLeftByWrong : ChangeSpec := { name := "fnExactLeftBy", fn := fun _ => fun
  | [d1, d2, d3] => { results := [.lit (.bool false)], args := [d1, d2, d3] }
  | _ => none }
def FnExactLeftByWrongFalsely : Prop := fnExactLeftByRow.holds Try.pinned (OpenSpec.ofChange fnExactLeftByWrong)

/-- 'laws.FnExactIsWhole': WHATEVER THE INPUT: true; the input reads as it did. -/
def fnExactIsWholeSpec : ChangeSpec := { name := "fnExactIsWhole", fn := fun _ => fun
  | [d1, d2, d3] => { results := [.lit (.bool true)], args := [d1, d2, d3] }
  | _ => none }
def fnExactIsWholeRow : OpenClaim := { program := "ytgmahakpmjfhhaarr", sum := "d5f08659bdb51c75c5d8731be4111f8b38aeab0ae474d3e144724f85f7b80751", func := "loop.example/g01405/laws.FnExactIsWhole", spec := "fnExactIsWhole", inPlace := ["internal/bytealg.IndexByteString"], unfollowed := true, recurses := true, plainKeys := false, apart := false }
def FnExactIsWholeSaid : Prop := fnExactIsWholeRow.holds Try.pinned (OpenSpec.ofChange fnExactIsWholeSpec)

/-- ITS FALSE NEIGHBOUR: 'it returns false'. Refute it at one input. -/
def fnExactIsWholeWrong : ChangeSpec := { name := "fnExactIsWhole", fn := fun _ => fun
  | [d1, d2, d3] => { results := [.lit (.bool false)], args := [d1, d2, d3] }
  | _ => none }
def FnExactIsWholeWrongFalsely : Prop := fnExactIsWholeRow.holds Try.pinned (OpenSpec.ofChange fnExactIsWholeWrong)

/-- 'laws.FnExactTurnsOf': WHATEVER THE INPUT: true; the input reads as it did. -/
def fnExactTurnsOfSpec : ChangeSpec := { name := "fnExactTurnsOf", fn := fun _ => fun
  | [d] => { results := [.lit (.bool true)], args := [d] }
  | _ => none }
def fnExactTurnsOfRow : OpenClaim := { program := "ytgmahakpmjfhhaarr", sum := "d5f08659bdb51c75c5d8731be4111f8b38aeab0ae474d3e144724f85f7b80751", func := "loop.example/g01405/laws.FnExactTurnsOf", spec := "fnExactTurnsOf", inPlace := ["internal/bytealg.IndexByteString"], unfollowed := true, recurses := true, plainKeys := false, apart := false }
def FnExactTurnsOfSaid : Prop := fnExactTurnsOfRow.holds Try.pinned (OpenSpec.ofChange fnExactTurnsOfSpec)

/-- ITS FALSE NEIGHBOUR: 'it returns false'. Refute it at one input. -/
def fnExactTurnsOfWrong : ChangeSpec := { name := "fnExactTurnsOf", fn := fun _ => fun
  | [d] => { results := [.lit (.bool false)], args := [d] }
  | _ => none }
def FnExactTurnsOfWrongFalsely : Prop := fnExactTurnsOfRow.holds Try.pinned (OpenSpec.ofChange fnExactTurnsOfWrong)

/-- 'laws.FnExactFirstWhole': WHATEVER THE INPUT: true; the input reads as it did. -/
def fnExactFirstWholeSpec : ChangeSpec := { name := "fnExactFirstWhole", fn := fun _ => fun
  | [d1, d2, d3] => { results := [.lit (.bool true)], args := [d1, d2, d3] }
  | _ => none }
def fnExactFirstWholeRow : OpenClaim := { program := "ytgmahakpmjfhhaarr", sum := "d5f08659bdb51c75c5d8731be4111f8b38aeab0ae474d3e144724f85f7b80751", func := "loop.example/g01405/laws.FnExactFirstWhole", spec := "fnExactFirstWhole", inPlace := ["internal/bytealg.IndexByteString"], unfollowed := true, recurses := true, plainKeys := false, apart := false }
def FnExactFirstWholeSaid : Prop := fnExactFirstWholeRow.holds Try.pinned (OpenSpec.ofChange fnExactFirstWholeSpec)

/-- ITS FALSE NEIGHBOUR: 'it returns false'. Refute it at one input. -/
def fnExactFirstWholeWrong : ChangeSpec := { name := "fnExactFirstWhole", fn := fun _ => fun
  | [d1, d2, d3] => { results := [.lit (.bool false)], args := [d1, d2, d3] }
  | _ => none }
def FnExactFirstWholeWrongFalsely : Prop := fnExactFirstWholeRow.holds Try.pinned (OpenSpec.ofChange fnExactFirstWholeWrong)

/-- 'laws.FnExactBackAndForth': WHATEVER THE INPUT: true; the input reads as it did. -/
def fnExactBackAndForthSpec : ChangeSpec := { name := "fnExactBackAndForth", fn := fun _ => fun
  | [d] => { results := [.lit (.bool true)], args := [d] }
  | _ => none }
def fnExactBackAndForthRow : OpenClaim := { program := "ytgmahakpmjfhhaarr", sum := "d5f08659bdb51c75c5d8731be4111f8b38aeab0ae474d3e144724f85f7b80751", func := "loop.example/g01405/laws.FnExactBackAndForth", spec := "fnExactBackAndForth", inPlace := ["internal/abi.NoEscape", "internal/bytealg.MakeNoZero"], unfollowed := true, recurses := true, plainKeys := false, apart := false }
def FnExactBackAndForthSaid : Prop := fnExactBackAndForthRow.holds Try.pinned (OpenSpec.ofChange fnExactBackAndForthSpec)

/-- ITS FALSE NEIGHBOUR: 'it returns false'. Refute it at one input. -/
def fnExactBackAndForthWrong : ChangeSpec := { name := "fnExactBackAndForth", fn := fun _ => fun
  | [d] => { results := [.lit (.bool false)], args := [d] }
  | _ => none }
def FnExactBackAndForthWrongFalsely : Prop := fnExactBackAndForthRow.holds Try.pinned (OpenSpec.ofChange fnExactBackAndForthWrong)

/-- 'laws.FnExactShortestWhole': WHATEVER THE INPUT: true; the input reads as it did. -/
def fnExactShortestWholeSpec : ChangeSpec := { name := "fnExactShortestWhole", fn := fun _ => fun
  | [d1, d2] => { results := [.lit (.bool true)], args := [d1, d2] }
  | _ => none }
def fnExactShortestWholeRow : OpenClaim := { program := "ytgmahakpmjfhhaarr", sum := "d5f08659bdb51c75c5d8731be4111f8b38aeab0ae474d3e144724f85f7b80751", func := "loop.example/g01405/laws.FnExactShortestWhole", spec := "fnExactShortestWhole", unfollowed := true, recurses := true, plainKeys := false, apart := false }
def FnExactShortestWholeSaid : Prop := fnExactShortestWholeRow.holds Try.pinned (OpenSpec.ofChange fnExactShortestWholeSpec)

/-- ITS FALSE NEIGHBOUR: 'it returns false'. Refute it at one input. -/
def fnExactShortestWholeWrong : ChangeSpec := { name := "fnExactShortestWhole", fn := fun _ => fun
  | [d1, d2] => { results := [.lit (.bool false)], args := [d1, d2] }
  | _ => none }
def FnExactShortestWholeWrongFalsely : Prop := fnExactShortestWholeRow.holds Try.pinned (OpenSpec.ofChange fnExactShortestWholeWrong)

/-- 'laws.FnExactHomeFrom': WHATEVER THE INPUT: true; the input reads as it did. -/
def fnExactHomeFromSpec : ChangeSpec := { name := "fnExactHomeFrom", fn := fun _ => fun
  | [d1, d2, d3] => { results := [.lit (.bool true)], args := [d1, d2, d3] }
  | _ => none }
def fnExactHomeFromRow : OpenClaim := { program := "ytgmahakpmjfhhaarr", sum := "d5f08659bdb51c75c5d8731be4111f8b38aeab0ae474d3e144724f85f7b80751", func := "loop.example/g01405/laws.FnExactHomeFrom", spec := "fnExactHomeFrom", unfollowed := true, recurses := true, plainKeys := false, apart := false }
def FnExactHomeFromSaid : Prop := fnExactHomeFromRow.holds Try.pinned (OpenSpec.ofChange fnExactHomeFromSpec)

/-- ITS FALSE NEIGHBOUR: 'it returns false'. Refute it at one input. -/
def fnExactHomeFromWrong : ChangeSpec := { name := "fnExactHomeFrom", fn := fun _ => fun
  | [d1, d2, d3] => { results := [.lit (.bool false)], args := [d1, d2, d3] }
  | _ => none }
def FnExactHomeFromWrongFalsely : Prop := fnExactHomeFromRow.holds Try.pinned (OpenSpec.ofChange fnExactHomeFromWrong)

/-- 'laws.FnExactReverseWay': WHATEVER THE INPUT: true; the input reads as it did. -/
def fnExactReverseWaySpec : ChangeSpec := { name := "fnExactReverseWay", fn := fun _ => fun
  | [d] => { results := [.lit (.bool true)], args := [d] }
  | _ => none }
def fnExactReverseWayRow : OpenClaim := { program := "ytgmahakpmjfhhaarr", sum := "d5f08659bdb51c75c5d8731be4111f8b38aeab0ae474d3e144724f85f7b80751", func := "loop.example/g01405/laws.FnExactReverseWay", spec := "fnExactReverseWay", inPlace := ["internal/bytealg.IndexByteString"], unfollowed := true, recurses := true, plainKeys := false, apart := false }
def FnExactReverseWaySaid : Prop := fnExactReverseWayRow.holds Try.pinned (OpenSpec.ofChange fnExactReverseWaySpec)

/-- ITS FALSE NEIGHBOUR: 'it returns false'. Refute it at one input. -/
def fnExactReverseWayWrong : ChangeSpec := { name := "fnExactReverseWay", fn := fun _ => fun
  | [d] => { results := [.lit (.bool false)], args := [d] }
  | _ => none }
def FnExactReverseWayWrongFalsely : Prop := fnExactReverseWayRow.holds Try.pinned (OpenSpec.ofChange fnExactReverseWayWrong)

/-- 'laws.FnExactLooseWay': WHATEVER THE INPUT: true; the input reads as it did. -/
def fnExactLooseWaySpec : ChangeSpec := { name := "fnExactLooseWay", fn := fun _ => fun
  | [d] => { results := [.lit (.bool true)], args := [d] }
  | _ => none }
def fnExactLooseWayRow : OpenClaim := { program := "ytgmahakpmjfhhaarr", sum := "d5f08659bdb51c75c5d8731be4111f8b38aeab0ae474d3e144724f85f7b80751", func := "loop.example/g01405/laws.FnExactLooseWay", spec := "fnExactLooseWay", inPlace := ["internal/bytealg.IndexByteString"], unfollowed := true, recurses := true, plainKeys := false, apart := false }
def FnExactLooseWaySaid : Prop := fnExactLooseWayRow.holds Try.pinned (OpenSpec.ofChange fnExactLooseWaySpec)

/-- ITS FALSE NEIGHBOUR: 'it returns false'. Refute it at one input. -/
def fnExactLooseWayWrong : ChangeSpec := { name := "fnExactLooseWay", fn := fun _ => fun
  | [d] => { results := [.lit (.bool false)], args := [d] }
  | _ => none }
def FnExactLooseWayWrongFalsely : Prop := fnExactLooseWayRow.holds Try.pinned (OpenSpec.ofChange fnExactLooseWayWrong)

/-- 'laws.FnExactStripesBy': WHATEVER THE INPUT: true; the input reads as it did. -/
def fnExactStripesBySpec : ChangeSpec := { name := "fnExactStripesBy", fn := fun _ => fun
  | [d1, d2, d3] => { results := [.lit (.bool true)], args := [d1, d2, d3] }
  | _ => none }
def fnExactStripesByRow : OpenClaim := { program := "ytgmahakpmjfhhaarr", sum := "d5f08659bdb51c75c5d8731be4111f8b38aeab0ae474d3e144724f85f7b80751", func := "loop.example/g01405/laws.FnExactStripesBy", spec := "fnExactStripesBy", inPlace := ["internal/bytealg.IndexByteString", "internal/bytealg.MakeNoZero"], unfollowed := true, recurses := true, plainKeys := false, apart := false }
def FnExactStripesBySaid : Prop := fnExactStripesByRow.holds Try.pinned (OpenSpec.ofChange fnExactStripesBySpec)

/-- ITS FALSE NEIGHBOUR: 'it returns false'. Refute it at one input. -/
def fnExactStripesByWrong : ChangeSpec := { name := "fnExactStripesBy", fn := fun _ => fun
  | [d1, d2, d3] => { results := [.lit (.bool false)], args := [d1, d2, d3] }
  | _ => none }
def FnExactStripesByWrongFalsely : Prop := fnExactStripesByRow.holds Try.pinned (OpenSpec.ofChange fnExactStripesByWrong)

/- THE SECOND FORM. 'bulk': how many values and letters a reading holds, each counted each time it is reached (what is shared counts as often as it is met; a slice's spare places count too). A statement '..UptoSaid' is the law's where the arguments, and the package variables that the reading takes, are together of bulk at most 1048576: NARROWER than '..Said'. Prove '..Said' where nothing that the law and all that it calls make is longer than what came in: it says more and counts as full. Else prove '..UptoSaid'. A law counts once. -/
mutual
def uptoBulk {H : Type} : DataW H → Nat
  | .lit (.string bytes) => bytes.length + 1
  | .lit _ => 1
  | .nil => 1
  | .ptr d => uptoBulk d + 1
  | .slice elems spare => uptoBulkAll elems + uptoBulkAll spare + 1
  | .agg parts => uptoBulkAll parts + 1
  | .iface _ d => uptoBulk d + 1
  | .map entries => uptoBulkEntries entries + 1
  | .held _ => 1
def uptoBulkAll {H : Type} : List (DataW H) → Nat
  | [] => 0
  | d :: r => uptoBulk d + uptoBulkAll r
def uptoBulkEntries {H : Type} : List (Lit × DataW H) → Nat
  | [] => 0
  | x :: r => uptoBulkEntry x + uptoBulkEntries r
def uptoBulkEntry {H : Type} : Lit × DataW H → Nat
  | (.string bytes, d) => bytes.length + uptoBulk d + 1
  | (_, d) => uptoBulk d + 1
 end
def uptoSmall : (H : Type) → List (DataW H) → Bool := fun _ ds => decide (uptoBulkAll ds ≤ 1048576)
def OpenSpec.upto (s : _root_.Go.ChangeSpec) : _root_.Go.OpenSpec := { _root_.Go.OpenSpec.ofChange s with cond := some uptoSmall }

/-- 'laws.FnRuns', WHERE WHAT IT READS IS OF BULK AT MOST 1048576: true; the input reads as it did. -/
def fnRunsUptoRow : OpenClaim := { program := "ytgmahakpmjfhhaarr", sum := "d5f08659bdb51c75c5d8731be4111f8b38aeab0ae474d3e144724f85f7b80751", func := "loop.example/g01405/laws.FnRuns", spec := "fnRuns", unfollowed := true, recurses := true, plainKeys := false, apart := false, narrowed := true }
def FnRunsUptoSaid : Prop := fnRunsUptoRow.holds Try.pinned (OpenSpec.upto fnRunsSpec)

/-- 'laws.FnWays', WHERE WHAT IT READS IS OF BULK AT MOST 1048576: true; the input reads as it did. -/
def fnWaysUptoRow : OpenClaim := { program := "ytgmahakpmjfhhaarr", sum := "d5f08659bdb51c75c5d8731be4111f8b38aeab0ae474d3e144724f85f7b80751", func := "loop.example/g01405/laws.FnWays", spec := "fnWays", inPlace := ["internal/bytealg.IndexByteString", "internal/bytealg.MakeNoZero"], unfollowed := true, recurses := true, plainKeys := false, apart := false, narrowed := true }
def FnWaysUptoSaid : Prop := fnWaysUptoRow.holds Try.pinned (OpenSpec.upto fnWaysSpec)

/-- 'laws.FnExactPiecesOf', WHERE WHAT IT READS IS OF BULK AT MOST 1048576: true; the input reads as it did. -/
def fnExactPiecesOfUptoRow : OpenClaim := { program := "ytgmahakpmjfhhaarr", sum := "d5f08659bdb51c75c5d8731be4111f8b38aeab0ae474d3e144724f85f7b80751", func := "loop.example/g01405/laws.FnExactPiecesOf", spec := "fnExactPiecesOf", unfollowed := true, recurses := true, plainKeys := false, apart := false, narrowed := true }
def FnExactPiecesOfUptoSaid : Prop := fnExactPiecesOfUptoRow.holds Try.pinned (OpenSpec.upto fnExactPiecesOfSpec)

/-- 'laws.FnExactStepsFrom', WHERE WHAT IT READS IS OF BULK AT MOST 1048576: true; the input reads as it did. -/
def fnExactStepsFromUptoRow : OpenClaim := { program := "ytgmahakpmjfhhaarr", sum := "d5f08659bdb51c75c5d8731be4111f8b38aeab0ae474d3e144724f85f7b80751", func := "loop.example/g01405/laws.FnExactStepsFrom", spec := "fnExactStepsFrom", unfollowed := true, recurses := true, plainKeys := false, apart := false, narrowed := true }
def FnExactStepsFromUptoSaid : Prop := fnExactStepsFromUptoRow.holds Try.pinned (OpenSpec.upto fnExactStepsFromSpec)

/-- 'laws.FnExactStepsTo', WHERE WHAT IT READS IS OF BULK AT MOST 1048576: true; the input reads as it did. -/
def fnExactStepsToUptoRow : OpenClaim := { program := "ytgmahakpmjfhhaarr", sum := "d5f08659bdb51c75c5d8731be4111f8b38aeab0ae474d3e144724f85f7b80751", func := "loop.example/g01405/laws.FnExactStepsTo", spec := "fnExactStepsTo", unfollowed := true, recurses := true, plainKeys := false, apart := false, narrowed := true }
def FnExactStepsToUptoSaid : Prop := fnExactStepsToUptoRow.holds Try.pinned (OpenSpec.upto fnExactStepsToSpec)

/-- 'laws.FnExactLawnText', WHERE WHAT IT READS IS OF BULK AT MOST 1048576: true; the input reads as it did. -/
def fnExactLawnTextUptoRow : OpenClaim := { program := "ytgmahakpmjfhhaarr", sum := "d5f08659bdb51c75c5d8731be4111f8b38aeab0ae474d3e144724f85f7b80751", func := "loop.example/g01405/laws.FnExactLawnText", spec := "fnExactLawnText", inPlace := ["internal/abi.NoEscape"], unfollowed := true, recurses := true, plainKeys := false, apart := false, narrowed := true }
def FnExactLawnTextUptoSaid : Prop := fnExactLawnTextUptoRow.holds Try.pinned (OpenSpec.upto fnExactLawnTextSpec)

/-- 'laws.FnExactCheckWay', WHERE WHAT IT READS IS OF BULK AT MOST 1048576: true; the input reads as it did. -/
def fnExactCheckWayUptoRow : OpenClaim := { program := "ytgmahakpmjfhhaarr", sum := "d5f08659bdb51c75c5d8731be4111f8b38aeab0ae474d3e144724f85f7b80751", func := "loop.example/g01405/laws.FnExactCheckWay", spec := "fnExactCheckWay", inPlace := ["internal/bytealg.IndexByteString"], unfollowed := true, recurses := true, plainKeys := false, apart := false, narrowed := true }
def FnExactCheckWayUptoSaid : Prop := fnExactCheckWayUptoRow.holds Try.pinned (OpenSpec.upto fnExactCheckWaySpec)

/-- 'laws.FnExactEndOf', WHERE WHAT IT READS IS OF BULK AT MOST 1048576: true; the input reads as it did. -/
def fnExactEndOfUptoRow : OpenClaim := { program := "ytgmahakpmjfhhaarr", sum := "d5f08659bdb51c75c5d8731be4111f8b38aeab0ae474d3e144724f85f7b80751", func := "loop.example/g01405/laws.FnExactEndOf", spec := "fnExactEndOf", inPlace := ["internal/bytealg.IndexByteString"], unfollowed := true, recurses := true, plainKeys := false, apart := false, narrowed := true }
def FnExactEndOfUptoSaid : Prop := fnExactEndOfUptoRow.holds Try.pinned (OpenSpec.upto fnExactEndOfSpec)

/-- 'laws.FnExactMownBy', WHERE WHAT IT READS IS OF BULK AT MOST 1048576: true; the input reads as it did. -/
def fnExactMownByUptoRow : OpenClaim := { program := "ytgmahakpmjfhhaarr", sum := "d5f08659bdb51c75c5d8731be4111f8b38aeab0ae474d3e144724f85f7b80751", func := "loop.example/g01405/laws.FnExactMownBy", spec := "fnExactMownBy", inPlace := ["internal/bytealg.IndexByteString"], unfollowed := true, recurses := true, plainKeys := false, apart := false, narrowed := true }
def FnExactMownByUptoSaid : Prop := fnExactMownByUptoRow.holds Try.pinned (OpenSpec.upto fnExactMownBySpec)

/-- 'laws.FnExactMownTimes', WHERE WHAT IT READS IS OF BULK AT MOST 1048576: true; the input reads as it did. -/
def fnExactMownTimesUptoRow : OpenClaim := { program := "ytgmahakpmjfhhaarr", sum := "d5f08659bdb51c75c5d8731be4111f8b38aeab0ae474d3e144724f85f7b80751", func := "loop.example/g01405/laws.FnExactMownTimes", spec := "fnExactMownTimes", inPlace := ["internal/bytealg.IndexByteString"], unfollowed := true, recurses := true, plainKeys := false, apart := false, narrowed := true }
def FnExactMownTimesUptoSaid : Prop := fnExactMownTimesUptoRow.holds Try.pinned (OpenSpec.upto fnExactMownTimesSpec)

/-- 'laws.FnExactLeftBy', WHERE WHAT IT READS IS OF BULK AT MOST 1048576: true; the input reads as it did. -/
def fnExactLeftByUptoRow : OpenClaim := { program := "ytgmahakpmjfhhaarr", sum := "d5f08659bdb51c75c5d8731be4111f8b38aeab0ae474d3e144724f85f7b80751", func := "loop.example/g01405/laws.FnExactLeftBy", spec := "fnExactLeftBy", inPlace := ["internal/bytealg.IndexByteString"], unfollowed := true, recurses := true, plainKeys := false, apart := false, narrowed := true }
def FnExactLeftByUptoSaid : Prop := fnExactLeftByUptoRow.holds Try.pinned (OpenSpec.upto fnExactLeftBySpec)

/-- 'laws.FnExactIsWhole', WHERE WHAT IT READS IS OF BULK AT MOST 1048576: true; the input reads as it did. -/
def fnExactIsWholeUptoRow : OpenClaim := { program := "ytgmahakpmjfhhaarr", sum := "d5f08659bdb51c75c5d8731be4111f8b38aeab0ae474d3e144724f85f7b80751", func := "loop.example/g01405/laws.FnExactIsWhole", spec := "fnExactIsWhole", inPlace := ["internal/bytealg.IndexByteString"], unfollowed := true, recurses := true, plainKeys := false, apart := false, narrowed := true }
def FnExactIsWholeUptoSaid : Prop := fnExactIsWholeUptoRow.holds Try.pinned (OpenSpec.upto fnExactIsWholeSpec)

/-- 'laws.FnExactTurnsOf', WHERE WHAT IT READS IS OF BULK AT MOST 1048576: true; the input reads as it did. -/
def fnExactTurnsOfUptoRow : OpenClaim := { program := "ytgmahakpmjfhhaarr", sum := "d5f08659bdb51c75c5d8731be4111f8b38aeab0ae474d3e144724f85f7b80751", func := "loop.example/g01405/laws.FnExactTurnsOf", spec := "fnExactTurnsOf", inPlace := ["internal/bytealg.IndexByteString"], unfollowed := true, recurses := true, plainKeys := false, apart := false, narrowed := true }
def FnExactTurnsOfUptoSaid : Prop := fnExactTurnsOfUptoRow.holds Try.pinned (OpenSpec.upto fnExactTurnsOfSpec)

/-- 'laws.FnExactFirstWhole', WHERE WHAT IT READS IS OF BULK AT MOST 1048576: true; the input reads as it did. -/
def fnExactFirstWholeUptoRow : OpenClaim := { program := "ytgmahakpmjfhhaarr", sum := "d5f08659bdb51c75c5d8731be4111f8b38aeab0ae474d3e144724f85f7b80751", func := "loop.example/g01405/laws.FnExactFirstWhole", spec := "fnExactFirstWhole", inPlace := ["internal/bytealg.IndexByteString"], unfollowed := true, recurses := true, plainKeys := false, apart := false, narrowed := true }
def FnExactFirstWholeUptoSaid : Prop := fnExactFirstWholeUptoRow.holds Try.pinned (OpenSpec.upto fnExactFirstWholeSpec)

/-- 'laws.FnExactBackAndForth', WHERE WHAT IT READS IS OF BULK AT MOST 1048576: true; the input reads as it did. -/
def fnExactBackAndForthUptoRow : OpenClaim := { program := "ytgmahakpmjfhhaarr", sum := "d5f08659bdb51c75c5d8731be4111f8b38aeab0ae474d3e144724f85f7b80751", func := "loop.example/g01405/laws.FnExactBackAndForth", spec := "fnExactBackAndForth", inPlace := ["internal/abi.NoEscape", "internal/bytealg.MakeNoZero"], unfollowed := true, recurses := true, plainKeys := false, apart := false, narrowed := true }
def FnExactBackAndForthUptoSaid : Prop := fnExactBackAndForthUptoRow.holds Try.pinned (OpenSpec.upto fnExactBackAndForthSpec)

/-- 'laws.FnExactShortestWhole', WHERE WHAT IT READS IS OF BULK AT MOST 1048576: true; the input reads as it did. -/
def fnExactShortestWholeUptoRow : OpenClaim := { program := "ytgmahakpmjfhhaarr", sum := "d5f08659bdb51c75c5d8731be4111f8b38aeab0ae474d3e144724f85f7b80751", func := "loop.example/g01405/laws.FnExactShortestWhole", spec := "fnExactShortestWhole", unfollowed := true, recurses := true, plainKeys := false, apart := false, narrowed := true }
def FnExactShortestWholeUptoSaid : Prop := fnExactShortestWholeUptoRow.holds Try.pinned (OpenSpec.upto fnExactShortestWholeSpec)

/-- 'laws.FnExactHomeFrom', WHERE WHAT IT READS IS OF BULK AT MOST 1048576: true; the input reads as it did. -/
def fnExactHomeFromUptoRow : OpenClaim := { program := "ytgmahakpmjfhhaarr", sum := "d5f08659bdb51c75c5d8731be4111f8b38aeab0ae474d3e144724f85f7b80751", func := "loop.example/g01405/laws.FnExactHomeFrom", spec := "fnExactHomeFrom", unfollowed := true, recurses := true, plainKeys := false, apart := false, narrowed := true }
def FnExactHomeFromUptoSaid : Prop := fnExactHomeFromUptoRow.holds Try.pinned (OpenSpec.upto fnExactHomeFromSpec)

/-- 'laws.FnExactReverseWay', WHERE WHAT IT READS IS OF BULK AT MOST 1048576: true; the input reads as it did. -/
def fnExactReverseWayUptoRow : OpenClaim := { program := "ytgmahakpmjfhhaarr", sum := "d5f08659bdb51c75c5d8731be4111f8b38aeab0ae474d3e144724f85f7b80751", func := "loop.example/g01405/laws.FnExactReverseWay", spec := "fnExactReverseWay", inPlace := ["internal/bytealg.IndexByteString"], unfollowed := true, recurses := true, plainKeys := false, apart := false, narrowed := true }
def FnExactReverseWayUptoSaid : Prop := fnExactReverseWayUptoRow.holds Try.pinned (OpenSpec.upto fnExactReverseWaySpec)

/-- 'laws.FnExactLooseWay', WHERE WHAT IT READS IS OF BULK AT MOST 1048576: true; the input reads as it did. -/
def fnExactLooseWayUptoRow : OpenClaim := { program := "ytgmahakpmjfhhaarr", sum := "d5f08659bdb51c75c5d8731be4111f8b38aeab0ae474d3e144724f85f7b80751", func := "loop.example/g01405/laws.FnExactLooseWay", spec := "fnExactLooseWay", inPlace := ["internal/bytealg.IndexByteString"], unfollowed := true, recurses := true, plainKeys := false, apart := false, narrowed := true }
def FnExactLooseWayUptoSaid : Prop := fnExactLooseWayUptoRow.holds Try.pinned (OpenSpec.upto fnExactLooseWaySpec)

/-- 'laws.FnExactStripesBy', WHERE WHAT IT READS IS OF BULK AT MOST 1048576: true; the input reads as it did. -/
def fnExactStripesByUptoRow : OpenClaim := { program := "ytgmahakpmjfhhaarr", sum := "d5f08659bdb51c75c5d8731be4111f8b38aeab0ae474d3e144724f85f7b80751", func := "loop.example/g01405/laws.FnExactStripesBy", spec := "fnExactStripesBy", inPlace := ["internal/bytealg.IndexByteString", "internal/bytealg.MakeNoZero"], unfollowed := true, recurses := true, plainKeys := false, apart := false, narrowed := true }
def FnExactStripesByUptoSaid : Prop := fnExactStripesByUptoRow.holds Try.pinned (OpenSpec.upto fnExactStripesBySpec)

end Rows
end Go.Proofs.YtgmahakpmjfhhaaRR
