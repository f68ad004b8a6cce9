/-
  No cell of these rows narrows 'for every input' (looked for: loops, veiled, ifaces, maps, wideKeys, modest, calm, conditions, laid).
  DERIVED. THE GIVEN ROWS OF THIS SEAT. 13 by the template 'for every input the law returns true; each argument reads behind the call as it read before'; 0 by the template 'total and deterministic' (their statements: YtcgkbdbgocoilaaTotals.lean).
  GIVEN WITH THE SEED: the statements are not yours to turn. If you find one false, say at which input.
  Laid BY PROGRAM, IN A SANDBOX (cutbox-rows.mjs): the forced cells as the released guide's own fill.sh prints them over the translation c1aa676b5ae4b3ba… (all of the seat's roots in one cut). By AI agents, Wed Nov 11 2026. No macro, syntax, notation, axiom, sorry.
-/
import Derived.Test.YtcgkbdbgocoilaaChecked
import GoSem.Claim
import GoSem.ClaimJoined
import GoSem.ClaimMapViews
import Derived.JoinedTies
import Derived.KernelRfl
namespace Go.Proofs.Ytcgkbdbgocoilaa
/- THE CELL 'sum', in the pinned program and in every row, IS THE sha256 OF THE DUMP (.gsa) THAT YtcgkbdbgocoilaaProg.lean LOADS. Nothing in Lean hashes anything: it is a label: what it is worth is what the hold of that sum in a sandbox is worth. -/
noncomputable def Try.pinned : Pinned := { name := "ytcgkbdbgocoilaa", sum := "c1aa676b5ae4b3bacea1fe39725760da498e49f258fae30c4fbb388626029c20", checked := Try.checked }
namespace Rows
def none {H : Type} : Left H := { results := [], args := [] }

/-- 'laws.FnExactCellsOf': WHATEVER THE INPUT: true; the input reads as it did. -/
def fnExactCellsOfSpec : ChangeSpec := { name := "fnExactCellsOf", fn := fun _ => fun
  | [d1, d2] => { results := [.lit (.bool true)], args := [d1, d2] }
  | _ => none }
def fnExactCellsOfRow : OpenClaim := { program := "ytcgkbdbgocoilaa", sum := "c1aa676b5ae4b3bacea1fe39725760da498e49f258fae30c4fbb388626029c20", func := "loop.example/g01405/laws.FnExactCellsOf", spec := "fnExactCellsOf", unfollowed := true, recurses := true, plainKeys := false, apart := false }
def FnExactCellsOfSaid : Prop := fnExactCellsOfRow.holds Try.pinned (OpenSpec.ofChange fnExactCellsOfSpec)

/-- ITS FALSE NEIGHBOUR: 'it returns false'. Refute it at one input. -/
def fnExactCellsOfWrong : ChangeSpec := { name := "fnExactCellsOf", fn := fun _ => fun
  | [d1, d2] => { results := [.lit (.bool false)], args := [d1, d2] }
  | _ => none }
def FnExactCellsOfWrongFalsely : Prop := fnExactCellsOfRow.holds Try.pinned (OpenSpec.ofChange fnExactCellsOfWrong)

/-- 'laws.FnExactPiecesOf': WHATEVER THE INPUT: true; the input reads as it did. -/
def fnExactPiecesOfSpec : ChangeSpec := { name := "fnExactPiecesOf", fn := fun _ => fun
  | [d] => { results := [.lit (.bool true)], args := [d] }
  | _ => none }
def fnExactPiecesOfRow : OpenClaim := { program := "ytcgkbdbgocoilaa", sum := "c1aa676b5ae4b3bacea1fe39725760da498e49f258fae30c4fbb388626029c20", func := "loop.example/g01405/laws.FnExactPiecesOf", spec := "fnExactPiecesOf", unfollowed := true, recurses := true, plainKeys := false, apart := false }
def FnExactPiecesOfSaid : Prop := fnExactPiecesOfRow.holds Try.pinned (OpenSpec.ofChange fnExactPiecesOfSpec)

/-- ITS FALSE NEIGHBOUR: 'it returns false'. Refute it at one input. -/
def fnExactPiecesOfWrong : ChangeSpec := { name := "fnExactPiecesOf", fn := fun _ => fun
  | [d] => { results := [.lit (.bool false)], args := [d] }
  | _ => none }
def FnExactPiecesOfWrongFalsely : Prop := fnExactPiecesOfRow.holds Try.pinned (OpenSpec.ofChange fnExactPiecesOfWrong)

/-- 'laws.FnExactStepsFrom': WHATEVER THE INPUT: true; the input reads as it did. -/
def fnExactStepsFromSpec : ChangeSpec := { name := "fnExactStepsFrom", fn := fun _ => fun
  | [d1, d2] => { results := [.lit (.bool true)], args := [d1, d2] }
  | _ => none }
def fnExactStepsFromRow : OpenClaim := { program := "ytcgkbdbgocoilaa", sum := "c1aa676b5ae4b3bacea1fe39725760da498e49f258fae30c4fbb388626029c20", func := "loop.example/g01405/laws.FnExactStepsFrom", spec := "fnExactStepsFrom", unfollowed := true, recurses := true, plainKeys := false, apart := false }
def FnExactStepsFromSaid : Prop := fnExactStepsFromRow.holds Try.pinned (OpenSpec.ofChange fnExactStepsFromSpec)

/-- ITS FALSE NEIGHBOUR: 'it returns false'. Refute it at one input. -/
def fnExactStepsFromWrong : ChangeSpec := { name := "fnExactStepsFrom", fn := fun _ => fun
  | [d1, d2] => { results := [.lit (.bool false)], args := [d1, d2] }
  | _ => none }
def FnExactStepsFromWrongFalsely : Prop := fnExactStepsFromRow.holds Try.pinned (OpenSpec.ofChange fnExactStepsFromWrong)

/-- 'laws.FnExactStepsTo': WHATEVER THE INPUT: true; the input reads as it did. -/
def fnExactStepsToSpec : ChangeSpec := { name := "fnExactStepsTo", fn := fun _ => fun
  | [d1, d2, d3] => { results := [.lit (.bool true)], args := [d1, d2, d3] }
  | _ => none }
def fnExactStepsToRow : OpenClaim := { program := "ytcgkbdbgocoilaa", sum := "c1aa676b5ae4b3bacea1fe39725760da498e49f258fae30c4fbb388626029c20", func := "loop.example/g01405/laws.FnExactStepsTo", spec := "fnExactStepsTo", unfollowed := true, recurses := true, plainKeys := false, apart := false }
def FnExactStepsToSaid : Prop := fnExactStepsToRow.holds Try.pinned (OpenSpec.ofChange fnExactStepsToSpec)

/-- ITS FALSE NEIGHBOUR: 'it returns false'. Refute it at one input. -/
def fnExactStepsToWrong : ChangeSpec := { name := "fnExactStepsTo", fn := fun _ => fun
  | [d1, d2, d3] => { results := [.lit (.bool false)], args := [d1, d2, d3] }
  | _ => none }
def FnExactStepsToWrongFalsely : Prop := fnExactStepsToRow.holds Try.pinned (OpenSpec.ofChange fnExactStepsToWrong)

/-- 'laws.FnExactRunsOf': WHATEVER THE INPUT: true; the input reads as it did. -/
def fnExactRunsOfSpec : ChangeSpec := { name := "fnExactRunsOf", fn := fun _ => fun
  | [d1, d2] => { results := [.lit (.bool true)], args := [d1, d2] }
  | _ => none }
def fnExactRunsOfRow : OpenClaim := { program := "ytcgkbdbgocoilaa", sum := "c1aa676b5ae4b3bacea1fe39725760da498e49f258fae30c4fbb388626029c20", func := "loop.example/g01405/laws.FnExactRunsOf", spec := "fnExactRunsOf", unfollowed := true, recurses := true, plainKeys := false, apart := false }
def FnExactRunsOfSaid : Prop := fnExactRunsOfRow.holds Try.pinned (OpenSpec.ofChange fnExactRunsOfSpec)

/-- ITS FALSE NEIGHBOUR: 'it returns false'. Refute it at one input. -/
def fnExactRunsOfWrong : ChangeSpec := { name := "fnExactRunsOf", fn := fun _ => fun
  | [d1, d2] => { results := [.lit (.bool false)], args := [d1, d2] }
  | _ => none }
def FnExactRunsOfWrongFalsely : Prop := fnExactRunsOfRow.holds Try.pinned (OpenSpec.ofChange fnExactRunsOfWrong)

/-- 'laws.FnExactLongestRun': WHATEVER THE INPUT: true; the input reads as it did. -/
def fnExactLongestRunSpec : ChangeSpec := { name := "fnExactLongestRun", fn := fun _ => fun
  | [d1, d2] => { results := [.lit (.bool true)], args := [d1, d2] }
  | _ => none }
def fnExactLongestRunRow : OpenClaim := { program := "ytcgkbdbgocoilaa", sum := "c1aa676b5ae4b3bacea1fe39725760da498e49f258fae30c4fbb388626029c20", func := "loop.example/g01405/laws.FnExactLongestRun", spec := "fnExactLongestRun", unfollowed := true, recurses := true, plainKeys := false, apart := false }
def FnExactLongestRunSaid : Prop := fnExactLongestRunRow.holds Try.pinned (OpenSpec.ofChange fnExactLongestRunSpec)

/-- ITS FALSE NEIGHBOUR: 'it returns false'. Refute it at one input. -/
def fnExactLongestRunWrong : ChangeSpec := { name := "fnExactLongestRun", fn := fun _ => fun
  | [d1, d2] => { results := [.lit (.bool false)], args := [d1, d2] }
  | _ => none }
def FnExactLongestRunWrongFalsely : Prop := fnExactLongestRunRow.holds Try.pinned (OpenSpec.ofChange fnExactLongestRunWrong)

/-- 'laws.FnExactBestStripes': WHATEVER THE INPUT: true; the input reads as it did. -/
def fnExactBestStripesSpec : ChangeSpec := { name := "fnExactBestStripes", fn := fun _ => fun
  | [d] => { results := [.lit (.bool true)], args := [d] }
  | _ => none }
def fnExactBestStripesRow : OpenClaim := { program := "ytcgkbdbgocoilaa", sum := "c1aa676b5ae4b3bacea1fe39725760da498e49f258fae30c4fbb388626029c20", func := "loop.example/g01405/laws.FnExactBestStripes", spec := "fnExactBestStripes", unfollowed := true, recurses := true, plainKeys := false, apart := false }
def FnExactBestStripesSaid : Prop := fnExactBestStripesRow.holds Try.pinned (OpenSpec.ofChange fnExactBestStripesSpec)

/-- ITS FALSE NEIGHBOUR: 'it returns false'. Refute it at one input. -/
def fnExactBestStripesWrong : ChangeSpec := { name := "fnExactBestStripes", fn := fun _ => fun
  | [d] => { results := [.lit (.bool false)], args := [d] }
  | _ => none }
def FnExactBestStripesWrongFalsely : Prop := fnExactBestStripesRow.holds Try.pinned (OpenSpec.ofChange fnExactBestStripesWrong)

/-- 'laws.FnExactStripeOf': WHATEVER THE INPUT: true; the input reads as it did. -/
def fnExactStripeOfSpec : ChangeSpec := { name := "fnExactStripeOf", fn := fun _ => fun
  | [d1, d2, d3] => { results := [.lit (.bool true)], args := [d1, d2, d3] }
  | _ => none }
def fnExactStripeOfRow : OpenClaim := { program := "ytcgkbdbgocoilaa", sum := "c1aa676b5ae4b3bacea1fe39725760da498e49f258fae30c4fbb388626029c20", func := "loop.example/g01405/laws.FnExactStripeOf", spec := "fnExactStripeOf", unfollowed := true, recurses := true, plainKeys := false, apart := false }
def FnExactStripeOfSaid : Prop := fnExactStripeOfRow.holds Try.pinned (OpenSpec.ofChange fnExactStripeOfSpec)

/-- ITS FALSE NEIGHBOUR: 'it returns false'. Refute it at one input. -/
def fnExactStripeOfWrong : ChangeSpec := { name := "fnExactStripeOf", fn := fun _ => fun
  | [d1, d2, d3] => { results := [.lit (.bool false)], args := [d1, d2, d3] }
  | _ => none }
def FnExactStripeOfWrongFalsely : Prop := fnExactStripeOfRow.holds Try.pinned (OpenSpec.ofChange fnExactStripeOfWrong)

/-- 'laws.FnExactMirrorLawn': WHATEVER THE INPUT: true; the input reads as it did. -/
def fnExactMirrorLawnSpec : ChangeSpec := { name := "fnExactMirrorLawn", fn := fun _ => fun
  | [d] => { results := [.lit (.bool true)], args := [d] }
  | _ => none }
def fnExactMirrorLawnRow : OpenClaim := { program := "ytcgkbdbgocoilaa", sum := "c1aa676b5ae4b3bacea1fe39725760da498e49f258fae30c4fbb388626029c20", func := "loop.example/g01405/laws.FnExactMirrorLawn", spec := "fnExactMirrorLawn", unfollowed := true, recurses := true, plainKeys := false, apart := false }
def FnExactMirrorLawnSaid : Prop := fnExactMirrorLawnRow.holds Try.pinned (OpenSpec.ofChange fnExactMirrorLawnSpec)

/-- ITS FALSE NEIGHBOUR: 'it returns false'. Refute it at one input. -/
def fnExactMirrorLawnWrong : ChangeSpec := { name := "fnExactMirrorLawn", fn := fun _ => fun
  | [d] => { results := [.lit (.bool false)], args := [d] }
  | _ => none }
def FnExactMirrorLawnWrongFalsely : Prop := fnExactMirrorLawnRow.holds Try.pinned (OpenSpec.ofChange fnExactMirrorLawnWrong)

/-- 'laws.FnExactTurnLawn': WHATEVER THE INPUT: true; the input reads as it did. -/
def fnExactTurnLawnSpec : ChangeSpec := { name := "fnExactTurnLawn", fn := fun _ => fun
  | [d] => { results := [.lit (.bool true)], args := [d] }
  | _ => none }
def fnExactTurnLawnRow : OpenClaim := { program := "ytcgkbdbgocoilaa", sum := "c1aa676b5ae4b3bacea1fe39725760da498e49f258fae30c4fbb388626029c20", func := "loop.example/g01405/laws.FnExactTurnLawn", spec := "fnExactTurnLawn", unfollowed := true, recurses := true, plainKeys := false, apart := false }
def FnExactTurnLawnSaid : Prop := fnExactTurnLawnRow.holds Try.pinned (OpenSpec.ofChange fnExactTurnLawnSpec)

/-- ITS FALSE NEIGHBOUR: 'it returns false'. Refute it at one input. -/
def fnExactTurnLawnWrong : ChangeSpec := { name := "fnExactTurnLawn", fn := fun _ => fun
  | [d] => { results := [.lit (.bool false)], args := [d] }
  | _ => none }
def FnExactTurnLawnWrongFalsely : Prop := fnExactTurnLawnRow.holds Try.pinned (OpenSpec.ofChange fnExactTurnLawnWrong)

/-- 'laws.FnExactDifferIn': WHATEVER THE INPUT: true; the input reads as it did. -/
def fnExactDifferInSpec : ChangeSpec := { name := "fnExactDifferIn", fn := fun _ => fun
  | [d1, d2] => { results := [.lit (.bool true)], args := [d1, d2] }
  | _ => none }
def fnExactDifferInRow : OpenClaim := { program := "ytcgkbdbgocoilaa", sum := "c1aa676b5ae4b3bacea1fe39725760da498e49f258fae30c4fbb388626029c20", func := "loop.example/g01405/laws.FnExactDifferIn", spec := "fnExactDifferIn", unfollowed := true, recurses := true, plainKeys := false, apart := false }
def FnExactDifferInSaid : Prop := fnExactDifferInRow.holds Try.pinned (OpenSpec.ofChange fnExactDifferInSpec)

/-- ITS FALSE NEIGHBOUR: 'it returns false'. Refute it at one input. -/
def fnExactDifferInWrong : ChangeSpec := { name := "fnExactDifferIn", fn := fun _ => fun
  | [d1, d2] => { results := [.lit (.bool false)], args := [d1, d2] }
  | _ => none }
def FnExactDifferInWrongFalsely : Prop := fnExactDifferInRow.holds Try.pinned (OpenSpec.ofChange fnExactDifferInWrong)

/-- 'laws.FnExactLawnText': WHATEVER THE INPUT: true; the input reads as it did. -/
def fnExactLawnTextSpec : ChangeSpec := { name := "fnExactLawnText", fn := fun _ => fun
  | [d] => { results := [.lit (.bool true)], args := [d] }
  | _ => none }
def fnExactLawnTextRow : OpenClaim := { program := "ytcgkbdbgocoilaa", sum := "c1aa676b5ae4b3bacea1fe39725760da498e49f258fae30c4fbb388626029c20", func := "loop.example/g01405/laws.FnExactLawnText", spec := "fnExactLawnText", inPlace := ["internal/abi.NoEscape"], unfollowed := true, recurses := true, plainKeys := false, apart := false }
def FnExactLawnTextSaid : Prop := fnExactLawnTextRow.holds Try.pinned (OpenSpec.ofChange fnExactLawnTextSpec)

/-- ITS FALSE NEIGHBOUR: 'it returns false'. Refute it at one input. -/
def fnExactLawnTextWrong : ChangeSpec := { name := "fnExactLawnText", fn := fun _ => fun
  | [d] => { results := [.lit (.bool false)], args := [d] }
  | _ => none }
def FnExactLawnTextWrongFalsely : Prop := fnExactLawnTextRow.holds Try.pinned (OpenSpec.ofChange fnExactLawnTextWrong)

/-- 'laws.FnRuns': WHATEVER THE INPUT: true; the input reads as it did. -/
def fnRunsSpec : ChangeSpec := { name := "fnRuns", fn := fun _ => fun
  | [d1, d2] => { results := [.lit (.bool true)], args := [d1, d2] }
  | _ => none }
def fnRunsRow : OpenClaim := { program := "ytcgkbdbgocoilaa", sum := "c1aa676b5ae4b3bacea1fe39725760da498e49f258fae30c4fbb388626029c20", func := "loop.example/g01405/laws.FnRuns", spec := "fnRuns", unfollowed := true, recurses := true, plainKeys := false, apart := false }
def FnRunsSaid : Prop := fnRunsRow.holds Try.pinned (OpenSpec.ofChange fnRunsSpec)

/-- ITS FALSE NEIGHBOUR: 'it returns false'. Refute it at one input. -/
def fnRunsWrong : ChangeSpec := { name := "fnRuns", fn := fun _ => fun
  | [d1, d2] => { results := [.lit (.bool false)], args := [d1, d2] }
  | _ => none }
def FnRunsWrongFalsely : Prop := fnRunsRow.holds Try.pinned (OpenSpec.ofChange fnRunsWrong)

/- THE SECOND FORM. 'bulk': how many values and letters a reading holds, each counted each time it is reached (what is shared counts as often as it is met; a slice's spare places count too). A statement '..UptoSaid' is the law's where the arguments, and the package variables that the reading takes, are together of bulk at most 1048576: NARROWER than '..Said'. Prove '..Said' where nothing that the law and all that it calls make is longer than what came in: it says more and counts as full. Else prove '..UptoSaid'. A law counts once. -/
mutual
def uptoBulk {H : Type} : DataW H → Nat
  | .lit (.string bytes) => bytes.length + 1
  | .lit _ => 1
  | .nil => 1
  | .ptr d => uptoBulk d + 1
  | .slice elems spare => uptoBulkAll elems + uptoBulkAll spare + 1
  | .agg parts => uptoBulkAll parts + 1
  | .iface _ d => uptoBulk d + 1
  | .map entries => uptoBulkEntries entries + 1
  | .held _ => 1
def uptoBulkAll {H : Type} : List (DataW H) → Nat
  | [] => 0
  | d :: r => uptoBulk d + uptoBulkAll r
def uptoBulkEntries {H : Type} : List (Lit × DataW H) → Nat
  | [] => 0
  | x :: r => uptoBulkEntry x + uptoBulkEntries r
def uptoBulkEntry {H : Type} : Lit × DataW H → Nat
  | (.string bytes, d) => bytes.length + uptoBulk d + 1
  | (_, d) => uptoBulk d + 1
 end
def uptoSmall : (H : Type) → List (DataW H) → Bool := fun _ ds => decide (uptoBulkAll ds ≤ 1048576)
def OpenSpec.upto (s : _root_.Go.ChangeSpec) : _root_.Go.OpenSpec := { _root_.Go.OpenSpec.ofChange s with cond := some uptoSmall }

/-- 'laws.FnExactCellsOf', WHERE WHAT IT READS IS OF BULK AT MOST 1048576: true; the input reads as it did. -/
def fnExactCellsOfUptoRow : OpenClaim := { program := "ytcgkbdbgocoilaa", sum := "c1aa676b5ae4b3bacea1fe39725760da498e49f258fae30c4fbb388626029c20", func := "loop.example/g01405/laws.FnExactCellsOf", spec := "fnExactCellsOf", unfollowed := true, recurses := true, plainKeys := false, apart := false, narrowed := true }
def FnExactCellsOfUptoSaid : Prop := fnExactCellsOfUptoRow.holds Try.pinned (OpenSpec.upto fnExactCellsOfSpec)

/-- 'laws.FnExactPiecesOf', WHERE WHAT IT READS IS OF BULK AT MOST 1048576: true; the input reads as it did. -/
def fnExactPiecesOfUptoRow : OpenClaim := { program := "ytcgkbdbgocoilaa", sum := "c1aa676b5ae4b3bacea1fe39725760da498e49f258fae30c4fbb388626029c20", func := "loop.example/g01405/laws.FnExactPiecesOf", spec := "fnExactPiecesOf", unfollowed := true, recurses := true, plainKeys := false, apart := false, narrowed := true }
def FnExactPiecesOfUptoSaid : Prop := fnExactPiecesOfUptoRow.holds Try.pinned (OpenSpec.upto fnExactPiecesOfSpec)

/-- 'laws.FnExactStepsFrom', WHERE WHAT IT READS IS OF BULK AT MOST 1048576: true; the input reads as it did. -/
def fnExactStepsFromUptoRow : OpenClaim := { program := "ytcgkbdbgocoilaa", sum := "c1aa676b5ae4b3bacea1fe39725760da498e49f258fae30c4fbb388626029c20", func := "loop.example/g01405/laws.FnExactStepsFrom", spec := "fnExactStepsFrom", unfollowed := true, recurses := true, plainKeys := false, apart := false, narrowed := true }
def FnExactStepsFromUptoSaid : Prop := fnExactStepsFromUptoRow.holds Try.pinned (OpenSpec.upto fnExactStepsFromSpec)

/-- 'laws.FnExactStepsTo', WHERE WHAT IT READS IS OF BULK AT MOST 1048576: true; the input reads as it did. -/
def fnExactStepsToUptoRow : OpenClaim := { program := "ytcgkbdbgocoilaa", sum := "c1aa676b5ae4b3bacea1fe39725760da498e49f258fae30c4fbb388626029c20", func := "loop.example/g01405/laws.FnExactStepsTo", spec := "fnExactStepsTo", unfollowed := true, recurses := true, plainKeys := false, apart := false, narrowed := true }
def FnExactStepsToUptoSaid : Prop := fnExactStepsToUptoRow.holds Try.pinned (OpenSpec.upto fnExactStepsToSpec)

/-- 'laws.FnExactRunsOf', WHERE WHAT IT READS IS OF BULK AT MOST 1048576: true; the input reads as it did. -/
def fnExactRunsOfUptoRow : OpenClaim := { program := "ytcgkbdbgocoilaa", sum := "c1aa676b5ae4b3bacea1fe39725760da498e49f258fae30c4fbb388626029c20", func := "loop.example/g01405/laws.FnExactRunsOf", spec := "fnExactRunsOf", unfollowed := true, recurses := true, plainKeys := false, apart := false, narrowed := true }
def FnExactRunsOfUptoSaid : Prop := fnExactRunsOfUptoRow.holds Try.pinned (OpenSpec.upto fnExactRunsOfSpec)

/-- 'laws.FnExactLongestRun', WHERE WHAT IT READS IS OF BULK AT MOST 1048576: true; the input reads as it did. -/
def fnExactLongestRunUptoRow : OpenClaim := { program := "ytcgkbdbgocoilaa", sum := "c1aa676b5ae4b3bacea1fe39725760da498e49f258fae30c4fbb388626029c20", func := "loop.example/g01405/laws.FnExactLongestRun", spec := "fnExactLongestRun", unfollowed := true, recurses := true, plainKeys := false, apart := false, narrowed := true }
def FnExactLongestRunUptoSaid : Prop := fnExactLongestRunUptoRow.holds Try.pinned (OpenSpec.upto fnExactLongestRunSpec)

/-- 'laws.FnExactBestStripes', WHERE WHAT IT READS IS OF BULK AT MOST 1048576: true; the input reads as it did. -/
def fnExactBestStripesUptoRow : OpenClaim := { program := "ytcgkbdbgocoilaa", sum := "c1aa676b5ae4b3bacea1fe39725760da498e49f258fae30c4fbb388626029c20", func := "loop.example/g01405/laws.FnExactBestStripes", spec := "fnExactBestStripes", unfollowed := true, recurses := true, plainKeys := false, apart := false, narrowed := true }
def FnExactBestStripesUptoSaid : Prop := fnExactBestStripesUptoRow.holds Try.pinned (OpenSpec.upto fnExactBestStripesSpec)

/-- 'laws.FnExactStripeOf', WHERE WHAT IT READS IS OF BULK AT MOST 1048576: true; the input reads as it did. -/
def fnExactStripeOfUptoRow : OpenClaim := { program := "ytcgkbdbgocoilaa", sum := "c1aa676b5ae4b3bacea1fe39725760da498e49f258fae30c4fbb388626029c20", func := "loop.example/g01405/laws.FnExactStripeOf", spec := "fnExactStripeOf", unfollowed := true, recurses := true, plainKeys := false, apart := false, narrowed := true }
def FnExactStripeOfUptoSaid : Prop := fnExactStripeOfUptoRow.holds Try.pinned (OpenSpec.upto fnExactStripeOfSpec)

/-- 'laws.FnExactMirrorLawn', WHERE WHAT IT READS IS OF BULK AT MOST 1048576: true; the input reads as it did. -/
def fnExactMirrorLawnUptoRow : OpenClaim := { program := "ytcgkbdbgocoilaa", sum := "c1aa676b5ae4b3bacea1fe39725760da498e49f258fae30c4fbb388626029c20", func := "loop.example/g01405/laws.FnExactMirrorLawn", spec := "fnExactMirrorLawn", unfollowed := true, recurses := true, plainKeys := false, apart := false, narrowed := true }
def FnExactMirrorLawnUptoSaid : Prop := fnExactMirrorLawnUptoRow.holds Try.pinned (OpenSpec.upto fnExactMirrorLawnSpec)

/-- 'laws.FnExactTurnLawn', WHERE WHAT IT READS IS OF BULK AT MOST 1048576: true; the input reads as it did. -/
def fnExactTurnLawnUptoRow : OpenClaim := { program := "ytcgkbdbgocoilaa", sum := "c1aa676b5ae4b3bacea1fe39725760da498e49f258fae30c4fbb388626029c20", func := "loop.example/g01405/laws.FnExactTurnLawn", spec := "fnExactTurnLawn", unfollowed := true, recurses := true, plainKeys := false, apart := false, narrowed := true }
def FnExactTurnLawnUptoSaid : Prop := fnExactTurnLawnUptoRow.holds Try.pinned (OpenSpec.upto fnExactTurnLawnSpec)

/-- 'laws.FnExactDifferIn', WHERE WHAT IT READS IS OF BULK AT MOST 1048576: true; the input reads as it did. -/
def fnExactDifferInUptoRow : OpenClaim := { program := "ytcgkbdbgocoilaa", sum := "c1aa676b5ae4b3bacea1fe39725760da498e49f258fae30c4fbb388626029c20", func := "loop.example/g01405/laws.FnExactDifferIn", spec := "fnExactDifferIn", unfollowed := true, recurses := true, plainKeys := false, apart := false, narrowed := true }
def FnExactDifferInUptoSaid : Prop := fnExactDifferInUptoRow.holds Try.pinned (OpenSpec.upto fnExactDifferInSpec)

/-- 'laws.FnExactLawnText', WHERE WHAT IT READS IS OF BULK AT MOST 1048576: true; the input reads as it did. -/
def fnExactLawnTextUptoRow : OpenClaim := { program := "ytcgkbdbgocoilaa", sum := "c1aa676b5ae4b3bacea1fe39725760da498e49f258fae30c4fbb388626029c20", func := "loop.example/g01405/laws.FnExactLawnText", spec := "fnExactLawnText", inPlace := ["internal/abi.NoEscape"], unfollowed := true, recurses := true, plainKeys := false, apart := false, narrowed := true }
def FnExactLawnTextUptoSaid : Prop := fnExactLawnTextUptoRow.holds Try.pinned (OpenSpec.upto fnExactLawnTextSpec)

/-- 'laws.FnRuns', WHERE WHAT IT READS IS OF BULK AT MOST 1048576: true; the input reads as it did. -/
def fnRunsUptoRow : OpenClaim := { program := "ytcgkbdbgocoilaa", sum := "c1aa676b5ae4b3bacea1fe39725760da498e49f258fae30c4fbb388626029c20", func := "loop.example/g01405/laws.FnRuns", spec := "fnRuns", unfollowed := true, recurses := true, plainKeys := false, apart := false, narrowed := true }
def FnRunsUptoSaid : Prop := fnRunsUptoRow.holds Try.pinned (OpenSpec.upto fnRunsSpec)

end Rows
end Go.Proofs.Ytcgkbdbgocoilaa
