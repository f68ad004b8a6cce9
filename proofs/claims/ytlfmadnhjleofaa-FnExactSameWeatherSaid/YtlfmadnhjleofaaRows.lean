/-
  No cell of these rows narrows 'for every input' (looked for: loops, veiled, ifaces, maps, wideKeys, modest, calm, conditions, laid).
  DERIVED. THE GIVEN ROWS OF THIS SEAT. 11 by the template 'for every input the law returns true; each argument reads behind the call as it read before'; 0 by the template 'total and deterministic' (their statements: YtlfmadnhjleofaaTotals.lean).
  GIVEN WITH THE SEED: the statements are not yours to turn. If you find one false, say at which input.
  Laid BY PROGRAM, IN A SANDBOX (cutbox-rows.mjs): the forced cells as the released guide's own fill.sh prints them over the translation 4ffac525cbc66e1d… (all of the seat's roots in one cut). By AI agents, Wed Nov 11 2026. No macro, syntax, notation, axiom, sorry.
-/
import Derived.Test.YtlfmadnhjleofaaChecked
import GoSem.Claim
import GoSem.ClaimJoined
import GoSem.ClaimMapViews
import Derived.JoinedTies
import Derived.KernelRfl
namespace Go.Proofs.Ytlfmadnhjleofaa
/- THE CELL 'sum', in the pinned program and in every row, IS THE sha256 OF THE DUMP (.gsa) THAT YtlfmadnhjleofaaProg.lean LOADS. Nothing in Lean hashes anything: it is a label: what it is worth is what the hold of that sum in a sandbox is worth. -/
noncomputable def Try.pinned : Pinned := { name := "ytlfmadnhjleofaa", sum := "4ffac525cbc66e1d03e9b28643dc2c967f31f52387ffe43330a63154c0268823", checked := Try.checked }
namespace Rows
def none {H : Type} : Left H := { results := [], args := [] }

/-- 'laws.FnRuns': WHATEVER THE INPUT: true; the input reads as it did. -/
def fnRunsSpec : ChangeSpec := { name := "fnRuns", fn := fun _ => fun
  | [d1, d2] => { results := [.lit (.bool true)], args := [d1, d2] }
  | _ => none }
def fnRunsRow : OpenClaim := { program := "ytlfmadnhjleofaa", sum := "4ffac525cbc66e1d03e9b28643dc2c967f31f52387ffe43330a63154c0268823", func := "loop.example/g01405/laws.FnRuns", spec := "fnRuns", unfollowed := true, recurses := true, plainKeys := false, apart := false }
def FnRunsSaid : Prop := fnRunsRow.holds Try.pinned (OpenSpec.ofChange fnRunsSpec)

/-- ITS FALSE NEIGHBOUR: 'it returns false'. Refute it at one input. -/
def fnRunsWrong : ChangeSpec := { name := "fnRuns", fn := fun _ => fun
  | [d1, d2] => { results := [.lit (.bool false)], args := [d1, d2] }
  | _ => none }
def FnRunsWrongFalsely : Prop := fnRunsRow.holds Try.pinned (OpenSpec.ofChange fnRunsWrong)

/-- 'laws.FnWays': WHATEVER THE INPUT: true; the input reads as it did. -/
def fnWaysSpec : ChangeSpec := { name := "fnWays", fn := fun _ => fun
  | [d1, d2] => { results := [.lit (.bool true)], args := [d1, d2] }
  | _ => none }
def fnWaysRow : OpenClaim := { program := "ytlfmadnhjleofaa", sum := "4ffac525cbc66e1d03e9b28643dc2c967f31f52387ffe43330a63154c0268823", func := "loop.example/g01405/laws.FnWays", spec := "fnWays", inPlace := ["internal/bytealg.IndexByteString", "internal/bytealg.MakeNoZero"], unfollowed := true, recurses := true, plainKeys := false, apart := false }
def FnWaysSaid : Prop := fnWaysRow.holds Try.pinned (OpenSpec.ofChange fnWaysSpec)

/-- ITS FALSE NEIGHBOUR: 'it returns false'. Refute it at one input. -/
def fnWaysWrong : ChangeSpec := { name := "fnWays", fn := fun _ => fun
  | [d1, d2] => { results := [.lit (.bool false)], args := [d1, d2] }
  | _ => none }
def FnWaysWrongFalsely : Prop := fnWaysRow.holds Try.pinned (OpenSpec.ofChange fnWaysWrong)

/-- 'laws.FnExactFirstWhole': WHATEVER THE INPUT: true; the input reads as it did. -/
def fnExactFirstWholeSpec : ChangeSpec := { name := "fnExactFirstWhole", fn := fun _ => fun
  | [d1, d2, d3] => { results := [.lit (.bool true)], args := [d1, d2, d3] }
  | _ => none }
def fnExactFirstWholeRow : OpenClaim := { program := "ytlfmadnhjleofaa", sum := "4ffac525cbc66e1d03e9b28643dc2c967f31f52387ffe43330a63154c0268823", func := "loop.example/g01405/laws.FnExactFirstWhole", spec := "fnExactFirstWhole", inPlace := ["internal/bytealg.IndexByteString"], unfollowed := true, recurses := true, plainKeys := false, apart := false }
def FnExactFirstWholeSaid : Prop := fnExactFirstWholeRow.holds Try.pinned (OpenSpec.ofChange fnExactFirstWholeSpec)

/-- ITS FALSE NEIGHBOUR: 'it returns false'. Refute it at one input. -/
def fnExactFirstWholeWrong : ChangeSpec := { name := "fnExactFirstWhole", fn := fun _ => fun
  | [d1, d2, d3] => { results := [.lit (.bool false)], args := [d1, d2, d3] }
  | _ => none }
def FnExactFirstWholeWrongFalsely : Prop := fnExactFirstWholeRow.holds Try.pinned (OpenSpec.ofChange fnExactFirstWholeWrong)

/-- 'laws.FnExactStripesBy': WHATEVER THE INPUT: true; the input reads as it did. -/
def fnExactStripesBySpec : ChangeSpec := { name := "fnExactStripesBy", fn := fun _ => fun
  | [d1, d2, d3] => { results := [.lit (.bool true)], args := [d1, d2, d3] }
  | _ => none }
def fnExactStripesByRow : OpenClaim := { program := "ytlfmadnhjleofaa", sum := "4ffac525cbc66e1d03e9b28643dc2c967f31f52387ffe43330a63154c0268823", func := "loop.example/g01405/laws.FnExactStripesBy", spec := "fnExactStripesBy", inPlace := ["internal/bytealg.IndexByteString", "internal/bytealg.MakeNoZero"], unfollowed := true, recurses := true, plainKeys := false, apart := false }
def FnExactStripesBySaid : Prop := fnExactStripesByRow.holds Try.pinned (OpenSpec.ofChange fnExactStripesBySpec)

/-- ITS FALSE NEIGHBOUR: 'it returns false'. Refute it at one input. -/
def fnExactStripesByWrong : ChangeSpec := { name := "fnExactStripesBy", fn := fun _ => fun
  | [d1, d2, d3] => { results := [.lit (.bool false)], args := [d1, d2, d3] }
  | _ => none }
def FnExactStripesByWrongFalsely : Prop := fnExactStripesByRow.holds Try.pinned (OpenSpec.ofChange fnExactStripesByWrong)

/-- 'laws.FnExactBackAndForth': WHATEVER THE INPUT: true; the input reads as it did. -/
def fnExactBackAndForthSpec : ChangeSpec := { name := "fnExactBackAndForth", fn := fun _ => fun
  | [d] => { results := [.lit (.bool true)], args := [d] }
  | _ => none }
def fnExactBackAndForthRow : OpenClaim := { program := "ytlfmadnhjleofaa", sum := "4ffac525cbc66e1d03e9b28643dc2c967f31f52387ffe43330a63154c0268823", func := "loop.example/g01405/laws.FnExactBackAndForth", spec := "fnExactBackAndForth", inPlace := ["internal/abi.NoEscape", "internal/bytealg.MakeNoZero"], unfollowed := true, recurses := true, plainKeys := false, apart := false }
def FnExactBackAndForthSaid : Prop := fnExactBackAndForthRow.holds Try.pinned (OpenSpec.ofChange fnExactBackAndForthSpec)

/-- ITS FALSE NEIGHBOUR: 'it returns false'. Refute it at one input. -/
def fnExactBackAndForthWrong : ChangeSpec := { name := "fnExactBackAndForth", fn := fun _ => fun
  | [d] => { results := [.lit (.bool false)], args := [d] }
  | _ => none }
def FnExactBackAndForthWrongFalsely : Prop := fnExactBackAndForthRow.holds Try.pinned (OpenSpec.ofChange fnExactBackAndForthWrong)

/-- 'laws.FnExactLawnText': WHATEVER THE INPUT: true; the input reads as it did. -/
def fnExactLawnTextSpec : ChangeSpec := { name := "fnExactLawnText", fn := fun _ => fun
  | [d] => { results := [.lit (.bool true)], args := [d] }
  | _ => none }
def fnExactLawnTextRow : OpenClaim := { program := "ytlfmadnhjleofaa", sum := "4ffac525cbc66e1d03e9b28643dc2c967f31f52387ffe43330a63154c0268823", func := "loop.example/g01405/laws.FnExactLawnText", spec := "fnExactLawnText", inPlace := ["internal/abi.NoEscape"], unfollowed := true, recurses := true, plainKeys := false, apart := false }
def FnExactLawnTextSaid : Prop := fnExactLawnTextRow.holds Try.pinned (OpenSpec.ofChange fnExactLawnTextSpec)

/-- ITS FALSE NEIGHBOUR: 'it returns false'. Refute it at one input. -/
def fnExactLawnTextWrong : ChangeSpec := { name := "fnExactLawnText", fn := fun _ => fun
  | [d] => { results := [.lit (.bool false)], args := [d] }
  | _ => none }
def FnExactLawnTextWrongFalsely : Prop := fnExactLawnTextRow.holds Try.pinned (OpenSpec.ofChange fnExactLawnTextWrong)

/-- 'laws.FnExactPiecesOf': WHATEVER THE INPUT: true; the input reads as it did. -/
def fnExactPiecesOfSpec : ChangeSpec := { name := "fnExactPiecesOf", fn := fun _ => fun
  | [d] => { results := [.lit (.bool true)], args := [d] }
  | _ => none }
def fnExactPiecesOfRow : OpenClaim := { program := "ytlfmadnhjleofaa", sum := "4ffac525cbc66e1d03e9b28643dc2c967f31f52387ffe43330a63154c0268823", func := "loop.example/g01405/laws.FnExactPiecesOf", spec := "fnExactPiecesOf", unfollowed := true, recurses := true, plainKeys := false, apart := false }
def FnExactPiecesOfSaid : Prop := fnExactPiecesOfRow.holds Try.pinned (OpenSpec.ofChange fnExactPiecesOfSpec)

/-- ITS FALSE NEIGHBOUR: 'it returns false'. Refute it at one input. -/
def fnExactPiecesOfWrong : ChangeSpec := { name := "fnExactPiecesOf", fn := fun _ => fun
  | [d] => { results := [.lit (.bool false)], args := [d] }
  | _ => none }
def FnExactPiecesOfWrongFalsely : Prop := fnExactPiecesOfRow.holds Try.pinned (OpenSpec.ofChange fnExactPiecesOfWrong)

/-- 'laws.FnExactHomeFrom': WHATEVER THE INPUT: true; the input reads as it did. -/
def fnExactHomeFromSpec : ChangeSpec := { name := "fnExactHomeFrom", fn := fun _ => fun
  | [d1, d2, d3] => { results := [.lit (.bool true)], args := [d1, d2, d3] }
  | _ => none }
def fnExactHomeFromRow : OpenClaim := { program := "ytlfmadnhjleofaa", sum := "4ffac525cbc66e1d03e9b28643dc2c967f31f52387ffe43330a63154c0268823", func := "loop.example/g01405/laws.FnExactHomeFrom", spec := "fnExactHomeFrom", unfollowed := true, recurses := true, plainKeys := false, apart := false }
def FnExactHomeFromSaid : Prop := fnExactHomeFromRow.holds Try.pinned (OpenSpec.ofChange fnExactHomeFromSpec)

/-- ITS FALSE NEIGHBOUR: 'it returns false'. Refute it at one input. -/
def fnExactHomeFromWrong : ChangeSpec := { name := "fnExactHomeFrom", fn := fun _ => fun
  | [d1, d2, d3] => { results := [.lit (.bool false)], args := [d1, d2, d3] }
  | _ => none }
def FnExactHomeFromWrongFalsely : Prop := fnExactHomeFromRow.holds Try.pinned (OpenSpec.ofChange fnExactHomeFromWrong)

/-- 'laws.FnExactShortestWhole': WHATEVER THE INPUT: true; the input reads as it did. -/
def fnExactShortestWholeSpec : ChangeSpec := { name := "fnExactShortestWhole", fn := fun _ => fun
  | [d1, d2] => { results := [.lit (.bool true)], args := [d1, d2] }
  | _ => none }
def fnExactShortestWholeRow : OpenClaim := { program := "ytlfmadnhjleofaa", sum := "4ffac525cbc66e1d03e9b28643dc2c967f31f52387ffe43330a63154c0268823", func := "loop.example/g01405/laws.FnExactShortestWhole", spec := "fnExactShortestWhole", unfollowed := true, recurses := true, plainKeys := false, apart := false }
def FnExactShortestWholeSaid : Prop := fnExactShortestWholeRow.holds Try.pinned (OpenSpec.ofChange fnExactShortestWholeSpec)

/-- ITS FALSE NEIGHBOUR: 'it returns false'. Refute it at one input. -/
def fnExactShortestWholeWrong : ChangeSpec := { name := "fnExactShortestWhole", fn := fun _ => fun
  | [d1, d2] => { results := [.lit (.bool false)], args := [d1, d2] }
  | _ => none }
def FnExactShortestWholeWrongFalsely : Prop := fnExactShortestWholeRow.holds Try.pinned (OpenSpec.ofChange fnExactShortestWholeWrong)

/-- 'laws.FnExactSameWeather': WHATEVER THE INPUT: true; the input reads as it did. -/
def fnExactSameWeatherSpec : ChangeSpec := { name := "fnExactSameWeather", fn := fun _ => fun
  | [d1, d2] => { results := [.lit (.bool true)], args := [d1, d2] }
  | _ => none }
def fnExactSameWeatherRow : OpenClaim := { program := "ytlfmadnhjleofaa", sum := "4ffac525cbc66e1d03e9b28643dc2c967f31f52387ffe43330a63154c0268823", func := "loop.example/g01405/laws.FnExactSameWeather", spec := "fnExactSameWeather", plainKeys := false, apart := false }
def FnExactSameWeatherSaid : Prop := fnExactSameWeatherRow.holds Try.pinned (OpenSpec.ofChange fnExactSameWeatherSpec)

/-- ITS FALSE NEIGHBOUR: 'it returns false'. Refute it at one input. -/
def fnExactSameWeatherWrong : ChangeSpec := { name := "fnExactSameWeather", fn := fun _ => fun
  | [d1, d2] => { results := [.lit (.bool false)], args := [d1, d2] }
  | _ => none }
def FnExactSameWeatherWrongFalsely : Prop := fnExactSameWeatherRow.holds Try.pinned (OpenSpec.ofChange fnExactSameWeatherWrong)

/-- 'laws.FnExactBoxesFor': WHATEVER THE INPUT: true; the input reads as it did. -/
def fnExactBoxesForSpec : ChangeSpec := { name := "fnExactBoxesFor", fn := fun _ => fun
  | [d1, d2, d3] => { results := [.lit (.bool true)], args := [d1, d2, d3] }
  | _ => none }
def fnExactBoxesForRow : OpenClaim := { program := "ytlfmadnhjleofaa", sum := "4ffac525cbc66e1d03e9b28643dc2c967f31f52387ffe43330a63154c0268823", func := "loop.example/g01405/laws.FnExactBoxesFor", spec := "fnExactBoxesFor", unfollowed := true, recurses := true, plainKeys := false, apart := false }
def FnExactBoxesForSaid : Prop := fnExactBoxesForRow.holds Try.pinned (OpenSpec.ofChange fnExactBoxesForSpec)

/-- ITS FALSE NEIGHBOUR: 'it returns false'. Refute it at one input. -/
def fnExactBoxesForWrong : ChangeSpec := { name := "fnExactBoxesFor", fn := fun _ => fun
  | [d1, d2, d3] => { results := [.lit (.bool false)], args := [d1, d2, d3] }
  | _ => none }
def FnExactBoxesForWrongFalsely : Prop := fnExactBoxesForRow.holds Try.pinned (OpenSpec.ofChange fnExactBoxesForWrong)

/- THE SECOND FORM. 'bulk': how many values and letters a reading holds, each counted each time it is reached (what is shared counts as often as it is met; a slice's spare places count too). A statement '..UptoSaid' is the law's where the arguments, and the package variables that the reading takes, are together of bulk at most 1048576: NARROWER than '..Said'. Prove '..Said' where nothing that the law and all that it calls make is longer than what came in: it says more and counts as full. Else prove '..UptoSaid'. A law counts once. -/
mutual
def uptoBulk {H : Type} : DataW H → Nat
  | .lit (.string bytes) => bytes.length + 1
  | .lit _ => 1
  | .nil => 1
  | .ptr d => uptoBulk d + 1
  | .slice elems spare => uptoBulkAll elems + uptoBulkAll spare + 1
  | .agg parts => uptoBulkAll parts + 1
  | .iface _ d => uptoBulk d + 1
  | .map entries => uptoBulkEntries entries + 1
  | .held _ => 1
def uptoBulkAll {H : Type} : List (DataW H) → Nat
  | [] => 0
  | d :: r => uptoBulk d + uptoBulkAll r
def uptoBulkEntries {H : Type} : List (Lit × DataW H) → Nat
  | [] => 0
  | x :: r => uptoBulkEntry x + uptoBulkEntries r
def uptoBulkEntry {H : Type} : Lit × DataW H → Nat
  | (.string bytes, d) => bytes.length + uptoBulk d + 1
  | (_, d) => uptoBulk d + 1
 end
def uptoSmall : (H : Type) → List (DataW H) → Bool := fun _ ds => decide (uptoBulkAll ds ≤ 1048576)
def OpenSpec.upto (s : _root_.Go.ChangeSpec) : _root_.Go.OpenSpec := { _root_.Go.OpenSpec.ofChange s with cond := some uptoSmall }

/-- 'laws.FnRuns', WHERE WHAT IT READS IS OF BULK AT MOST 1048576: true; the input reads as it did. -/
def fnRunsUptoRow : OpenClaim := { program := "ytlfmadnhjleofaa", sum := "4ffac525cbc66e1d03e9b28643dc2c967f31f52387ffe43330a63154c0268823", func := "loop.example/g01405/laws.FnRuns", spec := "fnRuns", unfollowed := true, recurses := true, plainKeys := false, apart := false, narrowed := true }
def FnRunsUptoSaid : Prop := fnRunsUptoRow.holds Try.pinned (OpenSpec.upto fnRunsSpec)

/-- 'laws.FnWays', WHERE WHAT IT READS IS OF BULK AT MOST 1048576: true; the input reads as it did. -/
def fnWaysUptoRow : OpenClaim := { program := "ytlfmadnhjleofaa", sum := "4ffac525cbc66e1d03e9b28643dc2c967f31f52387ffe43330a63154c0268823", func := "loop.example/g01405/laws.FnWays", spec := "fnWays", inPlace := ["internal/bytealg.IndexByteString", "internal/bytealg.MakeNoZero"], unfollowed := true, recurses := true, plainKeys := false, apart := false, narrowed := true }
def FnWaysUptoSaid : Prop := fnWaysUptoRow.holds Try.pinned (OpenSpec.upto fnWaysSpec)

/-- 'laws.FnExactFirstWhole', WHERE WHAT IT READS IS OF BULK AT MOST 1048576: true; the input reads as it did. -/
def fnExactFirstWholeUptoRow : OpenClaim := { program := "ytlfmadnhjleofaa", sum := "4ffac525cbc66e1d03e9b28643dc2c967f31f52387ffe43330a63154c0268823", func := "loop.example/g01405/laws.FnExactFirstWhole", spec := "fnExactFirstWhole", inPlace := ["internal/bytealg.IndexByteString"], unfollowed := true, recurses := true, plainKeys := false, apart := false, narrowed := true }
def FnExactFirstWholeUptoSaid : Prop := fnExactFirstWholeUptoRow.holds Try.pinned (OpenSpec.upto fnExactFirstWholeSpec)

/-- 'laws.FnExactStripesBy', WHERE WHAT IT READS IS OF BULK AT MOST 1048576: true; the input reads as it did. -/
def fnExactStripesByUptoRow : OpenClaim := { program := "ytlfmadnhjleofaa", sum := "4ffac525cbc66e1d03e9b28643dc2c967f31f52387ffe43330a63154c0268823", func := "loop.example/g01405/laws.FnExactStripesBy", spec := "fnExactStripesBy", inPlace := ["internal/bytealg.IndexByteString", "internal/bytealg.MakeNoZero"], unfollowed := true, recurses := true, plainKeys := false, apart := false, narrowed := true }
def FnExactStripesByUptoSaid : Prop := fnExactStripesByUptoRow.holds Try.pinned (OpenSpec.upto fnExactStripesBySpec)

/-- 'laws.FnExactBackAndForth', WHERE WHAT IT READS IS OF BULK AT MOST 1048576: true; the input reads as it did. -/
def fnExactBackAndForthUptoRow : OpenClaim := { program := "ytlfmadnhjleofaa", sum := "4ffac525cbc66e1d03e9b28643dc2c967f31f52387ffe43330a63154c0268823", func := "loop.example/g01405/laws.FnExactBackAndForth", spec := "fnExactBackAndForth", inPlace := ["internal/abi.NoEscape", "internal/bytealg.MakeNoZero"], unfollowed := true, recurses := true, plainKeys := false, apart := false, narrowed := true }
def FnExactBackAndForthUptoSaid : Prop := fnExactBackAndForthUptoRow.holds Try.pinned (OpenSpec.upto fnExactBackAndForthSpec)

/-- 'laws.FnExactLawnText', WHERE WHAT IT READS IS OF BULK AT MOST 1048576: true; the input reads as it did. -/
def fnExactLawnTextUptoRow : OpenClaim := { program := "ytlfmadnhjleofaa", sum := "4ffac525cbc66e1d03e9b28643dc2c967f31f52387ffe43330a63154c0268823", func := "loop.example/g01405/laws.FnExactLawnText", spec := "fnExactLawnText", inPlace := ["internal/abi.NoEscape"], unfollowed := true, recurses := true, plainKeys := false, apart := false, narrowed := true }
def FnExactLawnTextUptoSaid : Prop := fnExactLawnTextUptoRow.holds Try.pinned (OpenSpec.upto fnExactLawnTextSpec)

/-- 'laws.FnExactPiecesOf', WHERE WHAT IT READS IS OF BULK AT MOST 1048576: true; the input reads as it did. -/
def fnExactPiecesOfUptoRow : OpenClaim := { program := "ytlfmadnhjleofaa", sum := "4ffac525cbc66e1d03e9b28643dc2c967f31f52387ffe43330a63154c0268823", func := "loop.example/g01405/laws.FnExactPiecesOf", spec := "fnExactPiecesOf", unfollowed := true, recurses := true, plainKeys := false, apart := false, narrowed := true }
def FnExactPiecesOfUptoSaid : Prop := fnExactPiecesOfUptoRow.holds Try.pinned (OpenSpec.upto fnExactPiecesOfSpec)

/-- 'laws.FnExactHomeFrom', WHERE WHAT IT READS IS OF BULK AT MOST 1048576: true; the input reads as it did. -/
def fnExactHomeFromUptoRow : OpenClaim := { program := "ytlfmadnhjleofaa", sum := "4ffac525cbc66e1d03e9b28643dc2c967f31f52387ffe43330a63154c0268823", func := "loop.example/g01405/laws.FnExactHomeFrom", spec := "fnExactHomeFrom", unfollowed := true, recurses := true, plainKeys := false, apart := false, narrowed := true }
def FnExactHomeFromUptoSaid : Prop := fnExactHomeFromUptoRow.holds Try.pinned (OpenSpec.upto fnExactHomeFromSpec)

/-- 'laws.FnExactShortestWhole', WHERE WHAT IT READS IS OF BULK AT MOST 1048576: true; the input reads as it did. -/
def fnExactShortestWholeUptoRow : OpenClaim := { program := "ytlfmadnhjleofaa", sum := "4ffac525cbc66e1d03e9b28643dc2c967f31f52387ffe43330a63154c0268823", func := "loop.example/g01405/laws.FnExactShortestWhole", spec := "fnExactShortestWhole", unfollowed := true, recurses := true, plainKeys := false, apart := false, narrowed := true }
def FnExactShortestWholeUptoSaid : Prop := fnExactShortestWholeUptoRow.holds Try.pinned (OpenSpec.upto fnExactShortestWholeSpec)

/-- 'laws.FnExactSameWeather', WHERE WHAT IT READS IS OF BULK AT MOST 1048576: true; the input reads as it did. -/
def fnExactSameWeatherUptoRow : OpenClaim := { program := "ytlfmadnhjleofaa", sum := "4ffac525cbc66e1d03e9b28643dc2c967f31f52387ffe43330a63154c0268823", func := "loop.example/g01405/laws.FnExactSameWeather", spec := "fnExactSameWeather", plainKeys := false, apart := false, narrowed := true }
def FnExactSameWeatherUptoSaid : Prop := fnExactSameWeatherUptoRow.holds Try.pinned (OpenSpec.upto fnExactSameWeatherSpec)

/-- 'laws.FnExactBoxesFor', WHERE WHAT IT READS IS OF BULK AT MOST 1048576: true; the input reads as it did. -/
def fnExactBoxesForUptoRow : OpenClaim := { program := "ytlfmadnhjleofaa", sum := "4ffac525cbc66e1d03e9b28643dc2c967f31f52387ffe43330a63154c0268823", func := "loop.example/g01405/laws.FnExactBoxesFor", spec := "fnExactBoxesFor", unfollowed := true, recurses := true, plainKeys := false, apart := false, narrowed := true }
def FnExactBoxesForUptoSaid : Prop := fnExactBoxesForUptoRow.holds Try.pinned (OpenSpec.upto fnExactBoxesForSpec)

end Rows
end Go.Proofs.Ytlfmadnhjleofaa
