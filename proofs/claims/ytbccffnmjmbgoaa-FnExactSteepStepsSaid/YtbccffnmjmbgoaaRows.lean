/-
  No cell of these rows narrows 'for every input' (looked for: loops, veiled, ifaces, maps, wideKeys, modest, calm, conditions, laid).
  DERIVED. THE GIVEN ROWS OF THIS SEAT. 8 by the template 'for every input the law returns true; each argument reads behind the call as it read before'; 0 by the template 'total and deterministic' (their statements: YtbccffnmjmbgoaaTotals.lean).
  GIVEN WITH THE SEED: the statements are not yours to turn. If you find one false, say at which input.
  Laid BY PROGRAM, IN A SANDBOX (cutbox-rows.mjs): the forced cells as the released guide's own fill.sh prints them over the translation 1c70648a5a6f5cb1… (all of the seat's roots in one cut). By AI agents, Wed Nov 11 2026. No macro, syntax, notation, axiom, sorry.
-/
import Derived.Test.YtbccffnmjmbgoaaChecked
import GoSem.Claim
import GoSem.ClaimJoined
import GoSem.ClaimMapViews
import Derived.JoinedTies
import Derived.KernelRfl
namespace Go.Proofs.Ytbccffnmjmbgoaa
/- THE CELL 'sum', in the pinned program and in every row, IS THE sha256 OF THE DUMP (.gsa) THAT YtbccffnmjmbgoaaProg.lean LOADS. Nothing in Lean hashes anything: it is a label: what it is worth is what the hold of that sum in a sandbox is worth. -/
noncomputable def Try.pinned : Pinned := { name := "ytbccffnmjmbgoaa", sum := "1c70648a5a6f5cb10b737056acf2c8274bc27b847f4a53d00f07f7084ad7032f", checked := Try.checked }
namespace Rows
def none {H : Type} : Left H := { results := [], args := [] }

/-- 'laws.FnExactValidLevels': WHATEVER THE INPUT: true; the input reads as it did. -/
def fnExactValidLevelsSpec : ChangeSpec := { name := "fnExactValidLevels", fn := fun _ => fun
  | [d1, d2] => { results := [.lit (.bool true)], args := [d1, d2] }
  | _ => none }
def fnExactValidLevelsRow : OpenClaim := { program := "ytbccffnmjmbgoaa", sum := "1c70648a5a6f5cb10b737056acf2c8274bc27b847f4a53d00f07f7084ad7032f", func := "loop.example/g01405/laws.FnExactValidLevels", spec := "fnExactValidLevels", unfollowed := true, recurses := true, apart := false }
def FnExactValidLevelsSaid : Prop := fnExactValidLevelsRow.holds Try.pinned (OpenSpec.ofChange fnExactValidLevelsSpec)

/-- ITS FALSE NEIGHBOUR: 'it returns false'. Refute it at one input. -/
def fnExactValidLevelsWrong : ChangeSpec := { name := "fnExactValidLevels", fn := fun _ => fun
  | [d1, d2] => { results := [.lit (.bool false)], args := [d1, d2] }
  | _ => none }
def FnExactValidLevelsWrongFalsely : Prop := fnExactValidLevelsRow.holds Try.pinned (OpenSpec.ofChange fnExactValidLevelsWrong)

/-- 'laws.FnExactSoilSum': WHATEVER THE INPUT: true; the input reads as it did. -/
def fnExactSoilSumSpec : ChangeSpec := { name := "fnExactSoilSum", fn := fun _ => fun
  | [d1, d2] => { results := [.lit (.bool true)], args := [d1, d2] }
  | _ => none }
def fnExactSoilSumRow : OpenClaim := { program := "ytbccffnmjmbgoaa", sum := "1c70648a5a6f5cb10b737056acf2c8274bc27b847f4a53d00f07f7084ad7032f", func := "loop.example/g01405/laws.FnExactSoilSum", spec := "fnExactSoilSum", unfollowed := true, recurses := true, apart := false }
def FnExactSoilSumSaid : Prop := fnExactSoilSumRow.holds Try.pinned (OpenSpec.ofChange fnExactSoilSumSpec)

/-- ITS FALSE NEIGHBOUR: 'it returns false'. Refute it at one input. -/
def fnExactSoilSumWrong : ChangeSpec := { name := "fnExactSoilSum", fn := fun _ => fun
  | [d1, d2] => { results := [.lit (.bool false)], args := [d1, d2] }
  | _ => none }
def FnExactSoilSumWrongFalsely : Prop := fnExactSoilSumRow.holds Try.pinned (OpenSpec.ofChange fnExactSoilSumWrong)

/-- 'laws.FnExactHillsIn': WHATEVER THE INPUT: true; the input reads as it did. -/
def fnExactHillsInSpec : ChangeSpec := { name := "fnExactHillsIn", fn := fun _ => fun
  | [d1, d2, d3] => { results := [.lit (.bool true)], args := [d1, d2, d3] }
  | _ => none }
def fnExactHillsInRow : OpenClaim := { program := "ytbccffnmjmbgoaa", sum := "1c70648a5a6f5cb10b737056acf2c8274bc27b847f4a53d00f07f7084ad7032f", func := "loop.example/g01405/laws.FnExactHillsIn", spec := "fnExactHillsIn", unfollowed := true, recurses := true, apart := false }
def FnExactHillsInSaid : Prop := fnExactHillsInRow.holds Try.pinned (OpenSpec.ofChange fnExactHillsInSpec)

/-- ITS FALSE NEIGHBOUR: 'it returns false'. Refute it at one input. -/
def fnExactHillsInWrong : ChangeSpec := { name := "fnExactHillsIn", fn := fun _ => fun
  | [d1, d2, d3] => { results := [.lit (.bool false)], args := [d1, d2, d3] }
  | _ => none }
def FnExactHillsInWrongFalsely : Prop := fnExactHillsInRow.holds Try.pinned (OpenSpec.ofChange fnExactHillsInWrong)

/-- 'laws.FnExactHighestCell': WHATEVER THE INPUT: true; the input reads as it did. -/
def fnExactHighestCellSpec : ChangeSpec := { name := "fnExactHighestCell", fn := fun _ => fun
  | [d1, d2] => { results := [.lit (.bool true)], args := [d1, d2] }
  | _ => none }
def fnExactHighestCellRow : OpenClaim := { program := "ytbccffnmjmbgoaa", sum := "1c70648a5a6f5cb10b737056acf2c8274bc27b847f4a53d00f07f7084ad7032f", func := "loop.example/g01405/laws.FnExactHighestCell", spec := "fnExactHighestCell", unfollowed := true, recurses := true, apart := false }
def FnExactHighestCellSaid : Prop := fnExactHighestCellRow.holds Try.pinned (OpenSpec.ofChange fnExactHighestCellSpec)

/-- ITS FALSE NEIGHBOUR: 'it returns false'. Refute it at one input. -/
def fnExactHighestCellWrong : ChangeSpec := { name := "fnExactHighestCell", fn := fun _ => fun
  | [d1, d2] => { results := [.lit (.bool false)], args := [d1, d2] }
  | _ => none }
def FnExactHighestCellWrongFalsely : Prop := fnExactHighestCellRow.holds Try.pinned (OpenSpec.ofChange fnExactHighestCellWrong)

/-- 'laws.FnExactSteepSteps': WHATEVER THE INPUT: true; the input reads as it did. -/
def fnExactSteepStepsSpec : ChangeSpec := { name := "fnExactSteepSteps", fn := fun _ => fun
  | [d1, d2, d3] => { results := [.lit (.bool true)], args := [d1, d2, d3] }
  | _ => none }
def fnExactSteepStepsRow : OpenClaim := { program := "ytbccffnmjmbgoaa", sum := "1c70648a5a6f5cb10b737056acf2c8274bc27b847f4a53d00f07f7084ad7032f", func := "loop.example/g01405/laws.FnExactSteepSteps", spec := "fnExactSteepSteps", unfollowed := true, recurses := true, apart := false }
def FnExactSteepStepsSaid : Prop := fnExactSteepStepsRow.holds Try.pinned (OpenSpec.ofChange fnExactSteepStepsSpec)

/-- ITS FALSE NEIGHBOUR: 'it returns false'. Refute it at one input. -/
def fnExactSteepStepsWrong : ChangeSpec := { name := "fnExactSteepSteps", fn := fun _ => fun
  | [d1, d2, d3] => { results := [.lit (.bool false)], args := [d1, d2, d3] }
  | _ => none }
def FnExactSteepStepsWrongFalsely : Prop := fnExactSteepStepsRow.holds Try.pinned (OpenSpec.ofChange fnExactSteepStepsWrong)

/-- 'laws.FnExactEvenLevels': WHATEVER THE INPUT: true; the input reads as it did. -/
def fnExactEvenLevelsSpec : ChangeSpec := { name := "fnExactEvenLevels", fn := fun _ => fun
  | [d1, d2] => { results := [.lit (.bool true)], args := [d1, d2] }
  | _ => none }
def fnExactEvenLevelsRow : OpenClaim := { program := "ytbccffnmjmbgoaa", sum := "1c70648a5a6f5cb10b737056acf2c8274bc27b847f4a53d00f07f7084ad7032f", func := "loop.example/g01405/laws.FnExactEvenLevels", spec := "fnExactEvenLevels", unfollowed := true, recurses := true, apart := false }
def FnExactEvenLevelsSaid : Prop := fnExactEvenLevelsRow.holds Try.pinned (OpenSpec.ofChange fnExactEvenLevelsSpec)

/-- ITS FALSE NEIGHBOUR: 'it returns false'. Refute it at one input. -/
def fnExactEvenLevelsWrong : ChangeSpec := { name := "fnExactEvenLevels", fn := fun _ => fun
  | [d1, d2] => { results := [.lit (.bool false)], args := [d1, d2] }
  | _ => none }
def FnExactEvenLevelsWrongFalsely : Prop := fnExactEvenLevelsRow.holds Try.pinned (OpenSpec.ofChange fnExactEvenLevelsWrong)

/-- 'laws.FnExactRollRow': WHATEVER THE INPUT: true; the input reads as it did. -/
def fnExactRollRowSpec : ChangeSpec := { name := "fnExactRollRow", fn := fun _ => fun
  | [d1, d2, d3] => { results := [.lit (.bool true)], args := [d1, d2, d3] }
  | _ => none }
def fnExactRollRowRow : OpenClaim := { program := "ytbccffnmjmbgoaa", sum := "1c70648a5a6f5cb10b737056acf2c8274bc27b847f4a53d00f07f7084ad7032f", func := "loop.example/g01405/laws.FnExactRollRow", spec := "fnExactRollRow", unfollowed := true, recurses := true, apart := false }
def FnExactRollRowSaid : Prop := fnExactRollRowRow.holds Try.pinned (OpenSpec.ofChange fnExactRollRowSpec)

/-- ITS FALSE NEIGHBOUR: 'it returns false'. Refute it at one input. -/
def fnExactRollRowWrong : ChangeSpec := { name := "fnExactRollRow", fn := fun _ => fun
  | [d1, d2, d3] => { results := [.lit (.bool false)], args := [d1, d2, d3] }
  | _ => none }
def FnExactRollRowWrongFalsely : Prop := fnExactRollRowRow.holds Try.pinned (OpenSpec.ofChange fnExactRollRowWrong)

/-- 'laws.FnExactMirrorLevels': WHATEVER THE INPUT: true; the input reads as it did. -/
def fnExactMirrorLevelsSpec : ChangeSpec := { name := "fnExactMirrorLevels", fn := fun _ => fun
  | [d1, d2] => { results := [.lit (.bool true)], args := [d1, d2] }
  | _ => none }
def fnExactMirrorLevelsRow : OpenClaim := { program := "ytbccffnmjmbgoaa", sum := "1c70648a5a6f5cb10b737056acf2c8274bc27b847f4a53d00f07f7084ad7032f", func := "loop.example/g01405/laws.FnExactMirrorLevels", spec := "fnExactMirrorLevels", unfollowed := true, recurses := true, apart := false }
def FnExactMirrorLevelsSaid : Prop := fnExactMirrorLevelsRow.holds Try.pinned (OpenSpec.ofChange fnExactMirrorLevelsSpec)

/-- ITS FALSE NEIGHBOUR: 'it returns false'. Refute it at one input. -/
def fnExactMirrorLevelsWrong : ChangeSpec := { name := "fnExactMirrorLevels", fn := fun _ => fun
  | [d1, d2] => { results := [.lit (.bool false)], args := [d1, d2] }
  | _ => none }
def FnExactMirrorLevelsWrongFalsely : Prop := fnExactMirrorLevelsRow.holds Try.pinned (OpenSpec.ofChange fnExactMirrorLevelsWrong)

/- THE SECOND FORM. 'bulk': how many values and letters a reading holds, each counted each time it is reached (what is shared counts as often as it is met; a slice's spare places count too). A statement '..UptoSaid' is the law's where the arguments, and the package variables that the reading takes, are together of bulk at most 1048576: NARROWER than '..Said'. Prove '..Said' where nothing that the law and all that it calls make is longer than what came in: it says more and counts as full. Else prove '..UptoSaid'. A law counts once. -/
mutual
def uptoBulk {H : Type} : DataW H → Nat
  | .lit (.string bytes) => bytes.length + 1
  | .lit _ => 1
  | .nil => 1
  | .ptr d => uptoBulk d + 1
  | .slice elems spare => uptoBulkAll elems + uptoBulkAll spare + 1
  | .agg parts => uptoBulkAll parts + 1
  | .iface _ d => uptoBulk d + 1
  | .map entries => uptoBulkEntries entries + 1
  | .held _ => 1
def uptoBulkAll {H : Type} : List (DataW H) → Nat
  | [] => 0
  | d :: r => uptoBulk d + uptoBulkAll r
def uptoBulkEntries {H : Type} : List (Lit × DataW H) → Nat
  | [] => 0
  | x :: r => uptoBulkEntry x + uptoBulkEntries r
def uptoBulkEntry {H : Type} : Lit × DataW H → Nat
  | (.string bytes, d) => bytes.length + uptoBulk d + 1
  | (_, d) => uptoBulk d + 1
 end
def uptoSmall : (H : Type) → List (DataW H) → Bool := fun _ ds => decide (uptoBulkAll ds ≤ 1048576)
def OpenSpec.upto (s : _root_.Go.ChangeSpec) : _root_.Go.OpenSpec := { _root_.Go.OpenSpec.ofChange s with cond := some uptoSmall }

/-- 'laws.FnExactValidLevels', WHERE WHAT IT READS IS OF BULK AT MOST 1048576: true; the input reads as it did. -/
def fnExactValidLevelsUptoRow : OpenClaim := { program := "ytbccffnmjmbgoaa", sum := "1c70648a5a6f5cb10b737056acf2c8274bc27b847f4a53d00f07f7084ad7032f", func := "loop.example/g01405/laws.FnExactValidLevels", spec := "fnExactValidLevels", unfollowed := true, recurses := true, apart := false, narrowed := true }
def FnExactValidLevelsUptoSaid : Prop := fnExactValidLevelsUptoRow.holds Try.pinned (OpenSpec.upto fnExactValidLevelsSpec)

/-- 'laws.FnExactSoilSum', WHERE WHAT IT READS IS OF BULK AT MOST 1048576: true; the input reads as it did. -/
def fnExactSoilSumUptoRow : OpenClaim := { program := "ytbccffnmjmbgoaa", sum := "1c70648a5a6f5cb10b737056acf2c8274bc27b847f4a53d00f07f7084ad7032f", func := "loop.example/g01405/laws.FnExactSoilSum", spec := "fnExactSoilSum", unfollowed := true, recurses := true, apart := false, narrowed := true }
def FnExactSoilSumUptoSaid : Prop := fnExactSoilSumUptoRow.holds Try.pinned (OpenSpec.upto fnExactSoilSumSpec)

/-- 'laws.FnExactHillsIn', WHERE WHAT IT READS IS OF BULK AT MOST 1048576: true; the input reads as it did. -/
def fnExactHillsInUptoRow : OpenClaim := { program := "ytbccffnmjmbgoaa", sum := "1c70648a5a6f5cb10b737056acf2c8274bc27b847f4a53d00f07f7084ad7032f", func := "loop.example/g01405/laws.FnExactHillsIn", spec := "fnExactHillsIn", unfollowed := true, recurses := true, apart := false, narrowed := true }
def FnExactHillsInUptoSaid : Prop := fnExactHillsInUptoRow.holds Try.pinned (OpenSpec.upto fnExactHillsInSpec)

/-- 'laws.FnExactHighestCell', WHERE WHAT IT READS IS OF BULK AT MOST 1048576: true; the input reads as it did. -/
def fnExactHighestCellUptoRow : OpenClaim := { program := "ytbccffnmjmbgoaa", sum := "1c70648a5a6f5cb10b737056acf2c8274bc27b847f4a53d00f07f7084ad7032f", func := "loop.example/g01405/laws.FnExactHighestCell", spec := "fnExactHighestCell", unfollowed := true, recurses := true, apart := false, narrowed := true }
def FnExactHighestCellUptoSaid : Prop := fnExactHighestCellUptoRow.holds Try.pinned (OpenSpec.upto fnExactHighestCellSpec)

/-- 'laws.FnExactSteepSteps', WHERE WHAT IT READS IS OF BULK AT MOST 1048576: true; the input reads as it did. -/
def fnExactSteepStepsUptoRow : OpenClaim := { program := "ytbccffnmjmbgoaa", sum := "1c70648a5a6f5cb10b737056acf2c8274bc27b847f4a53d00f07f7084ad7032f", func := "loop.example/g01405/laws.FnExactSteepSteps", spec := "fnExactSteepSteps", unfollowed := true, recurses := true, apart := false, narrowed := true }
def FnExactSteepStepsUptoSaid : Prop := fnExactSteepStepsUptoRow.holds Try.pinned (OpenSpec.upto fnExactSteepStepsSpec)

/-- 'laws.FnExactEvenLevels', WHERE WHAT IT READS IS OF BULK AT MOST 1048576: true; the input reads as it did. -/
def fnExactEvenLevelsUptoRow : OpenClaim := { program := "ytbccffnmjmbgoaa", sum := "1c70648a5a6f5cb10b737056acf2c8274bc27b847f4a53d00f07f7084ad7032f", func := "loop.example/g01405/laws.FnExactEvenLevels", spec := "fnExactEvenLevels", unfollowed := true, recurses := true, apart := false, narrowed := true }
def FnExactEvenLevelsUptoSaid : Prop := fnExactEvenLevelsUptoRow.holds Try.pinned (OpenSpec.upto fnExactEvenLevelsSpec)

/-- 'laws.FnExactRollRow', WHERE WHAT IT READS IS OF BULK AT MOST 1048576: true; the input reads as it did. -/
def fnExactRollRowUptoRow : OpenClaim := { program := "ytbccffnmjmbgoaa", sum := "1c70648a5a6f5cb10b737056acf2c8274bc27b847f4a53d00f07f7084ad7032f", func := "loop.example/g01405/laws.FnExactRollRow", spec := "fnExactRollRow", unfollowed := true, recurses := true, apart := false, narrowed := true }
def FnExactRollRowUptoSaid : Prop := fnExactRollRowUptoRow.holds Try.pinned (OpenSpec.upto fnExactRollRowSpec)

/-- 'laws.FnExactMirrorLevels', WHERE WHAT IT READS IS OF BULK AT MOST 1048576: true; the input reads as it did. -/
def fnExactMirrorLevelsUptoRow : OpenClaim := { program := "ytbccffnmjmbgoaa", sum := "1c70648a5a6f5cb10b737056acf2c8274bc27b847f4a53d00f07f7084ad7032f", func := "loop.example/g01405/laws.FnExactMirrorLevels", spec := "fnExactMirrorLevels", unfollowed := true, recurses := true, apart := false, narrowed := true }
def FnExactMirrorLevelsUptoSaid : Prop := fnExactMirrorLevelsUptoRow.holds Try.pinned (OpenSpec.upto fnExactMirrorLevelsSpec)

end Rows
end Go.Proofs.Ytbccffnmjmbgoaa
