/-
  No cell of these rows narrows 'for every input' (looked for: loops, veiled, ifaces, maps, wideKeys, modest, calm, conditions, laid).
  DERIVED. THE GIVEN ROWS OF THIS SEAT. 12 by the template 'for every input the law returns true; each argument reads behind the call as it read before'; 0 by the template 'total and deterministic' (their statements: YthpfejbigdjhlaaTotals.lean).
  GIVEN WITH THE SEED: the statements are not yours to turn. If you find one false, say at which input.
  Laid BY PROGRAM, IN A SANDBOX (cutbox-rows.mjs): the forced cells as the released guide's own fill.sh prints them over the translation 0bf77a1bc1f5f23e… (all of the seat's roots in one cut). By AI agents, Wed Nov 11 2026. No macro, syntax, notation, axiom, sorry.
-/
import Derived.Test.YthpfejbigdjhlaaChecked
import GoSem.Claim
import GoSem.ClaimJoined
import GoSem.ClaimMapViews
import Derived.JoinedTies
import Derived.KernelRfl
namespace Go.Proofs.Ythpfejbigdjhlaa
/- THE CELL 'sum', in the pinned program and in every row, IS THE sha256 OF THE DUMP (.gsa) THAT YthpfejbigdjhlaaProg.lean LOADS. Nothing in Lean hashes anything: it is a label: what it is worth is what the hold of that sum in a sandbox is worth. -/
noncomputable def Try.pinned : Pinned := { name := "ythpfejbigdjhlaa", sum := "0bf77a1bc1f5f23e520bc9a78d62e3914391053c9663a82dea4637ab807752e3", checked := Try.checked }
namespace Rows
def none {H : Type} : Left H := { results := [], args := [] }

/-- 'laws.FnExactSidesOf': WHATEVER THE INPUT: true; the input reads as it did. -/
def fnExactSidesOfSpec : ChangeSpec := { name := "fnExactSidesOf", fn := fun _ => fun
  | [d] => { results := [.lit (.bool true)], args := [d] }
  | _ => none }
def fnExactSidesOfRow : OpenClaim := { program := "ythpfejbigdjhlaa", sum := "0bf77a1bc1f5f23e520bc9a78d62e3914391053c9663a82dea4637ab807752e3", func := "loop.example/g01405/laws.FnExactSidesOf", spec := "fnExactSidesOf", unfollowed := true, recurses := true, apart := false }
def FnExactSidesOfSaid : Prop := fnExactSidesOfRow.holds Try.pinned (OpenSpec.ofChange fnExactSidesOfSpec)

/-- ITS FALSE NEIGHBOUR: 'it returns false'. Refute it at one input. -/
def fnExactSidesOfWrong : ChangeSpec := { name := "fnExactSidesOf", fn := fun _ => fun
  | [d] => { results := [.lit (.bool false)], args := [d] }
  | _ => none }
def FnExactSidesOfWrongFalsely : Prop := fnExactSidesOfRow.holds Try.pinned (OpenSpec.ofChange fnExactSidesOfWrong)

/-- 'laws.FnExactEdgeLong': WHATEVER THE INPUT: true; the input reads as it did. -/
def fnExactEdgeLongSpec : ChangeSpec := { name := "fnExactEdgeLong", fn := fun _ => fun
  | [d] => { results := [.lit (.bool true)], args := [d] }
  | _ => none }
def fnExactEdgeLongRow : OpenClaim := { program := "ythpfejbigdjhlaa", sum := "0bf77a1bc1f5f23e520bc9a78d62e3914391053c9663a82dea4637ab807752e3", func := "loop.example/g01405/laws.FnExactEdgeLong", spec := "fnExactEdgeLong", unfollowed := true, recurses := true, apart := false }
def FnExactEdgeLongSaid : Prop := fnExactEdgeLongRow.holds Try.pinned (OpenSpec.ofChange fnExactEdgeLongSpec)

/-- ITS FALSE NEIGHBOUR: 'it returns false'. Refute it at one input. -/
def fnExactEdgeLongWrong : ChangeSpec := { name := "fnExactEdgeLong", fn := fun _ => fun
  | [d] => { results := [.lit (.bool false)], args := [d] }
  | _ => none }
def FnExactEdgeLongWrongFalsely : Prop := fnExactEdgeLongRow.holds Try.pinned (OpenSpec.ofChange fnExactEdgeLongWrong)

/-- 'laws.FnExactSidesAt': WHATEVER THE INPUT: true; the input reads as it did. -/
def fnExactSidesAtSpec : ChangeSpec := { name := "fnExactSidesAt", fn := fun _ => fun
  | [d1, d2] => { results := [.lit (.bool true)], args := [d1, d2] }
  | _ => none }
def fnExactSidesAtRow : OpenClaim := { program := "ythpfejbigdjhlaa", sum := "0bf77a1bc1f5f23e520bc9a78d62e3914391053c9663a82dea4637ab807752e3", func := "loop.example/g01405/laws.FnExactSidesAt", spec := "fnExactSidesAt", unfollowed := true, recurses := true, apart := false }
def FnExactSidesAtSaid : Prop := fnExactSidesAtRow.holds Try.pinned (OpenSpec.ofChange fnExactSidesAtSpec)

/-- ITS FALSE NEIGHBOUR: 'it returns false'. Refute it at one input. -/
def fnExactSidesAtWrong : ChangeSpec := { name := "fnExactSidesAt", fn := fun _ => fun
  | [d1, d2] => { results := [.lit (.bool false)], args := [d1, d2] }
  | _ => none }
def FnExactSidesAtWrongFalsely : Prop := fnExactSidesAtRow.holds Try.pinned (OpenSpec.ofChange fnExactSidesAtWrong)

/-- 'laws.FnExactCornersOf': WHATEVER THE INPUT: true; the input reads as it did. -/
def fnExactCornersOfSpec : ChangeSpec := { name := "fnExactCornersOf", fn := fun _ => fun
  | [d] => { results := [.lit (.bool true)], args := [d] }
  | _ => none }
def fnExactCornersOfRow : OpenClaim := { program := "ythpfejbigdjhlaa", sum := "0bf77a1bc1f5f23e520bc9a78d62e3914391053c9663a82dea4637ab807752e3", func := "loop.example/g01405/laws.FnExactCornersOf", spec := "fnExactCornersOf", unfollowed := true, recurses := true, apart := false }
def FnExactCornersOfSaid : Prop := fnExactCornersOfRow.holds Try.pinned (OpenSpec.ofChange fnExactCornersOfSpec)

/-- ITS FALSE NEIGHBOUR: 'it returns false'. Refute it at one input. -/
def fnExactCornersOfWrong : ChangeSpec := { name := "fnExactCornersOf", fn := fun _ => fun
  | [d] => { results := [.lit (.bool false)], args := [d] }
  | _ => none }
def FnExactCornersOfWrongFalsely : Prop := fnExactCornersOfRow.holds Try.pinned (OpenSpec.ofChange fnExactCornersOfWrong)

/-- 'laws.FnExactValidWear': WHATEVER THE INPUT: true; the input reads as it did. -/
def fnExactValidWearSpec : ChangeSpec := { name := "fnExactValidWear", fn := fun _ => fun
  | [d] => { results := [.lit (.bool true)], args := [d] }
  | _ => none }
def fnExactValidWearRow : OpenClaim := { program := "ythpfejbigdjhlaa", sum := "0bf77a1bc1f5f23e520bc9a78d62e3914391053c9663a82dea4637ab807752e3", func := "loop.example/g01405/laws.FnExactValidWear", spec := "fnExactValidWear", apart := false }
def FnExactValidWearSaid : Prop := fnExactValidWearRow.holds Try.pinned (OpenSpec.ofChange fnExactValidWearSpec)

/-- ITS FALSE NEIGHBOUR: 'it returns false'. Refute it at one input. -/
def fnExactValidWearWrong : ChangeSpec := { name := "fnExactValidWear", fn := fun _ => fun
  | [d] => { results := [.lit (.bool false)], args := [d] }
  | _ => none }
def FnExactValidWearWrongFalsely : Prop := fnExactValidWearRow.holds Try.pinned (OpenSpec.ofChange fnExactValidWearWrong)

/-- 'laws.FnExactLineFor': WHATEVER THE INPUT: true; the input reads as it did. -/
def fnExactLineForSpec : ChangeSpec := { name := "fnExactLineFor", fn := fun _ => fun
  | [d1, d2] => { results := [.lit (.bool true)], args := [d1, d2] }
  | _ => none }
def fnExactLineForRow : OpenClaim := { program := "ythpfejbigdjhlaa", sum := "0bf77a1bc1f5f23e520bc9a78d62e3914391053c9663a82dea4637ab807752e3", func := "loop.example/g01405/laws.FnExactLineFor", spec := "fnExactLineFor", unfollowed := true, recurses := true, apart := false }
def FnExactLineForSaid : Prop := fnExactLineForRow.holds Try.pinned (OpenSpec.ofChange fnExactLineForSpec)

/-- ITS FALSE NEIGHBOUR: 'it returns false'. Refute it at one input. -/
def fnExactLineForWrong : ChangeSpec := { name := "fnExactLineFor", fn := fun _ => fun
  | [d1, d2] => { results := [.lit (.bool false)], args := [d1, d2] }
  | _ => none }
def FnExactLineForWrongFalsely : Prop := fnExactLineForRow.holds Try.pinned (OpenSpec.ofChange fnExactLineForWrong)

/-- 'laws.FnExactSpoolsFor': WHATEVER THE INPUT: true; the input reads as it did. -/
def fnExactSpoolsForSpec : ChangeSpec := { name := "fnExactSpoolsFor", fn := fun _ => fun
  | [d1, d2, d3] => { results := [.lit (.bool true)], args := [d1, d2, d3] }
  | _ => none }
def fnExactSpoolsForRow : OpenClaim := { program := "ythpfejbigdjhlaa", sum := "0bf77a1bc1f5f23e520bc9a78d62e3914391053c9663a82dea4637ab807752e3", func := "loop.example/g01405/laws.FnExactSpoolsFor", spec := "fnExactSpoolsFor", unfollowed := true, recurses := true, apart := false }
def FnExactSpoolsForSaid : Prop := fnExactSpoolsForRow.holds Try.pinned (OpenSpec.ofChange fnExactSpoolsForSpec)

/-- ITS FALSE NEIGHBOUR: 'it returns false'. Refute it at one input. -/
def fnExactSpoolsForWrong : ChangeSpec := { name := "fnExactSpoolsFor", fn := fun _ => fun
  | [d1, d2, d3] => { results := [.lit (.bool false)], args := [d1, d2, d3] }
  | _ => none }
def FnExactSpoolsForWrongFalsely : Prop := fnExactSpoolsForRow.holds Try.pinned (OpenSpec.ofChange fnExactSpoolsForWrong)

/-- 'laws.FnExactBorderOf': WHATEVER THE INPUT: true; the input reads as it did. -/
def fnExactBorderOfSpec : ChangeSpec := { name := "fnExactBorderOf", fn := fun _ => fun
  | [d] => { results := [.lit (.bool true)], args := [d] }
  | _ => none }
def fnExactBorderOfRow : OpenClaim := { program := "ythpfejbigdjhlaa", sum := "0bf77a1bc1f5f23e520bc9a78d62e3914391053c9663a82dea4637ab807752e3", func := "loop.example/g01405/laws.FnExactBorderOf", spec := "fnExactBorderOf", unfollowed := true, recurses := true, apart := false }
def FnExactBorderOfSaid : Prop := fnExactBorderOfRow.holds Try.pinned (OpenSpec.ofChange fnExactBorderOfSpec)

/-- ITS FALSE NEIGHBOUR: 'it returns false'. Refute it at one input. -/
def fnExactBorderOfWrong : ChangeSpec := { name := "fnExactBorderOf", fn := fun _ => fun
  | [d] => { results := [.lit (.bool false)], args := [d] }
  | _ => none }
def FnExactBorderOfWrongFalsely : Prop := fnExactBorderOfRow.holds Try.pinned (OpenSpec.ofChange fnExactBorderOfWrong)

/-- 'laws.FnExactInnerOf': WHATEVER THE INPUT: true; the input reads as it did. -/
def fnExactInnerOfSpec : ChangeSpec := { name := "fnExactInnerOf", fn := fun _ => fun
  | [d] => { results := [.lit (.bool true)], args := [d] }
  | _ => none }
def fnExactInnerOfRow : OpenClaim := { program := "ythpfejbigdjhlaa", sum := "0bf77a1bc1f5f23e520bc9a78d62e3914391053c9663a82dea4637ab807752e3", func := "loop.example/g01405/laws.FnExactInnerOf", spec := "fnExactInnerOf", unfollowed := true, recurses := true, apart := false }
def FnExactInnerOfSaid : Prop := fnExactInnerOfRow.holds Try.pinned (OpenSpec.ofChange fnExactInnerOfSpec)

/-- ITS FALSE NEIGHBOUR: 'it returns false'. Refute it at one input. -/
def fnExactInnerOfWrong : ChangeSpec := { name := "fnExactInnerOf", fn := fun _ => fun
  | [d] => { results := [.lit (.bool false)], args := [d] }
  | _ => none }
def FnExactInnerOfWrongFalsely : Prop := fnExactInnerOfRow.holds Try.pinned (OpenSpec.ofChange fnExactInnerOfWrong)

/-- 'laws.FnExactCutStrips': WHATEVER THE INPUT: true; the input reads as it did. -/
def fnExactCutStripsSpec : ChangeSpec := { name := "fnExactCutStrips", fn := fun _ => fun
  | [d1, d2] => { results := [.lit (.bool true)], args := [d1, d2] }
  | _ => none }
def fnExactCutStripsRow : OpenClaim := { program := "ythpfejbigdjhlaa", sum := "0bf77a1bc1f5f23e520bc9a78d62e3914391053c9663a82dea4637ab807752e3", func := "loop.example/g01405/laws.FnExactCutStrips", spec := "fnExactCutStrips", apart := false }
def FnExactCutStripsSaid : Prop := fnExactCutStripsRow.holds Try.pinned (OpenSpec.ofChange fnExactCutStripsSpec)

/-- ITS FALSE NEIGHBOUR: 'it returns false'. Refute it at one input. -/
def fnExactCutStripsWrong : ChangeSpec := { name := "fnExactCutStrips", fn := fun _ => fun
  | [d1, d2] => { results := [.lit (.bool false)], args := [d1, d2] }
  | _ => none }
def FnExactCutStripsWrongFalsely : Prop := fnExactCutStripsRow.holds Try.pinned (OpenSpec.ofChange fnExactCutStripsWrong)

/-- 'laws.FnExactGiveUp': WHATEVER THE INPUT: true; the input reads as it did. -/
def fnExactGiveUpSpec : ChangeSpec := { name := "fnExactGiveUp", fn := fun _ => fun
  | [d] => { results := [.lit (.bool true)], args := [d] }
  | _ => none }
def fnExactGiveUpRow : OpenClaim := { program := "ythpfejbigdjhlaa", sum := "0bf77a1bc1f5f23e520bc9a78d62e3914391053c9663a82dea4637ab807752e3", func := "loop.example/g01405/laws.FnExactGiveUp", spec := "fnExactGiveUp", unfollowed := true, recurses := true, apart := false }
def FnExactGiveUpSaid : Prop := fnExactGiveUpRow.holds Try.pinned (OpenSpec.ofChange fnExactGiveUpSpec)

/-- ITS FALSE NEIGHBOUR: 'it returns false'. Refute it at one input. -/
def fnExactGiveUpWrong : ChangeSpec := { name := "fnExactGiveUp", fn := fun _ => fun
  | [d] => { results := [.lit (.bool false)], args := [d] }
  | _ => none }
def FnExactGiveUpWrongFalsely : Prop := fnExactGiveUpRow.holds Try.pinned (OpenSpec.ofChange fnExactGiveUpWrong)

/-- 'laws.FnExactPlantAt': WHATEVER THE INPUT: true; the input reads as it did. -/
def fnExactPlantAtSpec : ChangeSpec := { name := "fnExactPlantAt", fn := fun _ => fun
  | [d] => { results := [.lit (.bool true)], args := [d] }
  | _ => none }
def fnExactPlantAtRow : OpenClaim := { program := "ythpfejbigdjhlaa", sum := "0bf77a1bc1f5f23e520bc9a78d62e3914391053c9663a82dea4637ab807752e3", func := "loop.example/g01405/laws.FnExactPlantAt", spec := "fnExactPlantAt", unfollowed := true, recurses := true, apart := false }
def FnExactPlantAtSaid : Prop := fnExactPlantAtRow.holds Try.pinned (OpenSpec.ofChange fnExactPlantAtSpec)

/-- ITS FALSE NEIGHBOUR: 'it returns false'. Refute it at one input. -/
def fnExactPlantAtWrong : ChangeSpec := { name := "fnExactPlantAt", fn := fun _ => fun
  | [d] => { results := [.lit (.bool false)], args := [d] }
  | _ => none }
def FnExactPlantAtWrongFalsely : Prop := fnExactPlantAtRow.holds Try.pinned (OpenSpec.ofChange fnExactPlantAtWrong)

/- THE SECOND FORM. 'bulk': how many values and letters a reading holds, each counted each time it is reached (what is shared counts as often as it is met; a slice's spare places count too). A statement '..UptoSaid' is the law's where the arguments, and the package variables that the reading takes, are together of bulk at most 1048576: NARROWER than '..Said'. Prove '..Said' where nothing that the law and all that it calls make is longer than what came in: it says more and counts as full. Else prove '..UptoSaid'. A law counts once. -/
mutual
def uptoBulk {H : Type} : DataW H → Nat
  | .lit (.string bytes) => bytes.length + 1
  | .lit _ => 1
  | .nil => 1
  | .ptr d => uptoBulk d + 1
  | .slice elems spare => uptoBulkAll elems + uptoBulkAll spare + 1
  | .agg parts => uptoBulkAll parts + 1
  | .iface _ d => uptoBulk d + 1
  | .map entries => uptoBulkEntries entries + 1
  | .held _ => 1
def uptoBulkAll {H : Type} : List (DataW H) → Nat
  | [] => 0
  | d :: r => uptoBulk d + uptoBulkAll r
def uptoBulkEntries {H : Type} : List (Lit × DataW H) → Nat
  | [] => 0
  | x :: r => uptoBulkEntry x + uptoBulkEntries r
def uptoBulkEntry {H : Type} : Lit × DataW H → Nat
  | (.string bytes, d) => bytes.length + uptoBulk d + 1
  | (_, d) => uptoBulk d + 1
 end
def uptoSmall : (H : Type) → List (DataW H) → Bool := fun _ ds => decide (uptoBulkAll ds ≤ 1048576)
def OpenSpec.upto (s : _root_.Go.ChangeSpec) : _root_.Go.OpenSpec := { _root_.Go.OpenSpec.ofChange s with cond := some uptoSmall }

/-- 'laws.FnExactSidesOf', WHERE WHAT IT READS IS OF BULK AT MOST 1048576: true; the input reads as it did. -/
def fnExactSidesOfUptoRow : OpenClaim := { program := "ythpfejbigdjhlaa", sum := "0bf77a1bc1f5f23e520bc9a78d62e3914391053c9663a82dea4637ab807752e3", func := "loop.example/g01405/laws.FnExactSidesOf", spec := "fnExactSidesOf", unfollowed := true, recurses := true, apart := false, narrowed := true }
def FnExactSidesOfUptoSaid : Prop := fnExactSidesOfUptoRow.holds Try.pinned (OpenSpec.upto fnExactSidesOfSpec)

/-- 'laws.FnExactEdgeLong', WHERE WHAT IT READS IS OF BULK AT MOST 1048576: true; the input reads as it did. -/
def fnExactEdgeLongUptoRow : OpenClaim := { program := "ythpfejbigdjhlaa", sum := "0bf77a1bc1f5f23e520bc9a78d62e3914391053c9663a82dea4637ab807752e3", func := "loop.example/g01405/laws.FnExactEdgeLong", spec := "fnExactEdgeLong", unfollowed := true, recurses := true, apart := false, narrowed := true }
def FnExactEdgeLongUptoSaid : Prop := fnExactEdgeLongUptoRow.holds Try.pinned (OpenSpec.upto fnExactEdgeLongSpec)

/-- 'laws.FnExactSidesAt', WHERE WHAT IT READS IS OF BULK AT MOST 1048576: true; the input reads as it did. -/
def fnExactSidesAtUptoRow : OpenClaim := { program := "ythpfejbigdjhlaa", sum := "0bf77a1bc1f5f23e520bc9a78d62e3914391053c9663a82dea4637ab807752e3", func := "loop.example/g01405/laws.FnExactSidesAt", spec := "fnExactSidesAt", unfollowed := true, recurses := true, apart := false, narrowed := true }
def FnExactSidesAtUptoSaid : Prop := fnExactSidesAtUptoRow.holds Try.pinned (OpenSpec.upto fnExactSidesAtSpec)

/-- 'laws.FnExactCornersOf', WHERE WHAT IT READS IS OF BULK AT MOST 1048576: true; the input reads as it did. -/
def fnExactCornersOfUptoRow : OpenClaim := { program := "ythpfejbigdjhlaa", sum := "0bf77a1bc1f5f23e520bc9a78d62e3914391053c9663a82dea4637ab807752e3", func := "loop.example/g01405/laws.FnExactCornersOf", spec := "fnExactCornersOf", unfollowed := true, recurses := true, apart := false, narrowed := true }
def FnExactCornersOfUptoSaid : Prop := fnExactCornersOfUptoRow.holds Try.pinned (OpenSpec.upto fnExactCornersOfSpec)

/-- 'laws.FnExactValidWear', WHERE WHAT IT READS IS OF BULK AT MOST 1048576: true; the input reads as it did. -/
def fnExactValidWearUptoRow : OpenClaim := { program := "ythpfejbigdjhlaa", sum := "0bf77a1bc1f5f23e520bc9a78d62e3914391053c9663a82dea4637ab807752e3", func := "loop.example/g01405/laws.FnExactValidWear", spec := "fnExactValidWear", apart := false, narrowed := true }
def FnExactValidWearUptoSaid : Prop := fnExactValidWearUptoRow.holds Try.pinned (OpenSpec.upto fnExactValidWearSpec)

/-- 'laws.FnExactLineFor', WHERE WHAT IT READS IS OF BULK AT MOST 1048576: true; the input reads as it did. -/
def fnExactLineForUptoRow : OpenClaim := { program := "ythpfejbigdjhlaa", sum := "0bf77a1bc1f5f23e520bc9a78d62e3914391053c9663a82dea4637ab807752e3", func := "loop.example/g01405/laws.FnExactLineFor", spec := "fnExactLineFor", unfollowed := true, recurses := true, apart := false, narrowed := true }
def FnExactLineForUptoSaid : Prop := fnExactLineForUptoRow.holds Try.pinned (OpenSpec.upto fnExactLineForSpec)

/-- 'laws.FnExactSpoolsFor', WHERE WHAT IT READS IS OF BULK AT MOST 1048576: true; the input reads as it did. -/
def fnExactSpoolsForUptoRow : OpenClaim := { program := "ythpfejbigdjhlaa", sum := "0bf77a1bc1f5f23e520bc9a78d62e3914391053c9663a82dea4637ab807752e3", func := "loop.example/g01405/laws.FnExactSpoolsFor", spec := "fnExactSpoolsFor", unfollowed := true, recurses := true, apart := false, narrowed := true }
def FnExactSpoolsForUptoSaid : Prop := fnExactSpoolsForUptoRow.holds Try.pinned (OpenSpec.upto fnExactSpoolsForSpec)

/-- 'laws.FnExactBorderOf', WHERE WHAT IT READS IS OF BULK AT MOST 1048576: true; the input reads as it did. -/
def fnExactBorderOfUptoRow : OpenClaim := { program := "ythpfejbigdjhlaa", sum := "0bf77a1bc1f5f23e520bc9a78d62e3914391053c9663a82dea4637ab807752e3", func := "loop.example/g01405/laws.FnExactBorderOf", spec := "fnExactBorderOf", unfollowed := true, recurses := true, apart := false, narrowed := true }
def FnExactBorderOfUptoSaid : Prop := fnExactBorderOfUptoRow.holds Try.pinned (OpenSpec.upto fnExactBorderOfSpec)

/-- 'laws.FnExactInnerOf', WHERE WHAT IT READS IS OF BULK AT MOST 1048576: true; the input reads as it did. -/
def fnExactInnerOfUptoRow : OpenClaim := { program := "ythpfejbigdjhlaa", sum := "0bf77a1bc1f5f23e520bc9a78d62e3914391053c9663a82dea4637ab807752e3", func := "loop.example/g01405/laws.FnExactInnerOf", spec := "fnExactInnerOf", unfollowed := true, recurses := true, apart := false, narrowed := true }
def FnExactInnerOfUptoSaid : Prop := fnExactInnerOfUptoRow.holds Try.pinned (OpenSpec.upto fnExactInnerOfSpec)

/-- 'laws.FnExactCutStrips', WHERE WHAT IT READS IS OF BULK AT MOST 1048576: true; the input reads as it did. -/
def fnExactCutStripsUptoRow : OpenClaim := { program := "ythpfejbigdjhlaa", sum := "0bf77a1bc1f5f23e520bc9a78d62e3914391053c9663a82dea4637ab807752e3", func := "loop.example/g01405/laws.FnExactCutStrips", spec := "fnExactCutStrips", apart := false, narrowed := true }
def FnExactCutStripsUptoSaid : Prop := fnExactCutStripsUptoRow.holds Try.pinned (OpenSpec.upto fnExactCutStripsSpec)

/-- 'laws.FnExactGiveUp', WHERE WHAT IT READS IS OF BULK AT MOST 1048576: true; the input reads as it did. -/
def fnExactGiveUpUptoRow : OpenClaim := { program := "ythpfejbigdjhlaa", sum := "0bf77a1bc1f5f23e520bc9a78d62e3914391053c9663a82dea4637ab807752e3", func := "loop.example/g01405/laws.FnExactGiveUp", spec := "fnExactGiveUp", unfollowed := true, recurses := true, apart := false, narrowed := true }
def FnExactGiveUpUptoSaid : Prop := fnExactGiveUpUptoRow.holds Try.pinned (OpenSpec.upto fnExactGiveUpSpec)

/-- 'laws.FnExactPlantAt', WHERE WHAT IT READS IS OF BULK AT MOST 1048576: true; the input reads as it did. -/
def fnExactPlantAtUptoRow : OpenClaim := { program := "ythpfejbigdjhlaa", sum := "0bf77a1bc1f5f23e520bc9a78d62e3914391053c9663a82dea4637ab807752e3", func := "loop.example/g01405/laws.FnExactPlantAt", spec := "fnExactPlantAt", unfollowed := true, recurses := true, apart := false, narrowed := true }
def FnExactPlantAtUptoSaid : Prop := fnExactPlantAtUptoRow.holds Try.pinned (OpenSpec.upto fnExactPlantAtSpec)

end Rows
end Go.Proofs.Ythpfejbigdjhlaa
