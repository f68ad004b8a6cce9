/-
  No cell of these rows narrows 'for every input' (looked for: loops, veiled, ifaces, maps, wideKeys, modest, calm, conditions, laid).
  DERIVED. THE GIVEN ROWS OF THIS SEAT. 8 by the template 'for every input the law returns true; each argument reads behind the call as it read before'; 0 by the template 'total and deterministic' (their statements: YtojccgaldadcnaaTotals.lean).
  GIVEN WITH THE SEED: the statements are not yours to turn. If you find one false, say at which input.
  Laid BY PROGRAM, IN A SANDBOX (cutbox-rows.mjs): the forced cells as the released guide's own fill.sh prints them over the translation 97c1dfcd89ed3b0c… (all of the seat's roots in one cut). By AI agents, Wed Nov 11 2026. No macro, syntax, notation, axiom, sorry.
-/
import Derived.Test.YtojccgaldadcnaaChecked
import GoSem.Claim
import GoSem.ClaimJoined
import GoSem.ClaimMapViews
import Derived.JoinedTies
import Derived.KernelRfl
namespace Go.Proofs.Ytojccgaldadcnaa
/- THE CELL 'sum', in the pinned program and in every row, IS THE sha256 OF THE DUMP (.gsa) THAT YtojccgaldadcnaaProg.lean LOADS. Nothing in Lean hashes anything: it is a label: what it is worth is what the hold of that sum in a sandbox is worth. -/
noncomputable def Try.pinned : Pinned := { name := "ytojccgaldadcnaa", sum := "97c1dfcd89ed3b0cdee25f0412d567fab44953c27427735c65b102ef85554d10", checked := Try.checked }
namespace Rows
def none {H : Type} : Left H := { results := [], args := [] }

/-- 'laws.FnExactWeedsText': WHATEVER THE INPUT: true; the input reads as it did. -/
def fnExactWeedsTextSpec : ChangeSpec := { name := "fnExactWeedsText", fn := fun _ => fun
  | [d1, d2] => { results := [.lit (.bool true)], args := [d1, d2] }
  | _ => none }
def fnExactWeedsTextRow : OpenClaim := { program := "ytojccgaldadcnaa", sum := "97c1dfcd89ed3b0cdee25f0412d567fab44953c27427735c65b102ef85554d10", func := "loop.example/g01405/laws.FnExactWeedsText", spec := "fnExactWeedsText", inPlace := ["internal/abi.NoEscape"], unfollowed := true, recurses := true, plainKeys := false, apart := false }
def FnExactWeedsTextSaid : Prop := fnExactWeedsTextRow.holds Try.pinned (OpenSpec.ofChange fnExactWeedsTextSpec)

/-- ITS FALSE NEIGHBOUR: 'it returns false'. Refute it at one input. -/
def fnExactWeedsTextWrong : ChangeSpec := { name := "fnExactWeedsText", fn := fun _ => fun
  | [d1, d2] => { results := [.lit (.bool false)], args := [d1, d2] }
  | _ => none }
def FnExactWeedsTextWrongFalsely : Prop := fnExactWeedsTextRow.holds Try.pinned (OpenSpec.ofChange fnExactWeedsTextWrong)

/-- 'laws.FnExactReadWeeds': WHATEVER THE INPUT: true; the input reads as it did. -/
def fnExactReadWeedsSpec : ChangeSpec := { name := "fnExactReadWeeds", fn := fun _ => fun
  | [d1, d2] => { results := [.lit (.bool true)], args := [d1, d2] }
  | _ => none }
def fnExactReadWeedsRow : OpenClaim := { program := "ytojccgaldadcnaa", sum := "97c1dfcd89ed3b0cdee25f0412d567fab44953c27427735c65b102ef85554d10", func := "loop.example/g01405/laws.FnExactReadWeeds", spec := "fnExactReadWeeds", inPlace := ["internal/abi.NoEscape"], unfollowed := true, recurses := true, plainKeys := false, apart := false }
def FnExactReadWeedsSaid : Prop := fnExactReadWeedsRow.holds Try.pinned (OpenSpec.ofChange fnExactReadWeedsSpec)

/-- ITS FALSE NEIGHBOUR: 'it returns false'. Refute it at one input. -/
def fnExactReadWeedsWrong : ChangeSpec := { name := "fnExactReadWeeds", fn := fun _ => fun
  | [d1, d2] => { results := [.lit (.bool false)], args := [d1, d2] }
  | _ => none }
def FnExactReadWeedsWrongFalsely : Prop := fnExactReadWeedsRow.holds Try.pinned (OpenSpec.ofChange fnExactReadWeedsWrong)

/-- 'laws.FnExactLeastBattery': WHATEVER THE INPUT: true; the input reads as it did. -/
def fnExactLeastBatterySpec : ChangeSpec := { name := "fnExactLeastBattery", fn := fun _ => fun
  | [d1, d2] => { results := [.lit (.bool true)], args := [d1, d2] }
  | _ => none }
def fnExactLeastBatteryRow : OpenClaim := { program := "ytojccgaldadcnaa", sum := "97c1dfcd89ed3b0cdee25f0412d567fab44953c27427735c65b102ef85554d10", func := "loop.example/g01405/laws.FnExactLeastBattery", spec := "fnExactLeastBattery", unfollowed := true, recurses := true, plainKeys := false, apart := false }
def FnExactLeastBatterySaid : Prop := fnExactLeastBatteryRow.holds Try.pinned (OpenSpec.ofChange fnExactLeastBatterySpec)

/-- ITS FALSE NEIGHBOUR: 'it returns false'. Refute it at one input. -/
def fnExactLeastBatteryWrong : ChangeSpec := { name := "fnExactLeastBattery", fn := fun _ => fun
  | [d1, d2] => { results := [.lit (.bool false)], args := [d1, d2] }
  | _ => none }
def FnExactLeastBatteryWrongFalsely : Prop := fnExactLeastBatteryRow.holds Try.pinned (OpenSpec.ofChange fnExactLeastBatteryWrong)

/-- 'laws.FnExactBestHome': WHATEVER THE INPUT: true; the input reads as it did. -/
def fnExactBestHomeSpec : ChangeSpec := { name := "fnExactBestHome", fn := fun _ => fun
  | [d] => { results := [.lit (.bool true)], args := [d] }
  | _ => none }
def fnExactBestHomeRow : OpenClaim := { program := "ytojccgaldadcnaa", sum := "97c1dfcd89ed3b0cdee25f0412d567fab44953c27427735c65b102ef85554d10", func := "loop.example/g01405/laws.FnExactBestHome", spec := "fnExactBestHome", unfollowed := true, recurses := true, plainKeys := false, apart := false }
def FnExactBestHomeSaid : Prop := fnExactBestHomeRow.holds Try.pinned (OpenSpec.ofChange fnExactBestHomeSpec)

/-- ITS FALSE NEIGHBOUR: 'it returns false'. Refute it at one input. -/
def fnExactBestHomeWrong : ChangeSpec := { name := "fnExactBestHome", fn := fun _ => fun
  | [d] => { results := [.lit (.bool false)], args := [d] }
  | _ => none }
def FnExactBestHomeWrongFalsely : Prop := fnExactBestHomeRow.holds Try.pinned (OpenSpec.ofChange fnExactBestHomeWrong)

/-- 'laws.FnExactPiecesOf': WHATEVER THE INPUT: true; the input reads as it did. -/
def fnExactPiecesOfSpec : ChangeSpec := { name := "fnExactPiecesOf", fn := fun _ => fun
  | [d] => { results := [.lit (.bool true)], args := [d] }
  | _ => none }
def fnExactPiecesOfRow : OpenClaim := { program := "ytojccgaldadcnaa", sum := "97c1dfcd89ed3b0cdee25f0412d567fab44953c27427735c65b102ef85554d10", func := "loop.example/g01405/laws.FnExactPiecesOf", spec := "fnExactPiecesOf", unfollowed := true, recurses := true, plainKeys := false, apart := false }
def FnExactPiecesOfSaid : Prop := fnExactPiecesOfRow.holds Try.pinned (OpenSpec.ofChange fnExactPiecesOfSpec)

/-- ITS FALSE NEIGHBOUR: 'it returns false'. Refute it at one input. -/
def fnExactPiecesOfWrong : ChangeSpec := { name := "fnExactPiecesOf", fn := fun _ => fun
  | [d] => { results := [.lit (.bool false)], args := [d] }
  | _ => none }
def FnExactPiecesOfWrongFalsely : Prop := fnExactPiecesOfRow.holds Try.pinned (OpenSpec.ofChange fnExactPiecesOfWrong)

/-- 'laws.FnExactRingsOf': WHATEVER THE INPUT: true; the input reads as it did. -/
def fnExactRingsOfSpec : ChangeSpec := { name := "fnExactRingsOf", fn := fun _ => fun
  | [d] => { results := [.lit (.bool true)], args := [d] }
  | _ => none }
def fnExactRingsOfRow : OpenClaim := { program := "ytojccgaldadcnaa", sum := "97c1dfcd89ed3b0cdee25f0412d567fab44953c27427735c65b102ef85554d10", func := "loop.example/g01405/laws.FnExactRingsOf", spec := "fnExactRingsOf", unfollowed := true, recurses := true, plainKeys := false, apart := false }
def FnExactRingsOfSaid : Prop := fnExactRingsOfRow.holds Try.pinned (OpenSpec.ofChange fnExactRingsOfSpec)

/-- ITS FALSE NEIGHBOUR: 'it returns false'. Refute it at one input. -/
def fnExactRingsOfWrong : ChangeSpec := { name := "fnExactRingsOf", fn := fun _ => fun
  | [d] => { results := [.lit (.bool false)], args := [d] }
  | _ => none }
def FnExactRingsOfWrongFalsely : Prop := fnExactRingsOfRow.holds Try.pinned (OpenSpec.ofChange fnExactRingsOfWrong)

/-- 'laws.FnExactStripesBy': WHATEVER THE INPUT: true; the input reads as it did. -/
def fnExactStripesBySpec : ChangeSpec := { name := "fnExactStripesBy", fn := fun _ => fun
  | [d1, d2, d3] => { results := [.lit (.bool true)], args := [d1, d2, d3] }
  | _ => none }
def fnExactStripesByRow : OpenClaim := { program := "ytojccgaldadcnaa", sum := "97c1dfcd89ed3b0cdee25f0412d567fab44953c27427735c65b102ef85554d10", func := "loop.example/g01405/laws.FnExactStripesBy", spec := "fnExactStripesBy", inPlace := ["internal/bytealg.IndexByteString", "internal/bytealg.MakeNoZero"], unfollowed := true, recurses := true, plainKeys := false, apart := false }
def FnExactStripesBySaid : Prop := fnExactStripesByRow.holds Try.pinned (OpenSpec.ofChange fnExactStripesBySpec)

/-- ITS FALSE NEIGHBOUR: 'it returns false'. Refute it at one input. -/
def fnExactStripesByWrong : ChangeSpec := { name := "fnExactStripesBy", fn := fun _ => fun
  | [d1, d2, d3] => { results := [.lit (.bool false)], args := [d1, d2, d3] }
  | _ => none }
def FnExactStripesByWrongFalsely : Prop := fnExactStripesByRow.holds Try.pinned (OpenSpec.ofChange fnExactStripesByWrong)

/-- 'laws.FnExactHomeFrom': WHATEVER THE INPUT: true; the input reads as it did. -/
def fnExactHomeFromSpec : ChangeSpec := { name := "fnExactHomeFrom", fn := fun _ => fun
  | [d1, d2, d3] => { results := [.lit (.bool true)], args := [d1, d2, d3] }
  | _ => none }
def fnExactHomeFromRow : OpenClaim := { program := "ytojccgaldadcnaa", sum := "97c1dfcd89ed3b0cdee25f0412d567fab44953c27427735c65b102ef85554d10", func := "loop.example/g01405/laws.FnExactHomeFrom", spec := "fnExactHomeFrom", unfollowed := true, recurses := true, plainKeys := false, apart := false }
def FnExactHomeFromSaid : Prop := fnExactHomeFromRow.holds Try.pinned (OpenSpec.ofChange fnExactHomeFromSpec)

/-- ITS FALSE NEIGHBOUR: 'it returns false'. Refute it at one input. -/
def fnExactHomeFromWrong : ChangeSpec := { name := "fnExactHomeFrom", fn := fun _ => fun
  | [d1, d2, d3] => { results := [.lit (.bool false)], args := [d1, d2, d3] }
  | _ => none }
def FnExactHomeFromWrongFalsely : Prop := fnExactHomeFromRow.holds Try.pinned (OpenSpec.ofChange fnExactHomeFromWrong)

/- THE SECOND FORM. 'bulk': how many values and letters a reading holds, each counted each time it is reached (what is shared counts as often as it is met; a slice's spare places count too). A statement '..UptoSaid' is the law's where the arguments, and the package variables that the reading takes, are together of bulk at most 1048576: NARROWER than '..Said'. Prove '..Said' where nothing that the law and all that it calls make is longer than what came in: it says more and counts as full. Else prove '..UptoSaid'. A law counts once. -/
mutual
def uptoBulk {H : Type} : DataW H → Nat
  | .lit (.string bytes) => bytes.length + 1
  | .lit _ => 1
  | .nil => 1
  | .ptr d => uptoBulk d + 1
  | .slice elems spare => uptoBulkAll elems + uptoBulkAll spare + 1
  | .agg parts => uptoBulkAll parts + 1
  | .iface _ d => uptoBulk d + 1
  | .map entries => uptoBulkEntries entries + 1
  | .held _ => 1
def uptoBulkAll {H : Type} : List (DataW H) → Nat
  | [] => 0
  | d :: r => uptoBulk d + uptoBulkAll r
def uptoBulkEntries {H : Type} : List (Lit × DataW H) → Nat
  | [] => 0
  | x :: r => uptoBulkEntry x + uptoBulkEntries r
def uptoBulkEntry {H : Type} : Lit × DataW H → Nat
  | (.string bytes, d) => bytes.length + uptoBulk d + 1
  | (_, d) => uptoBulk d + 1
 end
def uptoSmall : (H : Type) → List (DataW H) → Bool := fun _ ds => decide (uptoBulkAll ds ≤ 1048576)
def OpenSpec.upto (s : _root_.Go.ChangeSpec) : _root_.Go.OpenSpec := { _root_.Go.OpenSpec.ofChange s with cond := some uptoSmall }

/-- 'laws.FnExactWeedsText', WHERE WHAT IT READS IS OF BULK AT MOST 1048576: true; the input reads as it did. -/
def fnExactWeedsTextUptoRow : OpenClaim := { program := "ytojccgaldadcnaa", sum := "97c1dfcd89ed3b0cdee25f0412d567fab44953c27427735c65b102ef85554d10", func := "loop.example/g01405/laws.FnExactWeedsText", spec := "fnExactWeedsText", inPlace := ["internal/abi.NoEscape"], unfollowed := true, recurses := true, plainKeys := false, apart := false, narrowed := true }
def FnExactWeedsTextUptoSaid : Prop := fnExactWeedsTextUptoRow.holds Try.pinned (OpenSpec.upto fnExactWeedsTextSpec)

/-- 'laws.FnExactReadWeeds', WHERE WHAT IT READS IS OF BULK AT MOST 1048576: true; the input reads as it did. -/
def fnExactReadWeedsUptoRow : OpenClaim := { program := "ytojccgaldadcnaa", sum := "97c1dfcd89ed3b0cdee25f0412d567fab44953c27427735c65b102ef85554d10", func := "loop.example/g01405/laws.FnExactReadWeeds", spec := "fnExactReadWeeds", inPlace := ["internal/abi.NoEscape"], unfollowed := true, recurses := true, plainKeys := false, apart := false, narrowed := true }
def FnExactReadWeedsUptoSaid : Prop := fnExactReadWeedsUptoRow.holds Try.pinned (OpenSpec.upto fnExactReadWeedsSpec)

/-- 'laws.FnExactLeastBattery', WHERE WHAT IT READS IS OF BULK AT MOST 1048576: true; the input reads as it did. -/
def fnExactLeastBatteryUptoRow : OpenClaim := { program := "ytojccgaldadcnaa", sum := "97c1dfcd89ed3b0cdee25f0412d567fab44953c27427735c65b102ef85554d10", func := "loop.example/g01405/laws.FnExactLeastBattery", spec := "fnExactLeastBattery", unfollowed := true, recurses := true, plainKeys := false, apart := false, narrowed := true }
def FnExactLeastBatteryUptoSaid : Prop := fnExactLeastBatteryUptoRow.holds Try.pinned (OpenSpec.upto fnExactLeastBatterySpec)

/-- 'laws.FnExactBestHome', WHERE WHAT IT READS IS OF BULK AT MOST 1048576: true; the input reads as it did. -/
def fnExactBestHomeUptoRow : OpenClaim := { program := "ytojccgaldadcnaa", sum := "97c1dfcd89ed3b0cdee25f0412d567fab44953c27427735c65b102ef85554d10", func := "loop.example/g01405/laws.FnExactBestHome", spec := "fnExactBestHome", unfollowed := true, recurses := true, plainKeys := false, apart := false, narrowed := true }
def FnExactBestHomeUptoSaid : Prop := fnExactBestHomeUptoRow.holds Try.pinned (OpenSpec.upto fnExactBestHomeSpec)

/-- 'laws.FnExactPiecesOf', WHERE WHAT IT READS IS OF BULK AT MOST 1048576: true; the input reads as it did. -/
def fnExactPiecesOfUptoRow : OpenClaim := { program := "ytojccgaldadcnaa", sum := "97c1dfcd89ed3b0cdee25f0412d567fab44953c27427735c65b102ef85554d10", func := "loop.example/g01405/laws.FnExactPiecesOf", spec := "fnExactPiecesOf", unfollowed := true, recurses := true, plainKeys := false, apart := false, narrowed := true }
def FnExactPiecesOfUptoSaid : Prop := fnExactPiecesOfUptoRow.holds Try.pinned (OpenSpec.upto fnExactPiecesOfSpec)

/-- 'laws.FnExactRingsOf', WHERE WHAT IT READS IS OF BULK AT MOST 1048576: true; the input reads as it did. -/
def fnExactRingsOfUptoRow : OpenClaim := { program := "ytojccgaldadcnaa", sum := "97c1dfcd89ed3b0cdee25f0412d567fab44953c27427735c65b102ef85554d10", func := "loop.example/g01405/laws.FnExactRingsOf", spec := "fnExactRingsOf", unfollowed := true, recurses := true, plainKeys := false, apart := false, narrowed := true }
def FnExactRingsOfUptoSaid : Prop := fnExactRingsOfUptoRow.holds Try.pinned (OpenSpec.upto fnExactRingsOfSpec)

/-- 'laws.FnExactStripesBy', WHERE WHAT IT READS IS OF BULK AT MOST 1048576: true; the input reads as it did. -/
def fnExactStripesByUptoRow : OpenClaim := { program := "ytojccgaldadcnaa", sum := "97c1dfcd89ed3b0cdee25f0412d567fab44953c27427735c65b102ef85554d10", func := "loop.example/g01405/laws.FnExactStripesBy", spec := "fnExactStripesBy", inPlace := ["internal/bytealg.IndexByteString", "internal/bytealg.MakeNoZero"], unfollowed := true, recurses := true, plainKeys := false, apart := false, narrowed := true }
def FnExactStripesByUptoSaid : Prop := fnExactStripesByUptoRow.holds Try.pinned (OpenSpec.upto fnExactStripesBySpec)

/-- 'laws.FnExactHomeFrom', WHERE WHAT IT READS IS OF BULK AT MOST 1048576: true; the input reads as it did. -/
def fnExactHomeFromUptoRow : OpenClaim := { program := "ytojccgaldadcnaa", sum := "97c1dfcd89ed3b0cdee25f0412d567fab44953c27427735c65b102ef85554d10", func := "loop.example/g01405/laws.FnExactHomeFrom", spec := "fnExactHomeFrom", unfollowed := true, recurses := true, plainKeys := false, apart := false, narrowed := true }
def FnExactHomeFromUptoSaid : Prop := fnExactHomeFromUptoRow.holds Try.pinned (OpenSpec.upto fnExactHomeFromSpec)

end Rows
end Go.Proofs.Ytojccgaldadcnaa
