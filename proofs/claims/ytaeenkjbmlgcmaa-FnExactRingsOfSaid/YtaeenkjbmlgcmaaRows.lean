/-
  No cell of these rows narrows 'for every input' (looked for: loops, veiled, ifaces, maps, wideKeys, modest, calm, conditions, laid).
  DERIVED. THE GIVEN ROWS OF THIS SEAT. 9 by the template 'for every input the law returns true; each argument reads behind the call as it read before'; 0 by the template 'total and deterministic' (their statements: YtaeenkjbmlgcmaaTotals.lean).
  GIVEN WITH THE SEED: the statements are not yours to turn. If you find one false, say at which input.
  Laid BY PROGRAM, IN A SANDBOX (cutbox-rows.mjs): the forced cells as the released guide's own fill.sh prints them over the translation e8b3341717130a25… (all of the seat's roots in one cut). By AI agents, Wed Nov 11 2026. No macro, syntax, notation, axiom, sorry.
-/
import Derived.Test.YtaeenkjbmlgcmaaChecked
import GoSem.Claim
import GoSem.ClaimJoined
import GoSem.ClaimMapViews
import Derived.JoinedTies
import Derived.KernelRfl
namespace Go.Proofs.Ytaeenkjbmlgcmaa
/- THE CELL 'sum', in the pinned program and in every row, IS THE sha256 OF THE DUMP (.gsa) THAT YtaeenkjbmlgcmaaProg.lean LOADS. Nothing in Lean hashes anything: it is a label: what it is worth is what the hold of that sum in a sandbox is worth. -/
noncomputable def Try.pinned : Pinned := { name := "ytaeenkjbmlgcmaa", sum := "e8b3341717130a258d5f9430ea58f05285e562382797d6c40e229b5a631207e3", checked := Try.checked }
namespace Rows
def none {H : Type} : Left H := { results := [], args := [] }

/-- 'laws.FnExactRingsOf': WHATEVER THE INPUT: true; the input reads as it did. -/
def fnExactRingsOfSpec : ChangeSpec := { name := "fnExactRingsOf", fn := fun _ => fun
  | [d] => { results := [.lit (.bool true)], args := [d] }
  | _ => none }
def fnExactRingsOfRow : OpenClaim := { program := "ytaeenkjbmlgcmaa", sum := "e8b3341717130a258d5f9430ea58f05285e562382797d6c40e229b5a631207e3", func := "loop.example/g01405/laws.FnExactRingsOf", spec := "fnExactRingsOf", unfollowed := true, recurses := true, plainKeys := false, apart := false }
def FnExactRingsOfSaid : Prop := fnExactRingsOfRow.holds Try.pinned (OpenSpec.ofChange fnExactRingsOfSpec)

/-- ITS FALSE NEIGHBOUR: 'it returns false'. Refute it at one input. -/
def fnExactRingsOfWrong : ChangeSpec := { name := "fnExactRingsOf", fn := fun _ => fun
  | [d] => { results := [.lit (.bool false)], args := [d] }
  | _ => none }
def FnExactRingsOfWrongFalsely : Prop := fnExactRingsOfRow.holds Try.pinned (OpenSpec.ofChange fnExactRingsOfWrong)

/-- 'laws.FnExactStripesBy': WHATEVER THE INPUT: true; the input reads as it did. -/
def fnExactStripesBySpec : ChangeSpec := { name := "fnExactStripesBy", fn := fun _ => fun
  | [d1, d2, d3] => { results := [.lit (.bool true)], args := [d1, d2, d3] }
  | _ => none }
def fnExactStripesByRow : OpenClaim := { program := "ytaeenkjbmlgcmaa", sum := "e8b3341717130a258d5f9430ea58f05285e562382797d6c40e229b5a631207e3", func := "loop.example/g01405/laws.FnExactStripesBy", spec := "fnExactStripesBy", inPlace := ["internal/bytealg.IndexByteString", "internal/bytealg.MakeNoZero"], unfollowed := true, recurses := true, plainKeys := false, apart := false }
def FnExactStripesBySaid : Prop := fnExactStripesByRow.holds Try.pinned (OpenSpec.ofChange fnExactStripesBySpec)

/-- ITS FALSE NEIGHBOUR: 'it returns false'. Refute it at one input. -/
def fnExactStripesByWrong : ChangeSpec := { name := "fnExactStripesBy", fn := fun _ => fun
  | [d1, d2, d3] => { results := [.lit (.bool false)], args := [d1, d2, d3] }
  | _ => none }
def FnExactStripesByWrongFalsely : Prop := fnExactStripesByRow.holds Try.pinned (OpenSpec.ofChange fnExactStripesByWrong)

/-- 'laws.FnExactHomeFrom': WHATEVER THE INPUT: true; the input reads as it did. -/
def fnExactHomeFromSpec : ChangeSpec := { name := "fnExactHomeFrom", fn := fun _ => fun
  | [d1, d2, d3] => { results := [.lit (.bool true)], args := [d1, d2, d3] }
  | _ => none }
def fnExactHomeFromRow : OpenClaim := { program := "ytaeenkjbmlgcmaa", sum := "e8b3341717130a258d5f9430ea58f05285e562382797d6c40e229b5a631207e3", func := "loop.example/g01405/laws.FnExactHomeFrom", spec := "fnExactHomeFrom", unfollowed := true, recurses := true, plainKeys := false, apart := false }
def FnExactHomeFromSaid : Prop := fnExactHomeFromRow.holds Try.pinned (OpenSpec.ofChange fnExactHomeFromSpec)

/-- ITS FALSE NEIGHBOUR: 'it returns false'. Refute it at one input. -/
def fnExactHomeFromWrong : ChangeSpec := { name := "fnExactHomeFrom", fn := fun _ => fun
  | [d1, d2, d3] => { results := [.lit (.bool false)], args := [d1, d2, d3] }
  | _ => none }
def FnExactHomeFromWrongFalsely : Prop := fnExactHomeFromRow.holds Try.pinned (OpenSpec.ofChange fnExactHomeFromWrong)

/-- 'laws.FnExactReachOf': WHATEVER THE INPUT: true; the input reads as it did. -/
def fnExactReachOfSpec : ChangeSpec := { name := "fnExactReachOf", fn := fun _ => fun
  | [d1, d2, d3] => { results := [.lit (.bool true)], args := [d1, d2, d3] }
  | _ => none }
def fnExactReachOfRow : OpenClaim := { program := "ytaeenkjbmlgcmaa", sum := "e8b3341717130a258d5f9430ea58f05285e562382797d6c40e229b5a631207e3", func := "loop.example/g01405/laws.FnExactReachOf", spec := "fnExactReachOf", unfollowed := true, recurses := true, plainKeys := false, apart := false }
def FnExactReachOfSaid : Prop := fnExactReachOfRow.holds Try.pinned (OpenSpec.ofChange fnExactReachOfSpec)

/-- ITS FALSE NEIGHBOUR: 'it returns false'. Refute it at one input. -/
def fnExactReachOfWrong : ChangeSpec := { name := "fnExactReachOf", fn := fun _ => fun
  | [d1, d2, d3] => { results := [.lit (.bool false)], args := [d1, d2, d3] }
  | _ => none }
def FnExactReachOfWrongFalsely : Prop := fnExactReachOfRow.holds Try.pinned (OpenSpec.ofChange fnExactReachOfWrong)

/-- 'laws.FnExactMeetCell': WHATEVER THE INPUT: true; the input reads as it did. -/
def fnExactMeetCellSpec : ChangeSpec := { name := "fnExactMeetCell", fn := fun _ => fun
  | [d1, d2, d3] => { results := [.lit (.bool true)], args := [d1, d2, d3] }
  | _ => none }
def fnExactMeetCellRow : OpenClaim := { program := "ytaeenkjbmlgcmaa", sum := "e8b3341717130a258d5f9430ea58f05285e562382797d6c40e229b5a631207e3", func := "loop.example/g01405/laws.FnExactMeetCell", spec := "fnExactMeetCell", unfollowed := true, recurses := true, plainKeys := false, apart := false }
def FnExactMeetCellSaid : Prop := fnExactMeetCellRow.holds Try.pinned (OpenSpec.ofChange fnExactMeetCellSpec)

/-- ITS FALSE NEIGHBOUR: 'it returns false'. Refute it at one input. -/
def fnExactMeetCellWrong : ChangeSpec := { name := "fnExactMeetCell", fn := fun _ => fun
  | [d1, d2, d3] => { results := [.lit (.bool false)], args := [d1, d2, d3] }
  | _ => none }
def FnExactMeetCellWrongFalsely : Prop := fnExactMeetCellRow.holds Try.pinned (OpenSpec.ofChange fnExactMeetCellWrong)

/-- 'laws.FnExactTripTo': WHATEVER THE INPUT: true; the input reads as it did. -/
def fnExactTripToSpec : ChangeSpec := { name := "fnExactTripTo", fn := fun _ => fun
  | [d1, d2, d3] => { results := [.lit (.bool true)], args := [d1, d2, d3] }
  | _ => none }
def fnExactTripToRow : OpenClaim := { program := "ytaeenkjbmlgcmaa", sum := "e8b3341717130a258d5f9430ea58f05285e562382797d6c40e229b5a631207e3", func := "loop.example/g01405/laws.FnExactTripTo", spec := "fnExactTripTo", unfollowed := true, recurses := true, plainKeys := false, apart := false }
def FnExactTripToSaid : Prop := fnExactTripToRow.holds Try.pinned (OpenSpec.ofChange fnExactTripToSpec)

/-- ITS FALSE NEIGHBOUR: 'it returns false'. Refute it at one input. -/
def fnExactTripToWrong : ChangeSpec := { name := "fnExactTripTo", fn := fun _ => fun
  | [d1, d2, d3] => { results := [.lit (.bool false)], args := [d1, d2, d3] }
  | _ => none }
def FnExactTripToWrongFalsely : Prop := fnExactTripToRow.holds Try.pinned (OpenSpec.ofChange fnExactTripToWrong)

/-- 'laws.FnExactBackHome': WHATEVER THE INPUT: true; the input reads as it did. -/
def fnExactBackHomeSpec : ChangeSpec := { name := "fnExactBackHome", fn := fun _ => fun
  | [d1, d2, d3] => { results := [.lit (.bool true)], args := [d1, d2, d3] }
  | _ => none }
def fnExactBackHomeRow : OpenClaim := { program := "ytaeenkjbmlgcmaa", sum := "e8b3341717130a258d5f9430ea58f05285e562382797d6c40e229b5a631207e3", func := "loop.example/g01405/laws.FnExactBackHome", spec := "fnExactBackHome", inPlace := ["internal/bytealg.IndexByteString"], unfollowed := true, recurses := true, plainKeys := false, apart := false }
def FnExactBackHomeSaid : Prop := fnExactBackHomeRow.holds Try.pinned (OpenSpec.ofChange fnExactBackHomeSpec)

/-- ITS FALSE NEIGHBOUR: 'it returns false'. Refute it at one input. -/
def fnExactBackHomeWrong : ChangeSpec := { name := "fnExactBackHome", fn := fun _ => fun
  | [d1, d2, d3] => { results := [.lit (.bool false)], args := [d1, d2, d3] }
  | _ => none }
def FnExactBackHomeWrongFalsely : Prop := fnExactBackHomeRow.holds Try.pinned (OpenSpec.ofChange fnExactBackHomeWrong)

/-- 'laws.FnExactFewestTrips': WHATEVER THE INPUT: true; the input reads as it did. -/
def fnExactFewestTripsSpec : ChangeSpec := { name := "fnExactFewestTrips", fn := fun _ => fun
  | [d1, d2, d3, d4] => { results := [.lit (.bool true)], args := [d1, d2, d3, d4] }
  | _ => none }
def fnExactFewestTripsRow : OpenClaim := { program := "ytaeenkjbmlgcmaa", sum := "e8b3341717130a258d5f9430ea58f05285e562382797d6c40e229b5a631207e3", func := "loop.example/g01405/laws.FnExactFewestTrips", spec := "fnExactFewestTrips", unfollowed := true, recurses := true, plainKeys := false, apart := false }
def FnExactFewestTripsSaid : Prop := fnExactFewestTripsRow.holds Try.pinned (OpenSpec.ofChange fnExactFewestTripsSpec)

/-- ITS FALSE NEIGHBOUR: 'it returns false'. Refute it at one input. -/
def fnExactFewestTripsWrong : ChangeSpec := { name := "fnExactFewestTrips", fn := fun _ => fun
  | [d1, d2, d3, d4] => { results := [.lit (.bool false)], args := [d1, d2, d3, d4] }
  | _ => none }
def FnExactFewestTripsWrongFalsely : Prop := fnExactFewestTripsRow.holds Try.pinned (OpenSpec.ofChange fnExactFewestTripsWrong)

/-- 'laws.FnExactCheckTrips': WHATEVER THE INPUT: true; the input reads as it did. -/
def fnExactCheckTripsSpec : ChangeSpec := { name := "fnExactCheckTrips", fn := fun _ => fun
  | [d1, d2, d3, d4, d5] => { results := [.lit (.bool true)], args := [d1, d2, d3, d4, d5] }
  | _ => none }
def fnExactCheckTripsRow : OpenClaim := { program := "ytaeenkjbmlgcmaa", sum := "e8b3341717130a258d5f9430ea58f05285e562382797d6c40e229b5a631207e3", func := "loop.example/g01405/laws.FnExactCheckTrips", spec := "fnExactCheckTrips", unfollowed := true, recurses := true, plainKeys := false, apart := false }
def FnExactCheckTripsSaid : Prop := fnExactCheckTripsRow.holds Try.pinned (OpenSpec.ofChange fnExactCheckTripsSpec)

/-- ITS FALSE NEIGHBOUR: 'it returns false'. Refute it at one input. -/
def fnExactCheckTripsWrong : ChangeSpec := { name := "fnExactCheckTrips", fn := fun _ => fun
  | [d1, d2, d3, d4, d5] => { results := [.lit (.bool false)], args := [d1, d2, d3, d4, d5] }
  | _ => none }
def FnExactCheckTripsWrongFalsely : Prop := fnExactCheckTripsRow.holds Try.pinned (OpenSpec.ofChange fnExactCheckTripsWrong)

/- THE SECOND FORM. 'bulk': how many values and letters a reading holds, each counted each time it is reached (what is shared counts as often as it is met; a slice's spare places count too). A statement '..UptoSaid' is the law's where the arguments, and the package variables that the reading takes, are together of bulk at most 1048576: NARROWER than '..Said'. Prove '..Said' where nothing that the law and all that it calls make is longer than what came in: it says more and counts as full. Else prove '..UptoSaid'. A law counts once. -/
mutual
def uptoBulk {H : Type} : DataW H → Nat
  | .lit (.string bytes) => bytes.length + 1
  | .lit _ => 1
  | .nil => 1
  | .ptr d => uptoBulk d + 1
  | .slice elems spare => uptoBulkAll elems + uptoBulkAll spare + 1
  | .agg parts => uptoBulkAll parts + 1
  | .iface _ d => uptoBulk d + 1
  | .map entries => uptoBulkEntries entries + 1
  | .held _ => 1
def uptoBulkAll {H : Type} : List (DataW H) → Nat
  | [] => 0
  | d :: r => uptoBulk d + uptoBulkAll r
def uptoBulkEntries {H : Type} : List (Lit × DataW H) → Nat
  | [] => 0
  | x :: r => uptoBulkEntry x + uptoBulkEntries r
def uptoBulkEntry {H : Type} : Lit × DataW H → Nat
  | (.string bytes, d) => bytes.length + uptoBulk d + 1
  | (_, d) => uptoBulk d + 1
 end
def uptoSmall : (H : Type) → List (DataW H) → Bool := fun _ ds => decide (uptoBulkAll ds ≤ 1048576)
def OpenSpec.upto (s : _root_.Go.ChangeSpec) : _root_.Go.OpenSpec := { _root_.Go.OpenSpec.ofChange s with cond := some uptoSmall }

/-- 'laws.FnExactRingsOf', WHERE WHAT IT READS IS OF BULK AT MOST 1048576: true; the input reads as it did. -/
def fnExactRingsOfUptoRow : OpenClaim := { program := "ytaeenkjbmlgcmaa", sum := "e8b3341717130a258d5f9430ea58f05285e562382797d6c40e229b5a631207e3", func := "loop.example/g01405/laws.FnExactRingsOf", spec := "fnExactRingsOf", unfollowed := true, recurses := true, plainKeys := false, apart := false, narrowed := true }
def FnExactRingsOfUptoSaid : Prop := fnExactRingsOfUptoRow.holds Try.pinned (OpenSpec.upto fnExactRingsOfSpec)

/-- 'laws.FnExactStripesBy', WHERE WHAT IT READS IS OF BULK AT MOST 1048576: true; the input reads as it did. -/
def fnExactStripesByUptoRow : OpenClaim := { program := "ytaeenkjbmlgcmaa", sum := "e8b3341717130a258d5f9430ea58f05285e562382797d6c40e229b5a631207e3", func := "loop.example/g01405/laws.FnExactStripesBy", spec := "fnExactStripesBy", inPlace := ["internal/bytealg.IndexByteString", "internal/bytealg.MakeNoZero"], unfollowed := true, recurses := true, plainKeys := false, apart := false, narrowed := true }
def FnExactStripesByUptoSaid : Prop := fnExactStripesByUptoRow.holds Try.pinned (OpenSpec.upto fnExactStripesBySpec)

/-- 'laws.FnExactHomeFrom', WHERE WHAT IT READS IS OF BULK AT MOST 1048576: true; the input reads as it did. -/
def fnExactHomeFromUptoRow : OpenClaim := { program := "ytaeenkjbmlgcmaa", sum := "e8b3341717130a258d5f9430ea58f05285e562382797d6c40e229b5a631207e3", func := "loop.example/g01405/laws.FnExactHomeFrom", spec := "fnExactHomeFrom", unfollowed := true, recurses := true, plainKeys := false, apart := false, narrowed := true }
def FnExactHomeFromUptoSaid : Prop := fnExactHomeFromUptoRow.holds Try.pinned (OpenSpec.upto fnExactHomeFromSpec)

/-- 'laws.FnExactReachOf', WHERE WHAT IT READS IS OF BULK AT MOST 1048576: true; the input reads as it did. -/
def fnExactReachOfUptoRow : OpenClaim := { program := "ytaeenkjbmlgcmaa", sum := "e8b3341717130a258d5f9430ea58f05285e562382797d6c40e229b5a631207e3", func := "loop.example/g01405/laws.FnExactReachOf", spec := "fnExactReachOf", unfollowed := true, recurses := true, plainKeys := false, apart := false, narrowed := true }
def FnExactReachOfUptoSaid : Prop := fnExactReachOfUptoRow.holds Try.pinned (OpenSpec.upto fnExactReachOfSpec)

/-- 'laws.FnExactMeetCell', WHERE WHAT IT READS IS OF BULK AT MOST 1048576: true; the input reads as it did. -/
def fnExactMeetCellUptoRow : OpenClaim := { program := "ytaeenkjbmlgcmaa", sum := "e8b3341717130a258d5f9430ea58f05285e562382797d6c40e229b5a631207e3", func := "loop.example/g01405/laws.FnExactMeetCell", spec := "fnExactMeetCell", unfollowed := true, recurses := true, plainKeys := false, apart := false, narrowed := true }
def FnExactMeetCellUptoSaid : Prop := fnExactMeetCellUptoRow.holds Try.pinned (OpenSpec.upto fnExactMeetCellSpec)

/-- 'laws.FnExactTripTo', WHERE WHAT IT READS IS OF BULK AT MOST 1048576: true; the input reads as it did. -/
def fnExactTripToUptoRow : OpenClaim := { program := "ytaeenkjbmlgcmaa", sum := "e8b3341717130a258d5f9430ea58f05285e562382797d6c40e229b5a631207e3", func := "loop.example/g01405/laws.FnExactTripTo", spec := "fnExactTripTo", unfollowed := true, recurses := true, plainKeys := false, apart := false, narrowed := true }
def FnExactTripToUptoSaid : Prop := fnExactTripToUptoRow.holds Try.pinned (OpenSpec.upto fnExactTripToSpec)

/-- 'laws.FnExactBackHome', WHERE WHAT IT READS IS OF BULK AT MOST 1048576: true; the input reads as it did. -/
def fnExactBackHomeUptoRow : OpenClaim := { program := "ytaeenkjbmlgcmaa", sum := "e8b3341717130a258d5f9430ea58f05285e562382797d6c40e229b5a631207e3", func := "loop.example/g01405/laws.FnExactBackHome", spec := "fnExactBackHome", inPlace := ["internal/bytealg.IndexByteString"], unfollowed := true, recurses := true, plainKeys := false, apart := false, narrowed := true }
def FnExactBackHomeUptoSaid : Prop := fnExactBackHomeUptoRow.holds Try.pinned (OpenSpec.upto fnExactBackHomeSpec)

/-- 'laws.FnExactFewestTrips', WHERE WHAT IT READS IS OF BULK AT MOST 1048576: true; the input reads as it did. -/
def fnExactFewestTripsUptoRow : OpenClaim := { program := "ytaeenkjbmlgcmaa", sum := "e8b3341717130a258d5f9430ea58f05285e562382797d6c40e229b5a631207e3", func := "loop.example/g01405/laws.FnExactFewestTrips", spec := "fnExactFewestTrips", unfollowed := true, recurses := true, plainKeys := false, apart := false, narrowed := true }
def FnExactFewestTripsUptoSaid : Prop := fnExactFewestTripsUptoRow.holds Try.pinned (OpenSpec.upto fnExactFewestTripsSpec)

/-- 'laws.FnExactCheckTrips', WHERE WHAT IT READS IS OF BULK AT MOST 1048576: true; the input reads as it did. -/
def fnExactCheckTripsUptoRow : OpenClaim := { program := "ytaeenkjbmlgcmaa", sum := "e8b3341717130a258d5f9430ea58f05285e562382797d6c40e229b5a631207e3", func := "loop.example/g01405/laws.FnExactCheckTrips", spec := "fnExactCheckTrips", unfollowed := true, recurses := true, plainKeys := false, apart := false, narrowed := true }
def FnExactCheckTripsUptoSaid : Prop := fnExactCheckTripsUptoRow.holds Try.pinned (OpenSpec.upto fnExactCheckTripsSpec)

end Rows
end Go.Proofs.Ytaeenkjbmlgcmaa
