/-
  DERIVED. GIVEN WITH THE SEED: THE CARDS: each row of YtabemgplddfemaaGreatDoorRows.lean that lists a variable, with what it lists TIED to the program's text (the seventh form; the later family's looks); each row that meets fmt, with fmt's text TOLD by the authors' own Lean function (tested against real Go, not proved from fmt's source: count such statements apart). THE CARD IS WHAT COUNTS. Prove the row's statement (the work); the ties are given (YtabemgplddfemaaGreatDoorTie.lean); close each card by the builder's one call (the guide's Derived/Test/ToyasCard.lean, 'card_holds'). Laid BY PROGRAM, IN A SANDBOX (cutbox-door.mjs). By AI agents, Wed Nov 11 2026. No macro, syntax, notation, axiom, sorry.
-/
import Derived.Test.YtabemgplddfemaaGreatDoorRows
import GoSem.ClaimSeven
namespace Go.Proofs.YtabemgplddfemaaGreatDoor
namespace Rows

/-- THE TIED CARD OF 'laws.FnExactBestTrap'. -/
def fnExactBestTrapCard : Claim7 := { stood := { row := fnExactBestTrapRow, standIns := [], harness := (true, "71be1c20d6a13ee7bd33cd859050b2fbbfbbf52cd8114c5f4ff4956c739bc0d7"), looks := true }, kinds := [], alts := [], laidByText := true, laidKinds := [.sentinel, .sentinel, .sentinel, .sentinel, .sentinel], laidTests := true, laidLooks := .later }
def FnExactBestTrapCardSaid : Prop := Claim7.holds Tryz.pinned (.plain (OpenSpec.ofChange fnExactBestTrapSpec)) fnExactBestTrapCard

/-- THE TIED CARD OF 'laws.FnExactMostVisited'. -/
def fnExactMostVisitedCard : Claim7 := { stood := { row := fnExactMostVisitedRow, standIns := [], harness := (true, "71be1c20d6a13ee7bd33cd859050b2fbbfbbf52cd8114c5f4ff4956c739bc0d7"), looks := true }, kinds := [], alts := [], laidByText := true, laidKinds := [.sentinel, .sentinel, .sentinel, .sentinel, .sentinel], laidTests := true, laidLooks := .later }
def FnExactMostVisitedCardSaid : Prop := Claim7.holds Tryz.pinned (.plain (OpenSpec.ofChange fnExactMostVisitedSpec)) fnExactMostVisitedCard

/-- THE SECOND FORM's CARD OF 'laws.FnExactBestTrap'. -/
def fnExactBestTrapUptoCard : Claim7 := { stood := { row := fnExactBestTrapUptoRow, standIns := [], harness := (true, "71be1c20d6a13ee7bd33cd859050b2fbbfbbf52cd8114c5f4ff4956c739bc0d7"), looks := true }, kinds := [], alts := [], laidByText := true, laidKinds := [.sentinel, .sentinel, .sentinel, .sentinel, .sentinel], laidTests := true, laidLooks := .later }
def FnExactBestTrapUptoCardSaid : Prop := Claim7.holds Tryz.pinned (.plain (OpenSpec.upto fnExactBestTrapSpec)) fnExactBestTrapUptoCard

/-- THE SECOND FORM's CARD OF 'laws.FnExactMostVisited'. -/
def fnExactMostVisitedUptoCard : Claim7 := { stood := { row := fnExactMostVisitedUptoRow, standIns := [], harness := (true, "71be1c20d6a13ee7bd33cd859050b2fbbfbbf52cd8114c5f4ff4956c739bc0d7"), looks := true }, kinds := [], alts := [], laidByText := true, laidKinds := [.sentinel, .sentinel, .sentinel, .sentinel, .sentinel], laidTests := true, laidLooks := .later }
def FnExactMostVisitedUptoCardSaid : Prop := Claim7.holds Tryz.pinned (.plain (OpenSpec.upto fnExactMostVisitedSpec)) fnExactMostVisitedUptoCard
end Rows
end Go.Proofs.YtabemgplddfemaaGreatDoor
