/-
  DERIVED. GIVEN WITH THE SEED: THE CARDS: each row of YtemjppchnhemjaaDoorRows.lean that lists a variable, with what it lists TIED to the program's text (the seventh form; the later family's looks); each row that meets fmt, with fmt's text TOLD by the authors' own Lean function (tested against real Go, not proved from fmt's source: count such statements apart). THE CARD IS WHAT COUNTS. Prove the row's statement (the work); the ties are given (YtemjppchnhemjaaDoorTie.lean); close each card by the builder's one call (the guide's Derived/Test/ToyasCard.lean, 'card_holds'). Laid BY PROGRAM, IN A SANDBOX (cutbox-door.mjs). By AI agents, Wed Nov 11 2026. No macro, syntax, notation, axiom, sorry.
-/
import Derived.Test.YtemjppchnhemjaaDoorRows
import GoSem.ClaimSeven
namespace Go.Proofs.YtemjppchnhemjaaDoor
namespace Rows

/-- THE TIED CARD OF 'laws.FnExactDaysUntil'. -/
def fnExactDaysUntilCard : Claim7 := { stood := { row := fnExactDaysUntilRow, standIns := [], harness := (true, "2364df097132e2848b8d585fb3c3c1c37964cc7bdca40600605bee925e53f589"), looks := true }, kinds := [], alts := [], laidByText := true, laidKinds := [.handle], laidTests := true, laidLooks := .later }
def FnExactDaysUntilCardSaid : Prop := Claim7.holds Tryd.pinned (.plain (OpenSpec.ofChange fnExactDaysUntilSpec)) fnExactDaysUntilCard

/-- THE TIED CARD OF 'laws.FnExactSpotsOf'. -/
def fnExactSpotsOfCard : Claim7 := { stood := { row := fnExactSpotsOfRow, standIns := [], harness := (true, "2364df097132e2848b8d585fb3c3c1c37964cc7bdca40600605bee925e53f589"), looks := true }, kinds := [], alts := [], laidByText := true, laidKinds := [.handle], laidTests := true, laidLooks := .later }
def FnExactSpotsOfCardSaid : Prop := Claim7.holds Tryd.pinned (.plain (OpenSpec.ofChange fnExactSpotsOfSpec)) fnExactSpotsOfCard

/-- THE TIED CARD OF 'laws.FnExactRunRounds'. -/
def fnExactRunRoundsCard : Claim7 := { stood := { row := fnExactRunRoundsRow, standIns := [], harness := (true, "2364df097132e2848b8d585fb3c3c1c37964cc7bdca40600605bee925e53f589"), looks := true }, kinds := [], alts := [], laidByText := true, laidKinds := [.handle], laidTests := true, laidLooks := .later }
def FnExactRunRoundsCardSaid : Prop := Claim7.holds Tryd.pinned (.plain (OpenSpec.ofChange fnExactRunRoundsSpec)) fnExactRunRoundsCard

/-- THE TIED CARD OF 'laws.FnExactFewestWeeds'. -/
def fnExactFewestWeedsCard : Claim7 := { stood := { row := fnExactFewestWeedsRow, standIns := [], harness := (true, "2364df097132e2848b8d585fb3c3c1c37964cc7bdca40600605bee925e53f589"), looks := true }, kinds := [], alts := [], laidByText := true, laidKinds := [.handle], laidTests := true, laidLooks := .later }
def FnExactFewestWeedsCardSaid : Prop := Claim7.holds Tryd.pinned (.plain (OpenSpec.ofChange fnExactFewestWeedsSpec)) fnExactFewestWeedsCard

/-- THE TIED CARD OF 'laws.FnExactFewestCuts'. -/
def fnExactFewestCutsCard : Claim7 := { stood := { row := fnExactFewestCutsRow, standIns := [], harness := (true, "2364df097132e2848b8d585fb3c3c1c37964cc7bdca40600605bee925e53f589"), looks := true }, kinds := [], alts := [], laidByText := true, laidKinds := [.handle], laidTests := true, laidLooks := .later }
def FnExactFewestCutsCardSaid : Prop := Claim7.holds Tryd.pinned (.plain (OpenSpec.ofChange fnExactFewestCutsSpec)) fnExactFewestCutsCard

/-- THE SECOND FORM's CARD OF 'laws.FnExactDaysUntil'. -/
def fnExactDaysUntilUptoCard : Claim7 := { stood := { row := fnExactDaysUntilUptoRow, standIns := [], harness := (true, "2364df097132e2848b8d585fb3c3c1c37964cc7bdca40600605bee925e53f589"), looks := true }, kinds := [], alts := [], laidByText := true, laidKinds := [.handle], laidTests := true, laidLooks := .later }
def FnExactDaysUntilUptoCardSaid : Prop := Claim7.holds Tryd.pinned (.plain (OpenSpec.upto fnExactDaysUntilSpec)) fnExactDaysUntilUptoCard

/-- THE SECOND FORM's CARD OF 'laws.FnExactSpotsOf'. -/
def fnExactSpotsOfUptoCard : Claim7 := { stood := { row := fnExactSpotsOfUptoRow, standIns := [], harness := (true, "2364df097132e2848b8d585fb3c3c1c37964cc7bdca40600605bee925e53f589"), looks := true }, kinds := [], alts := [], laidByText := true, laidKinds := [.handle], laidTests := true, laidLooks := .later }
def FnExactSpotsOfUptoCardSaid : Prop := Claim7.holds Tryd.pinned (.plain (OpenSpec.upto fnExactSpotsOfSpec)) fnExactSpotsOfUptoCard

/-- THE SECOND FORM's CARD OF 'laws.FnExactRunRounds'. -/
def fnExactRunRoundsUptoCard : Claim7 := { stood := { row := fnExactRunRoundsUptoRow, standIns := [], harness := (true, "2364df097132e2848b8d585fb3c3c1c37964cc7bdca40600605bee925e53f589"), looks := true }, kinds := [], alts := [], laidByText := true, laidKinds := [.handle], laidTests := true, laidLooks := .later }
def FnExactRunRoundsUptoCardSaid : Prop := Claim7.holds Tryd.pinned (.plain (OpenSpec.upto fnExactRunRoundsSpec)) fnExactRunRoundsUptoCard

/-- THE SECOND FORM's CARD OF 'laws.FnExactFewestWeeds'. -/
def fnExactFewestWeedsUptoCard : Claim7 := { stood := { row := fnExactFewestWeedsUptoRow, standIns := [], harness := (true, "2364df097132e2848b8d585fb3c3c1c37964cc7bdca40600605bee925e53f589"), looks := true }, kinds := [], alts := [], laidByText := true, laidKinds := [.handle], laidTests := true, laidLooks := .later }
def FnExactFewestWeedsUptoCardSaid : Prop := Claim7.holds Tryd.pinned (.plain (OpenSpec.upto fnExactFewestWeedsSpec)) fnExactFewestWeedsUptoCard

/-- THE SECOND FORM's CARD OF 'laws.FnExactFewestCuts'. -/
def fnExactFewestCutsUptoCard : Claim7 := { stood := { row := fnExactFewestCutsUptoRow, standIns := [], harness := (true, "2364df097132e2848b8d585fb3c3c1c37964cc7bdca40600605bee925e53f589"), looks := true }, kinds := [], alts := [], laidByText := true, laidKinds := [.handle], laidTests := true, laidLooks := .later }
def FnExactFewestCutsUptoCardSaid : Prop := Claim7.holds Tryd.pinned (.plain (OpenSpec.upto fnExactFewestCutsSpec)) fnExactFewestCutsUptoCard
end Rows
end Go.Proofs.YtemjppchnhemjaaDoor
