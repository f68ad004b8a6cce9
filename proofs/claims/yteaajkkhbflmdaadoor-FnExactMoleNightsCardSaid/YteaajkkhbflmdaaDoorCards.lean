/-
  DERIVED. GIVEN WITH THE SEED: THE CARDS: each row of YteaajkkhbflmdaaDoorRows.lean that lists a variable, with what it lists TIED to the program's text (the seventh form; the later family's looks); each row that meets fmt, with fmt's text TOLD by the authors' own Lean function (tested against real Go, not proved from fmt's source: count such statements apart). THE CARD IS WHAT COUNTS. Prove the row's statement (the work); the ties are given (YteaajkkhbflmdaaDoorTie.lean); close each card by the builder's one call (the guide's Derived/Test/ToyasCard.lean, 'card_holds'). Laid BY PROGRAM, IN A SANDBOX (cutbox-door.mjs). By AI agents, Wed Nov 11 2026. No macro, syntax, notation, axiom, sorry.
-/
import Derived.Test.YteaajkkhbflmdaaDoorRows
import GoSem.ClaimSeven
namespace Go.Proofs.YteaajkkhbflmdaaDoor
namespace Rows

/-- THE TIED CARD OF 'laws.FnExactMoveSoil'. -/
def fnExactMoveSoilCard : Claim7 := { stood := { row := fnExactMoveSoilRow, standIns := [], harness := (true, "d265fb2d82d17c3712acb54c6fe4f50ef64d7b6e12fe8ca685db564757bf6a81"), looks := true }, kinds := [], alts := [], laidByText := true, laidKinds := [.sentinel, .sentinel, .sentinel, .sentinel, .sentinel], laidTests := true, laidLooks := .later }
def FnExactMoveSoilCardSaid : Prop := Claim7.holds Tryd.pinned (.plain (OpenSpec.ofChange fnExactMoveSoilSpec)) fnExactMoveSoilCard

/-- THE TIED CARD OF 'laws.FnExactMoveAll'. -/
def fnExactMoveAllCard : Claim7 := { stood := { row := fnExactMoveAllRow, standIns := [], harness := (true, "d265fb2d82d17c3712acb54c6fe4f50ef64d7b6e12fe8ca685db564757bf6a81"), looks := true }, kinds := [], alts := [], laidByText := true, laidKinds := [.sentinel, .sentinel, .sentinel, .sentinel, .sentinel], laidTests := true, laidLooks := .later }
def FnExactMoveAllCardSaid : Prop := Claim7.holds Tryd.pinned (.plain (OpenSpec.ofChange fnExactMoveAllSpec)) fnExactMoveAllCard

/-- THE TIED CARD OF 'laws.FnExactMoleOnce'. -/
def fnExactMoleOnceCard : Claim7 := { stood := { row := fnExactMoleOnceRow, standIns := [], harness := (true, "d265fb2d82d17c3712acb54c6fe4f50ef64d7b6e12fe8ca685db564757bf6a81"), looks := true }, kinds := [], alts := [], laidByText := true, laidKinds := [.sentinel, .sentinel, .sentinel, .sentinel, .sentinel], laidTests := true, laidLooks := .later }
def FnExactMoleOnceCardSaid : Prop := Claim7.holds Tryd.pinned (.plain (OpenSpec.ofChange fnExactMoleOnceSpec)) fnExactMoleOnceCard

/-- THE TIED CARD OF 'laws.FnExactMoleNights'. -/
def fnExactMoleNightsCard : Claim7 := { stood := { row := fnExactMoleNightsRow, standIns := [], harness := (true, "d265fb2d82d17c3712acb54c6fe4f50ef64d7b6e12fe8ca685db564757bf6a81"), looks := true }, kinds := [], alts := [], laidByText := true, laidKinds := [.sentinel, .sentinel, .sentinel, .sentinel, .sentinel], laidTests := true, laidLooks := .later }
def FnExactMoleNightsCardSaid : Prop := Claim7.holds Tryd.pinned (.plain (OpenSpec.ofChange fnExactMoleNightsSpec)) fnExactMoleNightsCard

/-- THE TIED CARD OF 'laws.FnExactNightOf'. -/
def fnExactNightOfCard : Claim7 := { stood := { row := fnExactNightOfRow, standIns := [], harness := (true, "d265fb2d82d17c3712acb54c6fe4f50ef64d7b6e12fe8ca685db564757bf6a81"), looks := true }, kinds := [], alts := [], laidByText := true, laidKinds := [.sentinel, .sentinel, .sentinel, .sentinel, .sentinel], laidTests := true, laidLooks := .later }
def FnExactNightOfCardSaid : Prop := Claim7.holds Tryd.pinned (.plain (OpenSpec.ofChange fnExactNightOfSpec)) fnExactNightOfCard

/-- THE SECOND FORM's CARD OF 'laws.FnExactMoveSoil'. -/
def fnExactMoveSoilUptoCard : Claim7 := { stood := { row := fnExactMoveSoilUptoRow, standIns := [], harness := (true, "d265fb2d82d17c3712acb54c6fe4f50ef64d7b6e12fe8ca685db564757bf6a81"), looks := true }, kinds := [], alts := [], laidByText := true, laidKinds := [.sentinel, .sentinel, .sentinel, .sentinel, .sentinel], laidTests := true, laidLooks := .later }
def FnExactMoveSoilUptoCardSaid : Prop := Claim7.holds Tryd.pinned (.plain (OpenSpec.upto fnExactMoveSoilSpec)) fnExactMoveSoilUptoCard

/-- THE SECOND FORM's CARD OF 'laws.FnExactMoveAll'. -/
def fnExactMoveAllUptoCard : Claim7 := { stood := { row := fnExactMoveAllUptoRow, standIns := [], harness := (true, "d265fb2d82d17c3712acb54c6fe4f50ef64d7b6e12fe8ca685db564757bf6a81"), looks := true }, kinds := [], alts := [], laidByText := true, laidKinds := [.sentinel, .sentinel, .sentinel, .sentinel, .sentinel], laidTests := true, laidLooks := .later }
def FnExactMoveAllUptoCardSaid : Prop := Claim7.holds Tryd.pinned (.plain (OpenSpec.upto fnExactMoveAllSpec)) fnExactMoveAllUptoCard

/-- THE SECOND FORM's CARD OF 'laws.FnExactMoleOnce'. -/
def fnExactMoleOnceUptoCard : Claim7 := { stood := { row := fnExactMoleOnceUptoRow, standIns := [], harness := (true, "d265fb2d82d17c3712acb54c6fe4f50ef64d7b6e12fe8ca685db564757bf6a81"), looks := true }, kinds := [], alts := [], laidByText := true, laidKinds := [.sentinel, .sentinel, .sentinel, .sentinel, .sentinel], laidTests := true, laidLooks := .later }
def FnExactMoleOnceUptoCardSaid : Prop := Claim7.holds Tryd.pinned (.plain (OpenSpec.upto fnExactMoleOnceSpec)) fnExactMoleOnceUptoCard

/-- THE SECOND FORM's CARD OF 'laws.FnExactMoleNights'. -/
def fnExactMoleNightsUptoCard : Claim7 := { stood := { row := fnExactMoleNightsUptoRow, standIns := [], harness := (true, "d265fb2d82d17c3712acb54c6fe4f50ef64d7b6e12fe8ca685db564757bf6a81"), looks := true }, kinds := [], alts := [], laidByText := true, laidKinds := [.sentinel, .sentinel, .sentinel, .sentinel, .sentinel], laidTests := true, laidLooks := .later }
def FnExactMoleNightsUptoCardSaid : Prop := Claim7.holds Tryd.pinned (.plain (OpenSpec.upto fnExactMoleNightsSpec)) fnExactMoleNightsUptoCard

/-- THE SECOND FORM's CARD OF 'laws.FnExactNightOf'. -/
def fnExactNightOfUptoCard : Claim7 := { stood := { row := fnExactNightOfUptoRow, standIns := [], harness := (true, "d265fb2d82d17c3712acb54c6fe4f50ef64d7b6e12fe8ca685db564757bf6a81"), looks := true }, kinds := [], alts := [], laidByText := true, laidKinds := [.sentinel, .sentinel, .sentinel, .sentinel, .sentinel], laidTests := true, laidLooks := .later }
def FnExactNightOfUptoCardSaid : Prop := Claim7.holds Tryd.pinned (.plain (OpenSpec.upto fnExactNightOfSpec)) fnExactNightOfUptoCard
end Rows
end Go.Proofs.YteaajkkhbflmdaaDoor
