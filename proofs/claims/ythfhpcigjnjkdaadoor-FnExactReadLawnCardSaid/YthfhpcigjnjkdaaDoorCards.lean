/-
  DERIVED. GIVEN WITH THE SEED: THE CARDS: each row of YthfhpcigjnjkdaaDoorRows.lean that lists a variable, with what it lists TIED to the program's text (the seventh form; the later family's looks); each row that meets fmt, with fmt's text TOLD by the authors' own Lean function (tested against real Go, not proved from fmt's source: count such statements apart). THE CARD IS WHAT COUNTS. Prove the row's statement (the work); the ties are given (YthfhpcigjnjkdaaDoorTie.lean); close each card by the builder's one call (the guide's Derived/Test/ToyasCard.lean, 'card_holds'). Laid BY PROGRAM, IN A SANDBOX (cutbox-door.mjs). By AI agents, Wed Nov 11 2026. No macro, syntax, notation, axiom, sorry.
-/
import Derived.Test.YthfhpcigjnjkdaaDoorRows
import GoSem.ClaimSeven
namespace Go.Proofs.YthfhpcigjnjkdaaDoor
namespace Rows

/-- THE TIED CARD OF 'laws.FnExactReadLawn'. -/
def fnExactReadLawnCard : Claim7 := { stood := { row := fnExactReadLawnRow, standIns := [], harness := (true, "afb1df4523bfc3ca8860914a89243907ef5f600a008f1921a50b6428ec0c5991"), looks := true }, kinds := [], alts := [], laidByText := true, laidKinds := [.data, .pinned], laidTests := true, laidLooks := .later }
def FnExactReadLawnCardSaid : Prop := Claim7.holds Tryd.pinned (.plain (OpenSpec.ofChange fnExactReadLawnSpec)) fnExactReadLawnCard

/-- THE TIED CARD OF 'laws.FnExactWeatherText'. -/
def fnExactWeatherTextCard : Claim7 := { stood := { row := fnExactWeatherTextRow, standIns := [], harness := (true, "afb1df4523bfc3ca8860914a89243907ef5f600a008f1921a50b6428ec0c5991"), looks := true }, kinds := [], alts := [], laidByText := true, laidKinds := [.data, .data, .data], laidTests := true, laidLooks := .later }
def FnExactWeatherTextCardSaid : Prop := Claim7.holds Tryd.pinned (.plain (OpenSpec.ofChange fnExactWeatherTextSpec)) fnExactWeatherTextCard

/-- THE TIED CARD OF 'laws.FnExactReadWeather'. -/
def fnExactReadWeatherCard : Claim7 := { stood := { row := fnExactReadWeatherRow, standIns := [], harness := (true, "afb1df4523bfc3ca8860914a89243907ef5f600a008f1921a50b6428ec0c5991"), looks := true }, kinds := [], alts := [], laidByText := true, laidKinds := [.data, .data, .data, .data, .sentinel, .sentinel, .pinned], laidTests := true, laidLooks := .later }
def FnExactReadWeatherCardSaid : Prop := Claim7.holds Tryd.pinned (.plain (OpenSpec.ofChange fnExactReadWeatherSpec)) fnExactReadWeatherCard

/-- THE TIED CARD OF 'laws.FnExactWalkText'. -/
def fnExactWalkTextCard : Claim7 := { stood := { row := fnExactWalkTextRow, standIns := [], harness := (true, "afb1df4523bfc3ca8860914a89243907ef5f600a008f1921a50b6428ec0c5991"), looks := true }, kinds := [], alts := [], laidByText := true, laidKinds := [.data, .data, .data], laidTests := true, laidLooks := .later }
def FnExactWalkTextCardSaid : Prop := Claim7.holds Tryd.pinned (.plain (OpenSpec.ofChange fnExactWalkTextSpec)) fnExactWalkTextCard

/-- THE TIED CARD OF 'laws.FnExactReadWalk'. -/
def fnExactReadWalkCard : Claim7 := { stood := { row := fnExactReadWalkRow, standIns := [], harness := (true, "afb1df4523bfc3ca8860914a89243907ef5f600a008f1921a50b6428ec0c5991"), looks := true }, kinds := [], alts := [], laidByText := true, laidKinds := [.data, .data, .data, .data, .sentinel, .sentinel, .pinned], laidTests := true, laidLooks := .later }
def FnExactReadWalkCardSaid : Prop := Claim7.holds Tryd.pinned (.plain (OpenSpec.ofChange fnExactReadWalkSpec)) fnExactReadWalkCard

/-- THE TIED CARD OF 'laws.FnExactSidesText'. -/
def fnExactSidesTextCard : Claim7 := { stood := { row := fnExactSidesTextRow, standIns := [], harness := (true, "afb1df4523bfc3ca8860914a89243907ef5f600a008f1921a50b6428ec0c5991"), looks := true }, kinds := [], alts := [], laidByText := true, laidKinds := [.data, .data, .data], laidTests := true, laidLooks := .later }
def FnExactSidesTextCardSaid : Prop := Claim7.holds Tryd.pinned (.plain (OpenSpec.ofChange fnExactSidesTextSpec)) fnExactSidesTextCard

/-- THE TIED CARD OF 'laws.FnExactReadSides'. -/
def fnExactReadSidesCard : Claim7 := { stood := { row := fnExactReadSidesRow, standIns := [], harness := (true, "afb1df4523bfc3ca8860914a89243907ef5f600a008f1921a50b6428ec0c5991"), looks := true }, kinds := [], alts := [], laidByText := true, laidKinds := [.data, .data, .data, .data, .sentinel, .sentinel, .pinned], laidTests := true, laidLooks := .later }
def FnExactReadSidesCardSaid : Prop := Claim7.holds Tryd.pinned (.plain (OpenSpec.ofChange fnExactReadSidesSpec)) fnExactReadSidesCard

/-- THE TIED CARD OF 'laws.FnExactLevelsText'. -/
def fnExactLevelsTextCard : Claim7 := { stood := { row := fnExactLevelsTextRow, standIns := [], harness := (true, "afb1df4523bfc3ca8860914a89243907ef5f600a008f1921a50b6428ec0c5991"), looks := true }, kinds := [], alts := [], laidByText := true, laidKinds := [.data, .data, .data], laidTests := true, laidLooks := .later }
def FnExactLevelsTextCardSaid : Prop := Claim7.holds Tryd.pinned (.plain (OpenSpec.ofChange fnExactLevelsTextSpec)) fnExactLevelsTextCard

/-- THE TIED CARD OF 'laws.FnExactReadLevels'. -/
def fnExactReadLevelsCard : Claim7 := { stood := { row := fnExactReadLevelsRow, standIns := [], harness := (true, "afb1df4523bfc3ca8860914a89243907ef5f600a008f1921a50b6428ec0c5991"), looks := true }, kinds := [], alts := [], laidByText := true, laidKinds := [.data, .data, .data, .data, .sentinel, .sentinel, .pinned], laidTests := true, laidLooks := .later }
def FnExactReadLevelsCardSaid : Prop := Claim7.holds Tryd.pinned (.plain (OpenSpec.ofChange fnExactReadLevelsSpec)) fnExactReadLevelsCard

/-- THE TIED CARD OF 'laws.FnExactRoundsText'. -/
def fnExactRoundsTextCard : Claim7 := { stood := { row := fnExactRoundsTextRow, standIns := [], harness := (true, "afb1df4523bfc3ca8860914a89243907ef5f600a008f1921a50b6428ec0c5991"), looks := true }, kinds := [], alts := [], laidByText := true, laidKinds := [.data, .data, .data], laidTests := true, laidLooks := .later }
def FnExactRoundsTextCardSaid : Prop := Claim7.holds Tryd.pinned (.plain (OpenSpec.ofChange fnExactRoundsTextSpec)) fnExactRoundsTextCard

/-- THE TIED CARD OF 'laws.FnExactReadRounds'. -/
def fnExactReadRoundsCard : Claim7 := { stood := { row := fnExactReadRoundsRow, standIns := [], harness := (true, "afb1df4523bfc3ca8860914a89243907ef5f600a008f1921a50b6428ec0c5991"), looks := true }, kinds := [], alts := [], laidByText := true, laidKinds := [.data, .data, .data, .data, .sentinel, .sentinel, .pinned], laidTests := true, laidLooks := .later }
def FnExactReadRoundsCardSaid : Prop := Claim7.holds Tryd.pinned (.plain (OpenSpec.ofChange fnExactReadRoundsSpec)) fnExactReadRoundsCard

/-- THE SECOND FORM's CARD OF 'laws.FnExactReadLawn'. -/
def fnExactReadLawnUptoCard : Claim7 := { stood := { row := fnExactReadLawnUptoRow, standIns := [], harness := (true, "afb1df4523bfc3ca8860914a89243907ef5f600a008f1921a50b6428ec0c5991"), looks := true }, kinds := [], alts := [], laidByText := true, laidKinds := [.data, .pinned], laidTests := true, laidLooks := .later }
def FnExactReadLawnUptoCardSaid : Prop := Claim7.holds Tryd.pinned (.plain (OpenSpec.upto fnExactReadLawnSpec)) fnExactReadLawnUptoCard

/-- THE SECOND FORM's CARD OF 'laws.FnExactWeatherText'. -/
def fnExactWeatherTextUptoCard : Claim7 := { stood := { row := fnExactWeatherTextUptoRow, standIns := [], harness := (true, "afb1df4523bfc3ca8860914a89243907ef5f600a008f1921a50b6428ec0c5991"), looks := true }, kinds := [], alts := [], laidByText := true, laidKinds := [.data, .data, .data], laidTests := true, laidLooks := .later }
def FnExactWeatherTextUptoCardSaid : Prop := Claim7.holds Tryd.pinned (.plain (OpenSpec.upto fnExactWeatherTextSpec)) fnExactWeatherTextUptoCard

/-- THE SECOND FORM's CARD OF 'laws.FnExactReadWeather'. -/
def fnExactReadWeatherUptoCard : Claim7 := { stood := { row := fnExactReadWeatherUptoRow, standIns := [], harness := (true, "afb1df4523bfc3ca8860914a89243907ef5f600a008f1921a50b6428ec0c5991"), looks := true }, kinds := [], alts := [], laidByText := true, laidKinds := [.data, .data, .data, .data, .sentinel, .sentinel, .pinned], laidTests := true, laidLooks := .later }
def FnExactReadWeatherUptoCardSaid : Prop := Claim7.holds Tryd.pinned (.plain (OpenSpec.upto fnExactReadWeatherSpec)) fnExactReadWeatherUptoCard

/-- THE SECOND FORM's CARD OF 'laws.FnExactWalkText'. -/
def fnExactWalkTextUptoCard : Claim7 := { stood := { row := fnExactWalkTextUptoRow, standIns := [], harness := (true, "afb1df4523bfc3ca8860914a89243907ef5f600a008f1921a50b6428ec0c5991"), looks := true }, kinds := [], alts := [], laidByText := true, laidKinds := [.data, .data, .data], laidTests := true, laidLooks := .later }
def FnExactWalkTextUptoCardSaid : Prop := Claim7.holds Tryd.pinned (.plain (OpenSpec.upto fnExactWalkTextSpec)) fnExactWalkTextUptoCard

/-- THE SECOND FORM's CARD OF 'laws.FnExactReadWalk'. -/
def fnExactReadWalkUptoCard : Claim7 := { stood := { row := fnExactReadWalkUptoRow, standIns := [], harness := (true, "afb1df4523bfc3ca8860914a89243907ef5f600a008f1921a50b6428ec0c5991"), looks := true }, kinds := [], alts := [], laidByText := true, laidKinds := [.data, .data, .data, .data, .sentinel, .sentinel, .pinned], laidTests := true, laidLooks := .later }
def FnExactReadWalkUptoCardSaid : Prop := Claim7.holds Tryd.pinned (.plain (OpenSpec.upto fnExactReadWalkSpec)) fnExactReadWalkUptoCard

/-- THE SECOND FORM's CARD OF 'laws.FnExactSidesText'. -/
def fnExactSidesTextUptoCard : Claim7 := { stood := { row := fnExactSidesTextUptoRow, standIns := [], harness := (true, "afb1df4523bfc3ca8860914a89243907ef5f600a008f1921a50b6428ec0c5991"), looks := true }, kinds := [], alts := [], laidByText := true, laidKinds := [.data, .data, .data], laidTests := true, laidLooks := .later }
def FnExactSidesTextUptoCardSaid : Prop := Claim7.holds Tryd.pinned (.plain (OpenSpec.upto fnExactSidesTextSpec)) fnExactSidesTextUptoCard

/-- THE SECOND FORM's CARD OF 'laws.FnExactReadSides'. -/
def fnExactReadSidesUptoCard : Claim7 := { stood := { row := fnExactReadSidesUptoRow, standIns := [], harness := (true, "afb1df4523bfc3ca8860914a89243907ef5f600a008f1921a50b6428ec0c5991"), looks := true }, kinds := [], alts := [], laidByText := true, laidKinds := [.data, .data, .data, .data, .sentinel, .sentinel, .pinned], laidTests := true, laidLooks := .later }
def FnExactReadSidesUptoCardSaid : Prop := Claim7.holds Tryd.pinned (.plain (OpenSpec.upto fnExactReadSidesSpec)) fnExactReadSidesUptoCard

/-- THE SECOND FORM's CARD OF 'laws.FnExactLevelsText'. -/
def fnExactLevelsTextUptoCard : Claim7 := { stood := { row := fnExactLevelsTextUptoRow, standIns := [], harness := (true, "afb1df4523bfc3ca8860914a89243907ef5f600a008f1921a50b6428ec0c5991"), looks := true }, kinds := [], alts := [], laidByText := true, laidKinds := [.data, .data, .data], laidTests := true, laidLooks := .later }
def FnExactLevelsTextUptoCardSaid : Prop := Claim7.holds Tryd.pinned (.plain (OpenSpec.upto fnExactLevelsTextSpec)) fnExactLevelsTextUptoCard

/-- THE SECOND FORM's CARD OF 'laws.FnExactReadLevels'. -/
def fnExactReadLevelsUptoCard : Claim7 := { stood := { row := fnExactReadLevelsUptoRow, standIns := [], harness := (true, "afb1df4523bfc3ca8860914a89243907ef5f600a008f1921a50b6428ec0c5991"), looks := true }, kinds := [], alts := [], laidByText := true, laidKinds := [.data, .data, .data, .data, .sentinel, .sentinel, .pinned], laidTests := true, laidLooks := .later }
def FnExactReadLevelsUptoCardSaid : Prop := Claim7.holds Tryd.pinned (.plain (OpenSpec.upto fnExactReadLevelsSpec)) fnExactReadLevelsUptoCard

/-- THE SECOND FORM's CARD OF 'laws.FnExactRoundsText'. -/
def fnExactRoundsTextUptoCard : Claim7 := { stood := { row := fnExactRoundsTextUptoRow, standIns := [], harness := (true, "afb1df4523bfc3ca8860914a89243907ef5f600a008f1921a50b6428ec0c5991"), looks := true }, kinds := [], alts := [], laidByText := true, laidKinds := [.data, .data, .data], laidTests := true, laidLooks := .later }
def FnExactRoundsTextUptoCardSaid : Prop := Claim7.holds Tryd.pinned (.plain (OpenSpec.upto fnExactRoundsTextSpec)) fnExactRoundsTextUptoCard

/-- THE SECOND FORM's CARD OF 'laws.FnExactReadRounds'. -/
def fnExactReadRoundsUptoCard : Claim7 := { stood := { row := fnExactReadRoundsUptoRow, standIns := [], harness := (true, "afb1df4523bfc3ca8860914a89243907ef5f600a008f1921a50b6428ec0c5991"), looks := true }, kinds := [], alts := [], laidByText := true, laidKinds := [.data, .data, .data, .data, .sentinel, .sentinel, .pinned], laidTests := true, laidLooks := .later }
def FnExactReadRoundsUptoCardSaid : Prop := Claim7.holds Tryd.pinned (.plain (OpenSpec.upto fnExactReadRoundsSpec)) fnExactReadRoundsUptoCard
end Rows
end Go.Proofs.YthfhpcigjnjkdaaDoor
