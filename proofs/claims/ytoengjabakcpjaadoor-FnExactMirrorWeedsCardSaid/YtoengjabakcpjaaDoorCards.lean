/-
  DERIVED. GIVEN WITH THE SEED: THE CARDS: each row of YtoengjabakcpjaaDoorRows.lean that lists a variable, with what it lists TIED to the program's text (the seventh form; the later family's looks); each row that meets fmt, with fmt's text TOLD by the authors' own Lean function (tested against real Go, not proved from fmt's source: count such statements apart). THE CARD IS WHAT COUNTS. Prove the row's statement (the work); the ties are given (YtoengjabakcpjaaDoorTie.lean); close each card by the builder's one call (the guide's Derived/Test/ToyasCard.lean, 'card_holds'). Laid BY PROGRAM, IN A SANDBOX (cutbox-door.mjs). By AI agents, Wed Nov 11 2026. No macro, syntax, notation, axiom, sorry.
-/
import Derived.Test.YtoengjabakcpjaaDoorRows
import GoSem.ClaimSeven
namespace Go.Proofs.YtoengjabakcpjaaDoor
namespace Rows

/-- THE TIED CARD OF 'laws.FnExactCountWeeds'. -/
def fnExactCountWeedsCard : Claim7 := { stood := { row := fnExactCountWeedsRow, standIns := [], harness := (true, "77445e029c8f3af07887f388ceed07fec06733b4f597eb5580890b6ba10ddf44"), looks := true }, kinds := [], alts := [], laidByText := true, laidKinds := [.handle], laidTests := true, laidLooks := .later }
def FnExactCountWeedsCardSaid : Prop := Claim7.holds Tryd.pinned (.plain (OpenSpec.ofChange fnExactCountWeedsSpec)) fnExactCountWeedsCard

/-- THE TIED CARD OF 'laws.FnExactSpreadOnce'. -/
def fnExactSpreadOnceCard : Claim7 := { stood := { row := fnExactSpreadOnceRow, standIns := [], harness := (true, "77445e029c8f3af07887f388ceed07fec06733b4f597eb5580890b6ba10ddf44"), looks := true }, kinds := [], alts := [], laidByText := true, laidKinds := [.handle], laidTests := true, laidLooks := .later }
def FnExactSpreadOnceCardSaid : Prop := Claim7.holds Tryd.pinned (.plain (OpenSpec.ofChange fnExactSpreadOnceSpec)) fnExactSpreadOnceCard

/-- THE TIED CARD OF 'laws.FnExactSpreadDays'. -/
def fnExactSpreadDaysCard : Claim7 := { stood := { row := fnExactSpreadDaysRow, standIns := [], harness := (true, "77445e029c8f3af07887f388ceed07fec06733b4f597eb5580890b6ba10ddf44"), looks := true }, kinds := [], alts := [], laidByText := true, laidKinds := [.handle], laidTests := true, laidLooks := .later }
def FnExactSpreadDaysCardSaid : Prop := Claim7.holds Tryd.pinned (.plain (OpenSpec.ofChange fnExactSpreadDaysSpec)) fnExactSpreadDaysCard

/-- THE TIED CARD OF 'laws.FnExactDaysUntil'. -/
def fnExactDaysUntilCard : Claim7 := { stood := { row := fnExactDaysUntilRow, standIns := [], harness := (true, "77445e029c8f3af07887f388ceed07fec06733b4f597eb5580890b6ba10ddf44"), looks := true }, kinds := [], alts := [], laidByText := true, laidKinds := [.handle], laidTests := true, laidLooks := .later }
def FnExactDaysUntilCardSaid : Prop := Claim7.holds Tryd.pinned (.plain (OpenSpec.ofChange fnExactDaysUntilSpec)) fnExactDaysUntilCard

/-- THE TIED CARD OF 'laws.FnExactCutRow'. -/
def fnExactCutRowCard : Claim7 := { stood := { row := fnExactCutRowRow, standIns := [], harness := (true, "77445e029c8f3af07887f388ceed07fec06733b4f597eb5580890b6ba10ddf44"), looks := true }, kinds := [], alts := [], laidByText := true, laidKinds := [.handle], laidTests := true, laidLooks := .later }
def FnExactCutRowCardSaid : Prop := Claim7.holds Tryd.pinned (.plain (OpenSpec.ofChange fnExactCutRowSpec)) fnExactCutRowCard

/-- THE TIED CARD OF 'laws.FnExactHoeRow'. -/
def fnExactHoeRowCard : Claim7 := { stood := { row := fnExactHoeRowRow, standIns := [], harness := (true, "77445e029c8f3af07887f388ceed07fec06733b4f597eb5580890b6ba10ddf44"), looks := true }, kinds := [], alts := [], laidByText := true, laidKinds := [.handle], laidTests := true, laidLooks := .later }
def FnExactHoeRowCardSaid : Prop := Claim7.holds Tryd.pinned (.plain (OpenSpec.ofChange fnExactHoeRowSpec)) fnExactHoeRowCard

/-- THE TIED CARD OF 'laws.FnExactBestRow'. -/
def fnExactBestRowCard : Claim7 := { stood := { row := fnExactBestRowRow, standIns := [], harness := (true, "77445e029c8f3af07887f388ceed07fec06733b4f597eb5580890b6ba10ddf44"), looks := true }, kinds := [], alts := [], laidByText := true, laidKinds := [.handle], laidTests := true, laidLooks := .later }
def FnExactBestRowCardSaid : Prop := Claim7.holds Tryd.pinned (.plain (OpenSpec.ofChange fnExactBestRowSpec)) fnExactBestRowCard

/-- THE TIED CARD OF 'laws.FnExactMayBeFrom'. -/
def fnExactMayBeFromCard : Claim7 := { stood := { row := fnExactMayBeFromRow, standIns := [], harness := (true, "77445e029c8f3af07887f388ceed07fec06733b4f597eb5580890b6ba10ddf44"), looks := true }, kinds := [], alts := [], laidByText := true, laidKinds := [.handle], laidTests := true, laidLooks := .later }
def FnExactMayBeFromCardSaid : Prop := Claim7.holds Tryd.pinned (.plain (OpenSpec.ofChange fnExactMayBeFromSpec)) fnExactMayBeFromCard

/-- THE TIED CARD OF 'laws.FnExactSeedFor'. -/
def fnExactSeedForCard : Claim7 := { stood := { row := fnExactSeedForRow, standIns := [], harness := (true, "77445e029c8f3af07887f388ceed07fec06733b4f597eb5580890b6ba10ddf44"), looks := true }, kinds := [], alts := [], laidByText := true, laidKinds := [.handle], laidTests := true, laidLooks := .later }
def FnExactSeedForCardSaid : Prop := Claim7.holds Tryd.pinned (.plain (OpenSpec.ofChange fnExactSeedForSpec)) fnExactSeedForCard

/-- THE TIED CARD OF 'laws.FnExactMirrorWeeds'. -/
def fnExactMirrorWeedsCard : Claim7 := { stood := { row := fnExactMirrorWeedsRow, standIns := [], harness := (true, "77445e029c8f3af07887f388ceed07fec06733b4f597eb5580890b6ba10ddf44"), looks := true }, kinds := [], alts := [], laidByText := true, laidKinds := [.handle], laidTests := true, laidLooks := .later }
def FnExactMirrorWeedsCardSaid : Prop := Claim7.holds Tryd.pinned (.plain (OpenSpec.ofChange fnExactMirrorWeedsSpec)) fnExactMirrorWeedsCard

/-- THE TIED CARD OF 'laws.FnExactSpotsOf'. -/
def fnExactSpotsOfCard : Claim7 := { stood := { row := fnExactSpotsOfRow, standIns := [], harness := (true, "77445e029c8f3af07887f388ceed07fec06733b4f597eb5580890b6ba10ddf44"), looks := true }, kinds := [], alts := [], laidByText := true, laidKinds := [.handle], laidTests := true, laidLooks := .later }
def FnExactSpotsOfCardSaid : Prop := Claim7.holds Tryd.pinned (.plain (OpenSpec.ofChange fnExactSpotsOfSpec)) fnExactSpotsOfCard

/-- THE SECOND FORM's CARD OF 'laws.FnExactCountWeeds'. -/
def fnExactCountWeedsUptoCard : Claim7 := { stood := { row := fnExactCountWeedsUptoRow, standIns := [], harness := (true, "77445e029c8f3af07887f388ceed07fec06733b4f597eb5580890b6ba10ddf44"), looks := true }, kinds := [], alts := [], laidByText := true, laidKinds := [.handle], laidTests := true, laidLooks := .later }
def FnExactCountWeedsUptoCardSaid : Prop := Claim7.holds Tryd.pinned (.plain (OpenSpec.upto fnExactCountWeedsSpec)) fnExactCountWeedsUptoCard

/-- THE SECOND FORM's CARD OF 'laws.FnExactSpreadOnce'. -/
def fnExactSpreadOnceUptoCard : Claim7 := { stood := { row := fnExactSpreadOnceUptoRow, standIns := [], harness := (true, "77445e029c8f3af07887f388ceed07fec06733b4f597eb5580890b6ba10ddf44"), looks := true }, kinds := [], alts := [], laidByText := true, laidKinds := [.handle], laidTests := true, laidLooks := .later }
def FnExactSpreadOnceUptoCardSaid : Prop := Claim7.holds Tryd.pinned (.plain (OpenSpec.upto fnExactSpreadOnceSpec)) fnExactSpreadOnceUptoCard

/-- THE SECOND FORM's CARD OF 'laws.FnExactSpreadDays'. -/
def fnExactSpreadDaysUptoCard : Claim7 := { stood := { row := fnExactSpreadDaysUptoRow, standIns := [], harness := (true, "77445e029c8f3af07887f388ceed07fec06733b4f597eb5580890b6ba10ddf44"), looks := true }, kinds := [], alts := [], laidByText := true, laidKinds := [.handle], laidTests := true, laidLooks := .later }
def FnExactSpreadDaysUptoCardSaid : Prop := Claim7.holds Tryd.pinned (.plain (OpenSpec.upto fnExactSpreadDaysSpec)) fnExactSpreadDaysUptoCard

/-- THE SECOND FORM's CARD OF 'laws.FnExactDaysUntil'. -/
def fnExactDaysUntilUptoCard : Claim7 := { stood := { row := fnExactDaysUntilUptoRow, standIns := [], harness := (true, "77445e029c8f3af07887f388ceed07fec06733b4f597eb5580890b6ba10ddf44"), looks := true }, kinds := [], alts := [], laidByText := true, laidKinds := [.handle], laidTests := true, laidLooks := .later }
def FnExactDaysUntilUptoCardSaid : Prop := Claim7.holds Tryd.pinned (.plain (OpenSpec.upto fnExactDaysUntilSpec)) fnExactDaysUntilUptoCard

/-- THE SECOND FORM's CARD OF 'laws.FnExactCutRow'. -/
def fnExactCutRowUptoCard : Claim7 := { stood := { row := fnExactCutRowUptoRow, standIns := [], harness := (true, "77445e029c8f3af07887f388ceed07fec06733b4f597eb5580890b6ba10ddf44"), looks := true }, kinds := [], alts := [], laidByText := true, laidKinds := [.handle], laidTests := true, laidLooks := .later }
def FnExactCutRowUptoCardSaid : Prop := Claim7.holds Tryd.pinned (.plain (OpenSpec.upto fnExactCutRowSpec)) fnExactCutRowUptoCard

/-- THE SECOND FORM's CARD OF 'laws.FnExactHoeRow'. -/
def fnExactHoeRowUptoCard : Claim7 := { stood := { row := fnExactHoeRowUptoRow, standIns := [], harness := (true, "77445e029c8f3af07887f388ceed07fec06733b4f597eb5580890b6ba10ddf44"), looks := true }, kinds := [], alts := [], laidByText := true, laidKinds := [.handle], laidTests := true, laidLooks := .later }
def FnExactHoeRowUptoCardSaid : Prop := Claim7.holds Tryd.pinned (.plain (OpenSpec.upto fnExactHoeRowSpec)) fnExactHoeRowUptoCard

/-- THE SECOND FORM's CARD OF 'laws.FnExactBestRow'. -/
def fnExactBestRowUptoCard : Claim7 := { stood := { row := fnExactBestRowUptoRow, standIns := [], harness := (true, "77445e029c8f3af07887f388ceed07fec06733b4f597eb5580890b6ba10ddf44"), looks := true }, kinds := [], alts := [], laidByText := true, laidKinds := [.handle], laidTests := true, laidLooks := .later }
def FnExactBestRowUptoCardSaid : Prop := Claim7.holds Tryd.pinned (.plain (OpenSpec.upto fnExactBestRowSpec)) fnExactBestRowUptoCard

/-- THE SECOND FORM's CARD OF 'laws.FnExactMayBeFrom'. -/
def fnExactMayBeFromUptoCard : Claim7 := { stood := { row := fnExactMayBeFromUptoRow, standIns := [], harness := (true, "77445e029c8f3af07887f388ceed07fec06733b4f597eb5580890b6ba10ddf44"), looks := true }, kinds := [], alts := [], laidByText := true, laidKinds := [.handle], laidTests := true, laidLooks := .later }
def FnExactMayBeFromUptoCardSaid : Prop := Claim7.holds Tryd.pinned (.plain (OpenSpec.upto fnExactMayBeFromSpec)) fnExactMayBeFromUptoCard

/-- THE SECOND FORM's CARD OF 'laws.FnExactSeedFor'. -/
def fnExactSeedForUptoCard : Claim7 := { stood := { row := fnExactSeedForUptoRow, standIns := [], harness := (true, "77445e029c8f3af07887f388ceed07fec06733b4f597eb5580890b6ba10ddf44"), looks := true }, kinds := [], alts := [], laidByText := true, laidKinds := [.handle], laidTests := true, laidLooks := .later }
def FnExactSeedForUptoCardSaid : Prop := Claim7.holds Tryd.pinned (.plain (OpenSpec.upto fnExactSeedForSpec)) fnExactSeedForUptoCard

/-- THE SECOND FORM's CARD OF 'laws.FnExactMirrorWeeds'. -/
def fnExactMirrorWeedsUptoCard : Claim7 := { stood := { row := fnExactMirrorWeedsUptoRow, standIns := [], harness := (true, "77445e029c8f3af07887f388ceed07fec06733b4f597eb5580890b6ba10ddf44"), looks := true }, kinds := [], alts := [], laidByText := true, laidKinds := [.handle], laidTests := true, laidLooks := .later }
def FnExactMirrorWeedsUptoCardSaid : Prop := Claim7.holds Tryd.pinned (.plain (OpenSpec.upto fnExactMirrorWeedsSpec)) fnExactMirrorWeedsUptoCard

/-- THE SECOND FORM's CARD OF 'laws.FnExactSpotsOf'. -/
def fnExactSpotsOfUptoCard : Claim7 := { stood := { row := fnExactSpotsOfUptoRow, standIns := [], harness := (true, "77445e029c8f3af07887f388ceed07fec06733b4f597eb5580890b6ba10ddf44"), looks := true }, kinds := [], alts := [], laidByText := true, laidKinds := [.handle], laidTests := true, laidLooks := .later }
def FnExactSpotsOfUptoCardSaid : Prop := Claim7.holds Tryd.pinned (.plain (OpenSpec.upto fnExactSpotsOfSpec)) fnExactSpotsOfUptoCard
end Rows
end Go.Proofs.YtoengjabakcpjaaDoor
