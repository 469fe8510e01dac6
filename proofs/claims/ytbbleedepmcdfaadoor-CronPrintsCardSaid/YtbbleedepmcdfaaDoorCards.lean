/-
  DERIVED. GIVEN WITH THE SEED: THE CARDS: each row of YtbbleedepmcdfaaDoorRows.lean that lists a variable, with what it lists TIED to the program's text (the seventh form; the later family's looks); each row that meets fmt, with fmt's text TOLD by the authors' own Lean function (tested against real Go, not proved from fmt's source: count such statements apart). THE CARD IS WHAT COUNTS. Prove the row's statement (the work); the ties are given (YtbbleedepmcdfaaDoorTie.lean); close each card by the builder's one call (the guide's Derived/Test/ToyasCard.lean, 'card_holds'). Laid BY PROGRAM, IN A SANDBOX (cutbox-door.mjs). By AI agents, Wed Nov 11 2026. No macro, syntax, notation, axiom, sorry.
-/
import Derived.Test.YtbbleedepmcdfaaDoorRows
import GoSem.ClaimSeven
namespace Go.Proofs.YtbbleedepmcdfaaDoor
namespace Rows

/-- THE TIED CARD OF 'reveillelaw02.CronParses'. -/
def cronParsesCard : Claim7 := { stood := { row := cronParsesRow, standIns := [], harness := (true, "c7bc227a9e406e84d55eaa721c02f07d39d470c7b5c01538762b60676cd35cc9"), looks := false }, kinds := [], alts := [], laidByText := true, laidKinds := [.data, .data, .data, .data, .wider], laidTests := true, laidLooks := .later }
def CronParsesCardSaid : Prop := Claim7.holds Tryd.pinned (.plain (OpenSpec.ofChange cronParsesSpec)) cronParsesCard

/-- THE TIED CARD OF 'reveillelaw02.CronPrints'. -/
def cronPrintsCard : Claim7 := { stood := { row := cronPrintsRow, standIns := [], harness := (true, "c7bc227a9e406e84d55eaa721c02f07d39d470c7b5c01538762b60676cd35cc9"), looks := false }, kinds := [], alts := [], laidByText := true, laidKinds := [.data, .data, .data, .data, .wider], laidTests := true, laidLooks := .later }
def CronPrintsCardSaid : Prop := Claim7.holds Tryd.pinned (.plain (OpenSpec.ofChange cronPrintsSpec)) cronPrintsCard

/-- THE TIED CARD OF 'reveillelaw02.CronBlanks'. -/
def cronBlanksCard : Claim7 := { stood := { row := cronBlanksRow, standIns := [], harness := (true, "c7bc227a9e406e84d55eaa721c02f07d39d470c7b5c01538762b60676cd35cc9"), looks := false }, kinds := [], alts := [], laidByText := true, laidKinds := [.data, .data, .data, .data, .wider], laidTests := true, laidLooks := .later }
def CronBlanksCardSaid : Prop := Claim7.holds Tryd.pinned (.plain (OpenSpec.ofChange cronBlanksSpec)) cronBlanksCard

/-- THE TIED CARD OF 'reveillelaw02.CronLists'. -/
def cronListsCard : Claim7 := { stood := { row := cronListsRow, standIns := [], harness := (true, "c7bc227a9e406e84d55eaa721c02f07d39d470c7b5c01538762b60676cd35cc9"), looks := false }, kinds := [], alts := [], laidByText := true, laidKinds := [.data, .data, .data, .data, .wider], laidTests := true, laidLooks := .later }
def CronListsCardSaid : Prop := Claim7.holds Tryd.pinned (.plain (OpenSpec.ofChange cronListsSpec)) cronListsCard

/-- THE TIED CARD OF 'reveillelaw02.CronRanges'. -/
def cronRangesCard : Claim7 := { stood := { row := cronRangesRow, standIns := [], harness := (true, "c7bc227a9e406e84d55eaa721c02f07d39d470c7b5c01538762b60676cd35cc9"), looks := false }, kinds := [], alts := [], laidByText := true, laidKinds := [.data, .data, .data, .data, .wider], laidTests := true, laidLooks := .later }
def CronRangesCardSaid : Prop := Claim7.holds Tryd.pinned (.plain (OpenSpec.ofChange cronRangesSpec)) cronRangesCard

/-- THE TIED CARD OF 'reveillelaw02.CronAlls'. -/
def cronAllsCard : Claim7 := { stood := { row := cronAllsRow, standIns := [], harness := (true, "c7bc227a9e406e84d55eaa721c02f07d39d470c7b5c01538762b60676cd35cc9"), looks := false }, kinds := [], alts := [], laidByText := true, laidKinds := [.data, .data, .data, .data, .wider], laidTests := true, laidLooks := .later }
def CronAllsCardSaid : Prop := Claim7.holds Tryd.pinned (.plain (OpenSpec.ofChange cronAllsSpec)) cronAllsCard

/-- THE TIED CARD OF 'reveillelaw02.CronNames'. -/
def cronNamesCard : Claim7 := { stood := { row := cronNamesRow, standIns := [], harness := (true, "c7bc227a9e406e84d55eaa721c02f07d39d470c7b5c01538762b60676cd35cc9"), looks := false }, kinds := [], alts := [], laidByText := true, laidKinds := [.data, .data, .data, .data, .wider], laidTests := true, laidLooks := .later }
def CronNamesCardSaid : Prop := Claim7.holds Tryd.pinned (.plain (OpenSpec.ofChange cronNamesSpec)) cronNamesCard

/-- THE SECOND FORM's CARD OF 'reveillelaw02.CronParses'. -/
def cronParsesUptoCard : Claim7 := { stood := { row := cronParsesUptoRow, standIns := [], harness := (true, "c7bc227a9e406e84d55eaa721c02f07d39d470c7b5c01538762b60676cd35cc9"), looks := false }, kinds := [], alts := [], laidByText := true, laidKinds := [.data, .data, .data, .data, .wider], laidTests := true, laidLooks := .later }
def CronParsesUptoCardSaid : Prop := Claim7.holds Tryd.pinned (.plain (OpenSpec.upto cronParsesSpec)) cronParsesUptoCard

/-- THE SECOND FORM's CARD OF 'reveillelaw02.CronPrints'. -/
def cronPrintsUptoCard : Claim7 := { stood := { row := cronPrintsUptoRow, standIns := [], harness := (true, "c7bc227a9e406e84d55eaa721c02f07d39d470c7b5c01538762b60676cd35cc9"), looks := false }, kinds := [], alts := [], laidByText := true, laidKinds := [.data, .data, .data, .data, .wider], laidTests := true, laidLooks := .later }
def CronPrintsUptoCardSaid : Prop := Claim7.holds Tryd.pinned (.plain (OpenSpec.upto cronPrintsSpec)) cronPrintsUptoCard

/-- THE SECOND FORM's CARD OF 'reveillelaw02.CronBlanks'. -/
def cronBlanksUptoCard : Claim7 := { stood := { row := cronBlanksUptoRow, standIns := [], harness := (true, "c7bc227a9e406e84d55eaa721c02f07d39d470c7b5c01538762b60676cd35cc9"), looks := false }, kinds := [], alts := [], laidByText := true, laidKinds := [.data, .data, .data, .data, .wider], laidTests := true, laidLooks := .later }
def CronBlanksUptoCardSaid : Prop := Claim7.holds Tryd.pinned (.plain (OpenSpec.upto cronBlanksSpec)) cronBlanksUptoCard

/-- THE SECOND FORM's CARD OF 'reveillelaw02.CronLists'. -/
def cronListsUptoCard : Claim7 := { stood := { row := cronListsUptoRow, standIns := [], harness := (true, "c7bc227a9e406e84d55eaa721c02f07d39d470c7b5c01538762b60676cd35cc9"), looks := false }, kinds := [], alts := [], laidByText := true, laidKinds := [.data, .data, .data, .data, .wider], laidTests := true, laidLooks := .later }
def CronListsUptoCardSaid : Prop := Claim7.holds Tryd.pinned (.plain (OpenSpec.upto cronListsSpec)) cronListsUptoCard

/-- THE SECOND FORM's CARD OF 'reveillelaw02.CronRanges'. -/
def cronRangesUptoCard : Claim7 := { stood := { row := cronRangesUptoRow, standIns := [], harness := (true, "c7bc227a9e406e84d55eaa721c02f07d39d470c7b5c01538762b60676cd35cc9"), looks := false }, kinds := [], alts := [], laidByText := true, laidKinds := [.data, .data, .data, .data, .wider], laidTests := true, laidLooks := .later }
def CronRangesUptoCardSaid : Prop := Claim7.holds Tryd.pinned (.plain (OpenSpec.upto cronRangesSpec)) cronRangesUptoCard

/-- THE SECOND FORM's CARD OF 'reveillelaw02.CronAlls'. -/
def cronAllsUptoCard : Claim7 := { stood := { row := cronAllsUptoRow, standIns := [], harness := (true, "c7bc227a9e406e84d55eaa721c02f07d39d470c7b5c01538762b60676cd35cc9"), looks := false }, kinds := [], alts := [], laidByText := true, laidKinds := [.data, .data, .data, .data, .wider], laidTests := true, laidLooks := .later }
def CronAllsUptoCardSaid : Prop := Claim7.holds Tryd.pinned (.plain (OpenSpec.upto cronAllsSpec)) cronAllsUptoCard

/-- THE SECOND FORM's CARD OF 'reveillelaw02.CronNames'. -/
def cronNamesUptoCard : Claim7 := { stood := { row := cronNamesUptoRow, standIns := [], harness := (true, "c7bc227a9e406e84d55eaa721c02f07d39d470c7b5c01538762b60676cd35cc9"), looks := false }, kinds := [], alts := [], laidByText := true, laidKinds := [.data, .data, .data, .data, .wider], laidTests := true, laidLooks := .later }
def CronNamesUptoCardSaid : Prop := Claim7.holds Tryd.pinned (.plain (OpenSpec.upto cronNamesSpec)) cronNamesUptoCard
end Rows
end Go.Proofs.YtbbleedepmcdfaaDoor
