/-
  DERIVED. GIVEN WITH THE SEED: THE CARDS: each row of YtpkjllliidpgoaaGreatDoorRows.lean that lists a variable, with what it lists TIED to the program's text (the seventh form; the later family's looks); each row that meets fmt, with fmt's text TOLD by the authors' own Lean function (tested against real Go, not proved from fmt's source: count such statements apart). THE CARD IS WHAT COUNTS. Prove the row's statement (the work); the ties are given (YtpkjllliidpgoaaGreatDoorTie.lean); close each card by the builder's one call (the guide's Derived/Test/ToyasCard.lean, 'card_holds'). Laid BY PROGRAM, IN A SANDBOX (cutbox-door.mjs). By AI agents, Wed Nov 11 2026. No macro, syntax, notation, axiom, sorry.
-/
import Derived.Test.YtpkjllliidpgoaaGreatDoorRows
import GoSem.ClaimSeven
namespace Go.Proofs.YtpkjllliidpgoaaGreatDoor
namespace Rows

/-- THE TIED CARD OF 'reveillelaw04.LabelSorts'. -/
def labelSortsCard : Claim7 := { stood := { row := labelSortsRow, standIns := [], harness := (true, "85206a813b3a822d09cf38ad233ca30f6ba490584f1076e5af302274cca67682"), looks := false }, kinds := [], alts := [], laidByText := true, laidKinds := [.data, .pinned], laidTests := true, laidLooks := .later }
def LabelSortsCardSaid : Prop := Claim7.holds Tryz.pinned (.plain (OpenSpec.ofChange labelSortsSpec)) labelSortsCard

/-- THE TIED CARD OF 'reveillelaw04.LabelPrints'. -/
def labelPrintsCard : Claim7 := { stood := { row := labelPrintsRow, standIns := [], harness := (true, "85206a813b3a822d09cf38ad233ca30f6ba490584f1076e5af302274cca67682"), looks := false }, kinds := [], alts := [], laidByText := true, laidKinds := [.data, .pinned], laidTests := true, laidLooks := .later }
def LabelPrintsCardSaid : Prop := Claim7.holds Tryz.pinned (.plain (OpenSpec.ofChange labelPrintsSpec)) labelPrintsCard

/-- THE TIED CARD OF 'reveillelaw04.LabelLaws'. -/
def labelLawsCard : Claim7 := { stood := { row := labelLawsRow, standIns := [], harness := (true, "85206a813b3a822d09cf38ad233ca30f6ba490584f1076e5af302274cca67682"), looks := false }, kinds := [], alts := [], laidByText := true, laidKinds := [.data, .pinned], laidTests := true, laidLooks := .later }
def LabelLawsCardSaid : Prop := Claim7.holds Tryz.pinned (.plain (OpenSpec.ofChange labelLawsSpec)) labelLawsCard

/-- THE TIED CARD OF 'reveillelaw04.LabelBlanks'. -/
def labelBlanksCard : Claim7 := { stood := { row := labelBlanksRow, standIns := [], harness := (true, "85206a813b3a822d09cf38ad233ca30f6ba490584f1076e5af302274cca67682"), looks := false }, kinds := [], alts := [], laidByText := true, laidKinds := [.data, .pinned], laidTests := true, laidLooks := .later }
def LabelBlanksCardSaid : Prop := Claim7.holds Tryz.pinned (.plain (OpenSpec.ofChange labelBlanksSpec)) labelBlanksCard

/-- THE TIED CARD OF 'reveillelaw04.LabelGets'. -/
def labelGetsCard : Claim7 := { stood := { row := labelGetsRow, standIns := [], harness := (true, "85206a813b3a822d09cf38ad233ca30f6ba490584f1076e5af302274cca67682"), looks := false }, kinds := [], alts := [], laidByText := true, laidKinds := [.data, .pinned], laidTests := true, laidLooks := .later }
def LabelGetsCardSaid : Prop := Claim7.holds Tryz.pinned (.plain (OpenSpec.ofChange labelGetsSpec)) labelGetsCard

/-- THE SECOND FORM's CARD OF 'reveillelaw04.LabelSorts'. -/
def labelSortsUptoCard : Claim7 := { stood := { row := labelSortsUptoRow, standIns := [], harness := (true, "85206a813b3a822d09cf38ad233ca30f6ba490584f1076e5af302274cca67682"), looks := false }, kinds := [], alts := [], laidByText := true, laidKinds := [.data, .pinned], laidTests := true, laidLooks := .later }
def LabelSortsUptoCardSaid : Prop := Claim7.holds Tryz.pinned (.plain (OpenSpec.upto labelSortsSpec)) labelSortsUptoCard

/-- THE SECOND FORM's CARD OF 'reveillelaw04.LabelPrints'. -/
def labelPrintsUptoCard : Claim7 := { stood := { row := labelPrintsUptoRow, standIns := [], harness := (true, "85206a813b3a822d09cf38ad233ca30f6ba490584f1076e5af302274cca67682"), looks := false }, kinds := [], alts := [], laidByText := true, laidKinds := [.data, .pinned], laidTests := true, laidLooks := .later }
def LabelPrintsUptoCardSaid : Prop := Claim7.holds Tryz.pinned (.plain (OpenSpec.upto labelPrintsSpec)) labelPrintsUptoCard

/-- THE SECOND FORM's CARD OF 'reveillelaw04.LabelLaws'. -/
def labelLawsUptoCard : Claim7 := { stood := { row := labelLawsUptoRow, standIns := [], harness := (true, "85206a813b3a822d09cf38ad233ca30f6ba490584f1076e5af302274cca67682"), looks := false }, kinds := [], alts := [], laidByText := true, laidKinds := [.data, .pinned], laidTests := true, laidLooks := .later }
def LabelLawsUptoCardSaid : Prop := Claim7.holds Tryz.pinned (.plain (OpenSpec.upto labelLawsSpec)) labelLawsUptoCard

/-- THE SECOND FORM's CARD OF 'reveillelaw04.LabelBlanks'. -/
def labelBlanksUptoCard : Claim7 := { stood := { row := labelBlanksUptoRow, standIns := [], harness := (true, "85206a813b3a822d09cf38ad233ca30f6ba490584f1076e5af302274cca67682"), looks := false }, kinds := [], alts := [], laidByText := true, laidKinds := [.data, .pinned], laidTests := true, laidLooks := .later }
def LabelBlanksUptoCardSaid : Prop := Claim7.holds Tryz.pinned (.plain (OpenSpec.upto labelBlanksSpec)) labelBlanksUptoCard

/-- THE SECOND FORM's CARD OF 'reveillelaw04.LabelGets'. -/
def labelGetsUptoCard : Claim7 := { stood := { row := labelGetsUptoRow, standIns := [], harness := (true, "85206a813b3a822d09cf38ad233ca30f6ba490584f1076e5af302274cca67682"), looks := false }, kinds := [], alts := [], laidByText := true, laidKinds := [.data, .pinned], laidTests := true, laidLooks := .later }
def LabelGetsUptoCardSaid : Prop := Claim7.holds Tryz.pinned (.plain (OpenSpec.upto labelGetsSpec)) labelGetsUptoCard
end Rows
end Go.Proofs.YtpkjllliidpgoaaGreatDoor
