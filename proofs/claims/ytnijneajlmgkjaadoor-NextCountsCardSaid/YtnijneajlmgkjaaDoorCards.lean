/-
  DERIVED. GIVEN WITH THE SEED: THE CARDS: each row of YtnijneajlmgkjaaDoorRows.lean that lists a variable, with what it lists TIED to the program's text (the seventh form; the later family's looks); each row that meets fmt, with fmt's text TOLD by the authors' own Lean function (tested against real Go, not proved from fmt's source: count such statements apart). THE CARD IS WHAT COUNTS. Prove the row's statement (the work); the ties are given (YtnijneajlmgkjaaDoorTie.lean); close each card by the builder's one call (the guide's Derived/Test/ToyasCard.lean, 'card_holds'). Laid BY PROGRAM, IN A SANDBOX (cutbox-door.mjs). By AI agents, Wed Nov 11 2026. No macro, syntax, notation, axiom, sorry.
-/
import Derived.Test.YtnijneajlmgkjaaDoorRows
import GoSem.ClaimSeven
namespace Go.Proofs.YtnijneajlmgkjaaDoor
namespace Rows

/-- THE TIED CARD OF 'reveillelaw03.NextLeast'. -/
def nextLeastCard : Claim7 := { stood := { row := nextLeastRow, standIns := [], harness := (true, "ff1ab05caa5c0f85c6954f9de690532e8a6f8d77763e7df0907604a052c73a46"), looks := false }, kinds := [], alts := [], laidByText := true, laidKinds := [.data, .data, .wider], laidTests := true, laidLooks := .later }
def NextLeastCardSaid : Prop := Claim7.holds Tryd.pinned (.plain (OpenSpec.ofChange nextLeastSpec)) nextLeastCard

/-- THE TIED CARD OF 'reveillelaw03.NextCounts'. -/
def nextCountsCard : Claim7 := { stood := { row := nextCountsRow, standIns := [], harness := (true, "ff1ab05caa5c0f85c6954f9de690532e8a6f8d77763e7df0907604a052c73a46"), looks := false }, kinds := [], alts := [], laidByText := true, laidKinds := [.data, .data, .wider], laidTests := true, laidLooks := .later }
def NextCountsCardSaid : Prop := Claim7.holds Tryd.pinned (.plain (OpenSpec.ofChange nextCountsSpec)) nextCountsCard

/-- THE TIED CARD OF 'reveillelaw03.NextDays'. -/
def nextDaysCard : Claim7 := { stood := { row := nextDaysRow, standIns := [], harness := (true, "ff1ab05caa5c0f85c6954f9de690532e8a6f8d77763e7df0907604a052c73a46"), looks := false }, kinds := [], alts := [], laidByText := true, laidKinds := [.data, .data, .wider], laidTests := true, laidLooks := .later }
def NextDaysCardSaid : Prop := Claim7.holds Tryd.pinned (.plain (OpenSpec.ofChange nextDaysSpec)) nextDaysCard

/-- THE TIED CARD OF 'reveillelaw03.NextGoes'. -/
def nextGoesCard : Claim7 := { stood := { row := nextGoesRow, standIns := [], harness := (true, "ff1ab05caa5c0f85c6954f9de690532e8a6f8d77763e7df0907604a052c73a46"), looks := false }, kinds := [], alts := [], laidByText := true, laidKinds := [.data, .data, .wider], laidTests := true, laidLooks := .later }
def NextGoesCardSaid : Prop := Claim7.holds Tryd.pinned (.plain (OpenSpec.ofChange nextGoesSpec)) nextGoesCard

/-- THE TIED CARD OF 'reveillelaw03.NextMatch'. -/
def nextMatchCard : Claim7 := { stood := { row := nextMatchRow, standIns := [], harness := (true, "ff1ab05caa5c0f85c6954f9de690532e8a6f8d77763e7df0907604a052c73a46"), looks := false }, kinds := [], alts := [], laidByText := true, laidKinds := [.data, .data, .wider], laidTests := true, laidLooks := .later }
def NextMatchCardSaid : Prop := Claim7.holds Tryd.pinned (.plain (OpenSpec.ofChange nextMatchSpec)) nextMatchCard

/-- THE TIED CARD OF 'reveillelaw03.NextSplits'. -/
def nextSplitsCard : Claim7 := { stood := { row := nextSplitsRow, standIns := [], harness := (true, "ff1ab05caa5c0f85c6954f9de690532e8a6f8d77763e7df0907604a052c73a46"), looks := false }, kinds := [], alts := [], laidByText := true, laidKinds := [.data, .data, .wider], laidTests := true, laidLooks := .later }
def NextSplitsCardSaid : Prop := Claim7.holds Tryd.pinned (.plain (OpenSpec.ofChange nextSplitsSpec)) nextSplitsCard

/-- THE SECOND FORM's CARD OF 'reveillelaw03.NextLeast'. -/
def nextLeastUptoCard : Claim7 := { stood := { row := nextLeastUptoRow, standIns := [], harness := (true, "ff1ab05caa5c0f85c6954f9de690532e8a6f8d77763e7df0907604a052c73a46"), looks := false }, kinds := [], alts := [], laidByText := true, laidKinds := [.data, .data, .wider], laidTests := true, laidLooks := .later }
def NextLeastUptoCardSaid : Prop := Claim7.holds Tryd.pinned (.plain (OpenSpec.upto nextLeastSpec)) nextLeastUptoCard

/-- THE SECOND FORM's CARD OF 'reveillelaw03.NextCounts'. -/
def nextCountsUptoCard : Claim7 := { stood := { row := nextCountsUptoRow, standIns := [], harness := (true, "ff1ab05caa5c0f85c6954f9de690532e8a6f8d77763e7df0907604a052c73a46"), looks := false }, kinds := [], alts := [], laidByText := true, laidKinds := [.data, .data, .wider], laidTests := true, laidLooks := .later }
def NextCountsUptoCardSaid : Prop := Claim7.holds Tryd.pinned (.plain (OpenSpec.upto nextCountsSpec)) nextCountsUptoCard

/-- THE SECOND FORM's CARD OF 'reveillelaw03.NextDays'. -/
def nextDaysUptoCard : Claim7 := { stood := { row := nextDaysUptoRow, standIns := [], harness := (true, "ff1ab05caa5c0f85c6954f9de690532e8a6f8d77763e7df0907604a052c73a46"), looks := false }, kinds := [], alts := [], laidByText := true, laidKinds := [.data, .data, .wider], laidTests := true, laidLooks := .later }
def NextDaysUptoCardSaid : Prop := Claim7.holds Tryd.pinned (.plain (OpenSpec.upto nextDaysSpec)) nextDaysUptoCard

/-- THE SECOND FORM's CARD OF 'reveillelaw03.NextGoes'. -/
def nextGoesUptoCard : Claim7 := { stood := { row := nextGoesUptoRow, standIns := [], harness := (true, "ff1ab05caa5c0f85c6954f9de690532e8a6f8d77763e7df0907604a052c73a46"), looks := false }, kinds := [], alts := [], laidByText := true, laidKinds := [.data, .data, .wider], laidTests := true, laidLooks := .later }
def NextGoesUptoCardSaid : Prop := Claim7.holds Tryd.pinned (.plain (OpenSpec.upto nextGoesSpec)) nextGoesUptoCard

/-- THE SECOND FORM's CARD OF 'reveillelaw03.NextMatch'. -/
def nextMatchUptoCard : Claim7 := { stood := { row := nextMatchUptoRow, standIns := [], harness := (true, "ff1ab05caa5c0f85c6954f9de690532e8a6f8d77763e7df0907604a052c73a46"), looks := false }, kinds := [], alts := [], laidByText := true, laidKinds := [.data, .data, .wider], laidTests := true, laidLooks := .later }
def NextMatchUptoCardSaid : Prop := Claim7.holds Tryd.pinned (.plain (OpenSpec.upto nextMatchSpec)) nextMatchUptoCard

/-- THE SECOND FORM's CARD OF 'reveillelaw03.NextSplits'. -/
def nextSplitsUptoCard : Claim7 := { stood := { row := nextSplitsUptoRow, standIns := [], harness := (true, "ff1ab05caa5c0f85c6954f9de690532e8a6f8d77763e7df0907604a052c73a46"), looks := false }, kinds := [], alts := [], laidByText := true, laidKinds := [.data, .data, .wider], laidTests := true, laidLooks := .later }
def NextSplitsUptoCardSaid : Prop := Claim7.holds Tryd.pinned (.plain (OpenSpec.upto nextSplitsSpec)) nextSplitsUptoCard
end Rows
end Go.Proofs.YtnijneajlmgkjaaDoor
