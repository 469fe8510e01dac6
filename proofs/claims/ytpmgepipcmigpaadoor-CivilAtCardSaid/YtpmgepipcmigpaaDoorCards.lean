/-
  DERIVED. GIVEN WITH THE SEED: THE CARDS: each row of YtpmgepipcmigpaaDoorRows.lean that lists a variable, with what it lists TIED to the program's text (the seventh form; the later family's looks); each row that meets fmt, with fmt's text TOLD by the authors' own Lean function (tested against real Go, not proved from fmt's source: count such statements apart). THE CARD IS WHAT COUNTS. Prove the row's statement (the work); the ties are given (YtpmgepipcmigpaaDoorTie.lean); close each card by the builder's one call (the guide's Derived/Test/ToyasCard.lean, 'card_holds'). Laid BY PROGRAM, IN A SANDBOX (cutbox-door.mjs). By AI agents, Wed Nov 11 2026. No macro, syntax, notation, axiom, sorry.
-/
import Derived.Test.YtpmgepipcmigpaaDoorRows
import GoSem.ClaimSeven
namespace Go.Proofs.YtpmgepipcmigpaaDoor
namespace Rows

/-- THE TIED CARD OF 'reveillelaw01.CivilDays'. -/
def civilDaysCard : Claim7 := { stood := { row := civilDaysRow, standIns := [], harness := (true, "90244e489ceaab8676671e3cc606a3fcbfeef22a8650151ec3165613a200dc85"), looks := false }, kinds := [], alts := [], laidByText := true, laidKinds := [.data], laidTests := true, laidLooks := .later }
def CivilDaysCardSaid : Prop := Claim7.holds Tryd.pinned (.plain (OpenSpec.ofChange civilDaysSpec)) civilDaysCard

/-- THE TIED CARD OF 'reveillelaw01.CivilAt'. -/
def civilAtCard : Claim7 := { stood := { row := civilAtRow, standIns := [], harness := (true, "90244e489ceaab8676671e3cc606a3fcbfeef22a8650151ec3165613a200dc85"), looks := false }, kinds := [], alts := [], laidByText := true, laidKinds := [.data], laidTests := true, laidLooks := .later }
def CivilAtCardSaid : Prop := Claim7.holds Tryd.pinned (.plain (OpenSpec.ofChange civilAtSpec)) civilAtCard

/-- THE TIED CARD OF 'reveillelaw01.CivilOf'. -/
def civilOfCard : Claim7 := { stood := { row := civilOfRow, standIns := [], harness := (true, "90244e489ceaab8676671e3cc606a3fcbfeef22a8650151ec3165613a200dc85"), looks := false }, kinds := [], alts := [], laidByText := true, laidKinds := [.data], laidTests := true, laidLooks := .later }
def CivilOfCardSaid : Prop := Claim7.holds Tryd.pinned (.plain (OpenSpec.ofChange civilOfSpec)) civilOfCard

/-- THE TIED CARD OF 'reveillelaw01.CivilFloors'. -/
def civilFloorsCard : Claim7 := { stood := { row := civilFloorsRow, standIns := [], harness := (true, "90244e489ceaab8676671e3cc606a3fcbfeef22a8650151ec3165613a200dc85"), looks := false }, kinds := [], alts := [], laidByText := true, laidKinds := [.data], laidTests := true, laidLooks := .later }
def CivilFloorsCardSaid : Prop := Claim7.holds Tryd.pinned (.plain (OpenSpec.ofChange civilFloorsSpec)) civilFloorsCard

/-- THE TIED CARD OF 'reveillelaw01.CivilGoes'. -/
def civilGoesCard : Claim7 := { stood := { row := civilGoesRow, standIns := [], harness := (true, "90244e489ceaab8676671e3cc606a3fcbfeef22a8650151ec3165613a200dc85"), looks := false }, kinds := [], alts := [], laidByText := true, laidKinds := [.data], laidTests := true, laidLooks := .later }
def CivilGoesCardSaid : Prop := Claim7.holds Tryd.pinned (.plain (OpenSpec.ofChange civilGoesSpec)) civilGoesCard

/-- THE TIED CARD OF 'reveillelaw01.CivilYears'. -/
def civilYearsCard : Claim7 := { stood := { row := civilYearsRow, standIns := [], harness := (true, "90244e489ceaab8676671e3cc606a3fcbfeef22a8650151ec3165613a200dc85"), looks := false }, kinds := [], alts := [], laidByText := true, laidKinds := [.data], laidTests := true, laidLooks := .later }
def CivilYearsCardSaid : Prop := Claim7.holds Tryd.pinned (.plain (OpenSpec.ofChange civilYearsSpec)) civilYearsCard

/-- THE TIED CARD OF 'reveillelaw01.CivilMonths'. -/
def civilMonthsCard : Claim7 := { stood := { row := civilMonthsRow, standIns := [], harness := (true, "90244e489ceaab8676671e3cc606a3fcbfeef22a8650151ec3165613a200dc85"), looks := false }, kinds := [], alts := [], laidByText := true, laidKinds := [.data], laidTests := true, laidLooks := .later }
def CivilMonthsCardSaid : Prop := Claim7.holds Tryd.pinned (.plain (OpenSpec.ofChange civilMonthsSpec)) civilMonthsCard

/-- THE TIED CARD OF 'reveillelaw01.CivilWeeks'. -/
def civilWeeksCard : Claim7 := { stood := { row := civilWeeksRow, standIns := [], harness := (true, "90244e489ceaab8676671e3cc606a3fcbfeef22a8650151ec3165613a200dc85"), looks := false }, kinds := [], alts := [], laidByText := true, laidKinds := [.data], laidTests := true, laidLooks := .later }
def CivilWeeksCardSaid : Prop := Claim7.holds Tryd.pinned (.plain (OpenSpec.ofChange civilWeeksSpec)) civilWeeksCard

/-- THE SECOND FORM's CARD OF 'reveillelaw01.CivilDays'. -/
def civilDaysUptoCard : Claim7 := { stood := { row := civilDaysUptoRow, standIns := [], harness := (true, "90244e489ceaab8676671e3cc606a3fcbfeef22a8650151ec3165613a200dc85"), looks := false }, kinds := [], alts := [], laidByText := true, laidKinds := [.data], laidTests := true, laidLooks := .later }
def CivilDaysUptoCardSaid : Prop := Claim7.holds Tryd.pinned (.plain (OpenSpec.upto civilDaysSpec)) civilDaysUptoCard

/-- THE SECOND FORM's CARD OF 'reveillelaw01.CivilAt'. -/
def civilAtUptoCard : Claim7 := { stood := { row := civilAtUptoRow, standIns := [], harness := (true, "90244e489ceaab8676671e3cc606a3fcbfeef22a8650151ec3165613a200dc85"), looks := false }, kinds := [], alts := [], laidByText := true, laidKinds := [.data], laidTests := true, laidLooks := .later }
def CivilAtUptoCardSaid : Prop := Claim7.holds Tryd.pinned (.plain (OpenSpec.upto civilAtSpec)) civilAtUptoCard

/-- THE SECOND FORM's CARD OF 'reveillelaw01.CivilOf'. -/
def civilOfUptoCard : Claim7 := { stood := { row := civilOfUptoRow, standIns := [], harness := (true, "90244e489ceaab8676671e3cc606a3fcbfeef22a8650151ec3165613a200dc85"), looks := false }, kinds := [], alts := [], laidByText := true, laidKinds := [.data], laidTests := true, laidLooks := .later }
def CivilOfUptoCardSaid : Prop := Claim7.holds Tryd.pinned (.plain (OpenSpec.upto civilOfSpec)) civilOfUptoCard

/-- THE SECOND FORM's CARD OF 'reveillelaw01.CivilFloors'. -/
def civilFloorsUptoCard : Claim7 := { stood := { row := civilFloorsUptoRow, standIns := [], harness := (true, "90244e489ceaab8676671e3cc606a3fcbfeef22a8650151ec3165613a200dc85"), looks := false }, kinds := [], alts := [], laidByText := true, laidKinds := [.data], laidTests := true, laidLooks := .later }
def CivilFloorsUptoCardSaid : Prop := Claim7.holds Tryd.pinned (.plain (OpenSpec.upto civilFloorsSpec)) civilFloorsUptoCard

/-- THE SECOND FORM's CARD OF 'reveillelaw01.CivilGoes'. -/
def civilGoesUptoCard : Claim7 := { stood := { row := civilGoesUptoRow, standIns := [], harness := (true, "90244e489ceaab8676671e3cc606a3fcbfeef22a8650151ec3165613a200dc85"), looks := false }, kinds := [], alts := [], laidByText := true, laidKinds := [.data], laidTests := true, laidLooks := .later }
def CivilGoesUptoCardSaid : Prop := Claim7.holds Tryd.pinned (.plain (OpenSpec.upto civilGoesSpec)) civilGoesUptoCard

/-- THE SECOND FORM's CARD OF 'reveillelaw01.CivilYears'. -/
def civilYearsUptoCard : Claim7 := { stood := { row := civilYearsUptoRow, standIns := [], harness := (true, "90244e489ceaab8676671e3cc606a3fcbfeef22a8650151ec3165613a200dc85"), looks := false }, kinds := [], alts := [], laidByText := true, laidKinds := [.data], laidTests := true, laidLooks := .later }
def CivilYearsUptoCardSaid : Prop := Claim7.holds Tryd.pinned (.plain (OpenSpec.upto civilYearsSpec)) civilYearsUptoCard

/-- THE SECOND FORM's CARD OF 'reveillelaw01.CivilMonths'. -/
def civilMonthsUptoCard : Claim7 := { stood := { row := civilMonthsUptoRow, standIns := [], harness := (true, "90244e489ceaab8676671e3cc606a3fcbfeef22a8650151ec3165613a200dc85"), looks := false }, kinds := [], alts := [], laidByText := true, laidKinds := [.data], laidTests := true, laidLooks := .later }
def CivilMonthsUptoCardSaid : Prop := Claim7.holds Tryd.pinned (.plain (OpenSpec.upto civilMonthsSpec)) civilMonthsUptoCard

/-- THE SECOND FORM's CARD OF 'reveillelaw01.CivilWeeks'. -/
def civilWeeksUptoCard : Claim7 := { stood := { row := civilWeeksUptoRow, standIns := [], harness := (true, "90244e489ceaab8676671e3cc606a3fcbfeef22a8650151ec3165613a200dc85"), looks := false }, kinds := [], alts := [], laidByText := true, laidKinds := [.data], laidTests := true, laidLooks := .later }
def CivilWeeksUptoCardSaid : Prop := Claim7.holds Tryd.pinned (.plain (OpenSpec.upto civilWeeksSpec)) civilWeeksUptoCard
end Rows
end Go.Proofs.YtpmgepipcmigpaaDoor
