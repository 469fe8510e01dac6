/-
  DERIVED. GIVEN WITH THE SEED: THE CARDS: each row of YtnikhhbnbeljeaaGreatDoorRows.lean that lists a variable, with what it lists TIED to the program's text (the seventh form; the later family's looks); each row that meets fmt, with fmt's text TOLD by the authors' own Lean function (tested against real Go, not proved from fmt's source: count such statements apart). THE CARD IS WHAT COUNTS. Prove the row's statement (the work); the ties are given (YtnikhhbnbeljeaaGreatDoorTie.lean); close each card by the builder's one call (the guide's Derived/Test/ToyasCard.lean, 'card_holds'). Laid BY PROGRAM, IN A SANDBOX (cutbox-door.mjs). By AI agents, Wed Nov 11 2026. No macro, syntax, notation, axiom, sorry.
-/
import Derived.Test.YtnikhhbnbeljeaaGreatDoorRows
import GoSem.ClaimSeven
namespace Go.Proofs.YtnikhhbnbeljeaaGreatDoor
namespace Rows

/-- THE TIED CARD OF 'reveillelaw14.JobPrints'. -/
def jobPrintsCard : Claim7 := { stood := { row := jobPrintsRow, standIns := [], harness := (true, "9913bdc90bc4ba176aba0114a23146a12dd8f642d4b9e20b783f0fa4930d6db9"), looks := false }, kinds := [], alts := [], laidByText := true, laidKinds := [.data, .data, .data, .data, .wider, .data, .pinned], laidTests := true, laidLooks := .later }
def JobPrintsCardSaid : Prop := Claim7.holds Tryz.pinned (.plain (OpenSpec.ofChange jobPrintsSpec)) jobPrintsCard

/-- THE TIED CARD OF 'reveillelaw14.JobPacks'. -/
def jobPacksCard : Claim7 := { stood := { row := jobPacksRow, standIns := [], harness := (true, "9913bdc90bc4ba176aba0114a23146a12dd8f642d4b9e20b783f0fa4930d6db9"), looks := false }, kinds := [], alts := [], laidByText := true, laidKinds := [.data, .data, .data, .data, .wider, .data, .pinned], laidTests := true, laidLooks := .later }
def JobPacksCardSaid : Prop := Claim7.holds Tryz.pinned (.plain (OpenSpec.ofChange jobPacksSpec)) jobPacksCard

/-- THE TIED CARD OF 'reveillelaw14.JobGets'. -/
def jobGetsCard : Claim7 := { stood := { row := jobGetsRow, standIns := [], harness := (true, "9913bdc90bc4ba176aba0114a23146a12dd8f642d4b9e20b783f0fa4930d6db9"), looks := false }, kinds := [], alts := [], laidByText := true, laidKinds := [.data, .data, .data, .data, .wider, .data, .pinned], laidTests := true, laidLooks := .later }
def JobGetsCardSaid : Prop := Claim7.holds Tryz.pinned (.plain (OpenSpec.ofChange jobGetsSpec)) jobGetsCard

/-- THE TIED CARD OF 'reveillelaw14.JobSame'. -/
def jobSameCard : Claim7 := { stood := { row := jobSameRow, standIns := [], harness := (true, "9913bdc90bc4ba176aba0114a23146a12dd8f642d4b9e20b783f0fa4930d6db9"), looks := false }, kinds := [], alts := [], laidByText := true, laidKinds := [.data, .data, .data, .data, .wider, .data, .pinned], laidTests := true, laidLooks := .later }
def JobSameCardSaid : Prop := Claim7.holds Tryz.pinned (.plain (OpenSpec.ofChange jobSameSpec)) jobSameCard

/-- THE TIED CARD OF 'reveillelaw14.JobOrder'. -/
def jobOrderCard : Claim7 := { stood := { row := jobOrderRow, standIns := [], harness := (true, "9913bdc90bc4ba176aba0114a23146a12dd8f642d4b9e20b783f0fa4930d6db9"), looks := false }, kinds := [], alts := [], laidByText := true, laidKinds := [.data, .data, .data, .data, .wider, .data, .pinned], laidTests := true, laidLooks := .later }
def JobOrderCardSaid : Prop := Claim7.holds Tryz.pinned (.plain (OpenSpec.ofChange jobOrderSpec)) jobOrderCard

/-- THE TIED CARD OF 'reveillelaw16.PlanRuns'. -/
def planRunsCard : Claim7 := { stood := { row := planRunsRow, standIns := [], harness := (true, "9913bdc90bc4ba176aba0114a23146a12dd8f642d4b9e20b783f0fa4930d6db9"), looks := false }, kinds := [], alts := [], laidByText := true, laidKinds := [.data, .data, .data, .data, .wider], laidTests := true, laidLooks := .later }
def PlanRunsCardSaid : Prop := Claim7.holds Tryz.pinned (.plain (OpenSpec.ofChange planRunsSpec)) planRunsCard

/-- THE TIED CARD OF 'reveillelaw16.PlanHosts'. -/
def planHostsCard : Claim7 := { stood := { row := planHostsRow, standIns := [], harness := (true, "9913bdc90bc4ba176aba0114a23146a12dd8f642d4b9e20b783f0fa4930d6db9"), looks := false }, kinds := [], alts := [], laidByText := true, laidKinds := [.data, .data, .data, .data, .wider], laidTests := true, laidLooks := .later }
def PlanHostsCardSaid : Prop := Claim7.holds Tryz.pinned (.plain (OpenSpec.ofChange planHostsSpec)) planHostsCard

/-- THE TIED CARD OF 'reveillelaw16.PlanFinds'. -/
def planFindsCard : Claim7 := { stood := { row := planFindsRow, standIns := [], harness := (true, "9913bdc90bc4ba176aba0114a23146a12dd8f642d4b9e20b783f0fa4930d6db9"), looks := false }, kinds := [], alts := [], laidByText := true, laidKinds := [.data, .data, .data, .data, .wider], laidTests := true, laidLooks := .later }
def PlanFindsCardSaid : Prop := Claim7.holds Tryz.pinned (.plain (OpenSpec.ofChange planFindsSpec)) planFindsCard

/-- THE TIED CARD OF 'reveillelaw16.PlanKeeps'. -/
def planKeepsCard : Claim7 := { stood := { row := planKeepsRow, standIns := [], harness := (true, "9913bdc90bc4ba176aba0114a23146a12dd8f642d4b9e20b783f0fa4930d6db9"), looks := false }, kinds := [], alts := [], laidByText := true, laidKinds := [.data, .data, .data, .data, .wider], laidTests := true, laidLooks := .later }
def PlanKeepsCardSaid : Prop := Claim7.holds Tryz.pinned (.plain (OpenSpec.ofChange planKeepsSpec)) planKeepsCard

/-- THE TIED CARD OF 'reveillelaw16.PlanApart'. -/
def planApartCard : Claim7 := { stood := { row := planApartRow, standIns := [], harness := (true, "9913bdc90bc4ba176aba0114a23146a12dd8f642d4b9e20b783f0fa4930d6db9"), looks := false }, kinds := [], alts := [], laidByText := true, laidKinds := [.data, .data, .data, .data, .wider], laidTests := true, laidLooks := .later }
def PlanApartCardSaid : Prop := Claim7.holds Tryz.pinned (.plain (OpenSpec.ofChange planApartSpec)) planApartCard

/-- THE TIED CARD OF 'reveillelaw16.PlanJitters'. -/
def planJittersCard : Claim7 := { stood := { row := planJittersRow, standIns := [], harness := (true, "9913bdc90bc4ba176aba0114a23146a12dd8f642d4b9e20b783f0fa4930d6db9"), looks := false }, kinds := [], alts := [], laidByText := true, laidKinds := [.data, .data, .data, .data, .wider], laidTests := true, laidLooks := .later }
def PlanJittersCardSaid : Prop := Claim7.holds Tryz.pinned (.plain (OpenSpec.ofChange planJittersSpec)) planJittersCard

/-- THE SECOND FORM's CARD OF 'reveillelaw14.JobPrints'. -/
def jobPrintsUptoCard : Claim7 := { stood := { row := jobPrintsUptoRow, standIns := [], harness := (true, "9913bdc90bc4ba176aba0114a23146a12dd8f642d4b9e20b783f0fa4930d6db9"), looks := false }, kinds := [], alts := [], laidByText := true, laidKinds := [.data, .data, .data, .data, .wider, .data, .pinned], laidTests := true, laidLooks := .later }
def JobPrintsUptoCardSaid : Prop := Claim7.holds Tryz.pinned (.plain (OpenSpec.upto jobPrintsSpec)) jobPrintsUptoCard

/-- THE SECOND FORM's CARD OF 'reveillelaw14.JobPacks'. -/
def jobPacksUptoCard : Claim7 := { stood := { row := jobPacksUptoRow, standIns := [], harness := (true, "9913bdc90bc4ba176aba0114a23146a12dd8f642d4b9e20b783f0fa4930d6db9"), looks := false }, kinds := [], alts := [], laidByText := true, laidKinds := [.data, .data, .data, .data, .wider, .data, .pinned], laidTests := true, laidLooks := .later }
def JobPacksUptoCardSaid : Prop := Claim7.holds Tryz.pinned (.plain (OpenSpec.upto jobPacksSpec)) jobPacksUptoCard

/-- THE SECOND FORM's CARD OF 'reveillelaw14.JobGets'. -/
def jobGetsUptoCard : Claim7 := { stood := { row := jobGetsUptoRow, standIns := [], harness := (true, "9913bdc90bc4ba176aba0114a23146a12dd8f642d4b9e20b783f0fa4930d6db9"), looks := false }, kinds := [], alts := [], laidByText := true, laidKinds := [.data, .data, .data, .data, .wider, .data, .pinned], laidTests := true, laidLooks := .later }
def JobGetsUptoCardSaid : Prop := Claim7.holds Tryz.pinned (.plain (OpenSpec.upto jobGetsSpec)) jobGetsUptoCard

/-- THE SECOND FORM's CARD OF 'reveillelaw14.JobSame'. -/
def jobSameUptoCard : Claim7 := { stood := { row := jobSameUptoRow, standIns := [], harness := (true, "9913bdc90bc4ba176aba0114a23146a12dd8f642d4b9e20b783f0fa4930d6db9"), looks := false }, kinds := [], alts := [], laidByText := true, laidKinds := [.data, .data, .data, .data, .wider, .data, .pinned], laidTests := true, laidLooks := .later }
def JobSameUptoCardSaid : Prop := Claim7.holds Tryz.pinned (.plain (OpenSpec.upto jobSameSpec)) jobSameUptoCard

/-- THE SECOND FORM's CARD OF 'reveillelaw14.JobOrder'. -/
def jobOrderUptoCard : Claim7 := { stood := { row := jobOrderUptoRow, standIns := [], harness := (true, "9913bdc90bc4ba176aba0114a23146a12dd8f642d4b9e20b783f0fa4930d6db9"), looks := false }, kinds := [], alts := [], laidByText := true, laidKinds := [.data, .data, .data, .data, .wider, .data, .pinned], laidTests := true, laidLooks := .later }
def JobOrderUptoCardSaid : Prop := Claim7.holds Tryz.pinned (.plain (OpenSpec.upto jobOrderSpec)) jobOrderUptoCard

/-- THE SECOND FORM's CARD OF 'reveillelaw16.PlanRuns'. -/
def planRunsUptoCard : Claim7 := { stood := { row := planRunsUptoRow, standIns := [], harness := (true, "9913bdc90bc4ba176aba0114a23146a12dd8f642d4b9e20b783f0fa4930d6db9"), looks := false }, kinds := [], alts := [], laidByText := true, laidKinds := [.data, .data, .data, .data, .wider], laidTests := true, laidLooks := .later }
def PlanRunsUptoCardSaid : Prop := Claim7.holds Tryz.pinned (.plain (OpenSpec.upto planRunsSpec)) planRunsUptoCard

/-- THE SECOND FORM's CARD OF 'reveillelaw16.PlanHosts'. -/
def planHostsUptoCard : Claim7 := { stood := { row := planHostsUptoRow, standIns := [], harness := (true, "9913bdc90bc4ba176aba0114a23146a12dd8f642d4b9e20b783f0fa4930d6db9"), looks := false }, kinds := [], alts := [], laidByText := true, laidKinds := [.data, .data, .data, .data, .wider], laidTests := true, laidLooks := .later }
def PlanHostsUptoCardSaid : Prop := Claim7.holds Tryz.pinned (.plain (OpenSpec.upto planHostsSpec)) planHostsUptoCard

/-- THE SECOND FORM's CARD OF 'reveillelaw16.PlanFinds'. -/
def planFindsUptoCard : Claim7 := { stood := { row := planFindsUptoRow, standIns := [], harness := (true, "9913bdc90bc4ba176aba0114a23146a12dd8f642d4b9e20b783f0fa4930d6db9"), looks := false }, kinds := [], alts := [], laidByText := true, laidKinds := [.data, .data, .data, .data, .wider], laidTests := true, laidLooks := .later }
def PlanFindsUptoCardSaid : Prop := Claim7.holds Tryz.pinned (.plain (OpenSpec.upto planFindsSpec)) planFindsUptoCard

/-- THE SECOND FORM's CARD OF 'reveillelaw16.PlanKeeps'. -/
def planKeepsUptoCard : Claim7 := { stood := { row := planKeepsUptoRow, standIns := [], harness := (true, "9913bdc90bc4ba176aba0114a23146a12dd8f642d4b9e20b783f0fa4930d6db9"), looks := false }, kinds := [], alts := [], laidByText := true, laidKinds := [.data, .data, .data, .data, .wider], laidTests := true, laidLooks := .later }
def PlanKeepsUptoCardSaid : Prop := Claim7.holds Tryz.pinned (.plain (OpenSpec.upto planKeepsSpec)) planKeepsUptoCard

/-- THE SECOND FORM's CARD OF 'reveillelaw16.PlanApart'. -/
def planApartUptoCard : Claim7 := { stood := { row := planApartUptoRow, standIns := [], harness := (true, "9913bdc90bc4ba176aba0114a23146a12dd8f642d4b9e20b783f0fa4930d6db9"), looks := false }, kinds := [], alts := [], laidByText := true, laidKinds := [.data, .data, .data, .data, .wider], laidTests := true, laidLooks := .later }
def PlanApartUptoCardSaid : Prop := Claim7.holds Tryz.pinned (.plain (OpenSpec.upto planApartSpec)) planApartUptoCard

/-- THE SECOND FORM's CARD OF 'reveillelaw16.PlanJitters'. -/
def planJittersUptoCard : Claim7 := { stood := { row := planJittersUptoRow, standIns := [], harness := (true, "9913bdc90bc4ba176aba0114a23146a12dd8f642d4b9e20b783f0fa4930d6db9"), looks := false }, kinds := [], alts := [], laidByText := true, laidKinds := [.data, .data, .data, .data, .wider], laidTests := true, laidLooks := .later }
def PlanJittersUptoCardSaid : Prop := Claim7.holds Tryz.pinned (.plain (OpenSpec.upto planJittersSpec)) planJittersUptoCard
end Rows
end Go.Proofs.YtnikhhbnbeljeaaGreatDoor
