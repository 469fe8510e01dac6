/-
  DERIVED. GIVEN WITH THE SEED: THE CARDS: each row of YtloemgdfmagbnaaDoorRows.lean that lists a variable, with what it lists TIED to the program's text (the seventh form; the later family's looks); each row that meets fmt, with fmt's text TOLD by the authors' own Lean function (tested against real Go, not proved from fmt's source: count such statements apart). THE CARD IS WHAT COUNTS. Prove the row's statement (the work); the ties are given (YtloemgdfmagbnaaDoorTie.lean); close each card by the builder's one call (the guide's Derived/Test/ToyasCard.lean, 'card_holds'). Laid BY PROGRAM, IN A SANDBOX (cutbox-door.mjs). By AI agents, Wed Nov 11 2026. No macro, syntax, notation, axiom, sorry.
-/
import Derived.Test.YtloemgdfmagbnaaDoorRows
import GoSem.ClaimSeven
namespace Go.Proofs.YtloemgdfmagbnaaDoor
namespace Rows

/-- THE TIED CARD OF 'reveillelaw05.MixSums'. -/
def mixSumsCard : Claim7 := { stood := { row := mixSumsRow, standIns := [], harness := (true, "086b2f0a470e1f753ccc6c158bc3fabf4dd013322b9c68be7677e45625298f26"), looks := false }, kinds := [], alts := [], laidByText := true, laidKinds := [.data], laidTests := true, laidLooks := .later }
def MixSumsCardSaid : Prop := Claim7.holds Tryd.pinned (.plain (OpenSpec.ofChange mixSumsSpec)) mixSumsCard

/-- THE TIED CARD OF 'reveillelaw05.MixUpdates'. -/
def mixUpdatesCard : Claim7 := { stood := { row := mixUpdatesRow, standIns := [], harness := (true, "086b2f0a470e1f753ccc6c158bc3fabf4dd013322b9c68be7677e45625298f26"), looks := false }, kinds := [], alts := [], laidByText := true, laidKinds := [.data], laidTests := true, laidLooks := .later }
def MixUpdatesCardSaid : Prop := Claim7.holds Tryd.pinned (.plain (OpenSpec.ofChange mixUpdatesSpec)) mixUpdatesCard

/-- THE TIED CARD OF 'reveillelaw05.MixFinds'. -/
def mixFindsCard : Claim7 := { stood := { row := mixFindsRow, standIns := [], harness := (true, "086b2f0a470e1f753ccc6c158bc3fabf4dd013322b9c68be7677e45625298f26"), looks := false }, kinds := [], alts := [], laidByText := true, laidKinds := [.data], laidTests := true, laidLooks := .later }
def MixFindsCardSaid : Prop := Claim7.holds Tryd.pinned (.plain (OpenSpec.ofChange mixFindsSpec)) mixFindsCard

/-- THE TIED CARD OF 'reveillelaw05.MixMixes'. -/
def mixMixesCard : Claim7 := { stood := { row := mixMixesRow, standIns := [], harness := (true, "086b2f0a470e1f753ccc6c158bc3fabf4dd013322b9c68be7677e45625298f26"), looks := false }, kinds := [], alts := [], laidByText := true, laidKinds := [.data], laidTests := true, laidLooks := .later }
def MixMixesCardSaid : Prop := Claim7.holds Tryd.pinned (.plain (OpenSpec.ofChange mixMixesSpec)) mixMixesCard

/-- THE TIED CARD OF 'reveillelaw05.MixHashes'. -/
def mixHashesCard : Claim7 := { stood := { row := mixHashesRow, standIns := [], harness := (true, "086b2f0a470e1f753ccc6c158bc3fabf4dd013322b9c68be7677e45625298f26"), looks := false }, kinds := [], alts := [], laidByText := true, laidKinds := [.data], laidTests := true, laidLooks := .later }
def MixHashesCardSaid : Prop := Claim7.holds Tryd.pinned (.plain (OpenSpec.ofChange mixHashesSpec)) mixHashesCard

/-- THE TIED CARD OF 'reveillelaw05.MixSpreads'. -/
def mixSpreadsCard : Claim7 := { stood := { row := mixSpreadsRow, standIns := [], harness := (true, "086b2f0a470e1f753ccc6c158bc3fabf4dd013322b9c68be7677e45625298f26"), looks := false }, kinds := [], alts := [], laidByText := true, laidKinds := [.data], laidTests := true, laidLooks := .later }
def MixSpreadsCardSaid : Prop := Claim7.holds Tryd.pinned (.plain (OpenSpec.ofChange mixSpreadsSpec)) mixSpreadsCard

/-- THE TIED CARD OF 'reveillelaw05.MixApart'. -/
def mixApartCard : Claim7 := { stood := { row := mixApartRow, standIns := [], harness := (true, "086b2f0a470e1f753ccc6c158bc3fabf4dd013322b9c68be7677e45625298f26"), looks := false }, kinds := [], alts := [], laidByText := true, laidKinds := [.data], laidTests := true, laidLooks := .later }
def MixApartCardSaid : Prop := Claim7.holds Tryd.pinned (.plain (OpenSpec.ofChange mixApartSpec)) mixApartCard

/-- THE SECOND FORM's CARD OF 'reveillelaw05.MixSums'. -/
def mixSumsUptoCard : Claim7 := { stood := { row := mixSumsUptoRow, standIns := [], harness := (true, "086b2f0a470e1f753ccc6c158bc3fabf4dd013322b9c68be7677e45625298f26"), looks := false }, kinds := [], alts := [], laidByText := true, laidKinds := [.data], laidTests := true, laidLooks := .later }
def MixSumsUptoCardSaid : Prop := Claim7.holds Tryd.pinned (.plain (OpenSpec.upto mixSumsSpec)) mixSumsUptoCard

/-- THE SECOND FORM's CARD OF 'reveillelaw05.MixUpdates'. -/
def mixUpdatesUptoCard : Claim7 := { stood := { row := mixUpdatesUptoRow, standIns := [], harness := (true, "086b2f0a470e1f753ccc6c158bc3fabf4dd013322b9c68be7677e45625298f26"), looks := false }, kinds := [], alts := [], laidByText := true, laidKinds := [.data], laidTests := true, laidLooks := .later }
def MixUpdatesUptoCardSaid : Prop := Claim7.holds Tryd.pinned (.plain (OpenSpec.upto mixUpdatesSpec)) mixUpdatesUptoCard

/-- THE SECOND FORM's CARD OF 'reveillelaw05.MixFinds'. -/
def mixFindsUptoCard : Claim7 := { stood := { row := mixFindsUptoRow, standIns := [], harness := (true, "086b2f0a470e1f753ccc6c158bc3fabf4dd013322b9c68be7677e45625298f26"), looks := false }, kinds := [], alts := [], laidByText := true, laidKinds := [.data], laidTests := true, laidLooks := .later }
def MixFindsUptoCardSaid : Prop := Claim7.holds Tryd.pinned (.plain (OpenSpec.upto mixFindsSpec)) mixFindsUptoCard

/-- THE SECOND FORM's CARD OF 'reveillelaw05.MixMixes'. -/
def mixMixesUptoCard : Claim7 := { stood := { row := mixMixesUptoRow, standIns := [], harness := (true, "086b2f0a470e1f753ccc6c158bc3fabf4dd013322b9c68be7677e45625298f26"), looks := false }, kinds := [], alts := [], laidByText := true, laidKinds := [.data], laidTests := true, laidLooks := .later }
def MixMixesUptoCardSaid : Prop := Claim7.holds Tryd.pinned (.plain (OpenSpec.upto mixMixesSpec)) mixMixesUptoCard

/-- THE SECOND FORM's CARD OF 'reveillelaw05.MixHashes'. -/
def mixHashesUptoCard : Claim7 := { stood := { row := mixHashesUptoRow, standIns := [], harness := (true, "086b2f0a470e1f753ccc6c158bc3fabf4dd013322b9c68be7677e45625298f26"), looks := false }, kinds := [], alts := [], laidByText := true, laidKinds := [.data], laidTests := true, laidLooks := .later }
def MixHashesUptoCardSaid : Prop := Claim7.holds Tryd.pinned (.plain (OpenSpec.upto mixHashesSpec)) mixHashesUptoCard

/-- THE SECOND FORM's CARD OF 'reveillelaw05.MixSpreads'. -/
def mixSpreadsUptoCard : Claim7 := { stood := { row := mixSpreadsUptoRow, standIns := [], harness := (true, "086b2f0a470e1f753ccc6c158bc3fabf4dd013322b9c68be7677e45625298f26"), looks := false }, kinds := [], alts := [], laidByText := true, laidKinds := [.data], laidTests := true, laidLooks := .later }
def MixSpreadsUptoCardSaid : Prop := Claim7.holds Tryd.pinned (.plain (OpenSpec.upto mixSpreadsSpec)) mixSpreadsUptoCard

/-- THE SECOND FORM's CARD OF 'reveillelaw05.MixApart'. -/
def mixApartUptoCard : Claim7 := { stood := { row := mixApartUptoRow, standIns := [], harness := (true, "086b2f0a470e1f753ccc6c158bc3fabf4dd013322b9c68be7677e45625298f26"), looks := false }, kinds := [], alts := [], laidByText := true, laidKinds := [.data], laidTests := true, laidLooks := .later }
def MixApartUptoCardSaid : Prop := Claim7.holds Tryd.pinned (.plain (OpenSpec.upto mixApartSpec)) mixApartUptoCard
end Rows
end Go.Proofs.YtloemgdfmagbnaaDoor
