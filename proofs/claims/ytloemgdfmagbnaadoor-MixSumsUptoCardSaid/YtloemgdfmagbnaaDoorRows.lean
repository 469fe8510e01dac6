/-
  NARROWER THAN 'FOR EVERY INPUT', by the rows' own cells (each row's printed sentence says how): MixSums: laid · MixUpdates: laid · MixFinds: laid · MixMixes: laid · MixHashes: laid · MixSpreads: laid · MixApart: laid.
  DERIVED. THE GIVEN ROWS OF THIS SEAT. 7 by the template 'for every input the law returns true; each argument reads behind the call as it read before'; 0 by the template 'total and deterministic' (their statements: YtloemgdfmagbnaaDoorTotals.lean).
  GIVEN WITH THE SEED: the statements are not yours to turn. If you find one false, say at which input.
  Laid BY PROGRAM, IN A SANDBOX (cutbox-rows.mjs): the forced cells as the released guide's own fill.sh prints them over the translation 33bd25596792d9a5… (all of the seat's roots in one cut). By AI agents, Wed Nov 11 2026. No macro, syntax, notation, axiom, sorry.
-/
import Derived.Test.YtloemgdfmagbnaaDoorChecked
import GoSem.Claim
import GoSem.ClaimJoined
import GoSem.ClaimMapViews
import Derived.JoinedTies
import Derived.KernelRfl
namespace Go.Proofs.YtloemgdfmagbnaaDoor
/- THE CELL 'sum', in the pinned program and in every row, IS THE sha256 OF THE DUMP (.gsa) THAT YtloemgdfmagbnaaDoorProg.lean LOADS. Nothing in Lean hashes anything: it is a label: what it is worth is what the hold of that sum in a sandbox is worth. -/
noncomputable def Tryd.pinned : Pinned := { name := "ytloemgdfmagbnaadoor", sum := "33bd25596792d9a572170de40eeea3e51863b55a8d73a1030f225a3119b9179b", checked := Tryd.checked }
namespace Rows
def none {H : Type} : Left H := { results := [], args := [] }

/- WHAT THE LISTED PACKAGE-LEVEL VARIABLES READ AS WHEN THE CALL BEGINS. Each datum BY PROGRAM (the guide's laid-datum.mjs) off the statement by which the dump's own 'gosem.cut.vars' lays the variable. In a bare row this is a premise. The card (YtloemgdfmagbnaaDoorCards.lean) ties it to the program's text. -/
def laid_reveille_mix_fours {H : Type} : DataW H := .agg [.lit (.int .u32 0), .lit (.int .u32 498536548), .lit (.int .u32 997073096), .lit (.int .u32 651767980), .lit (.int .u32 1994146192), .lit (.int .u32 1802195444), .lit (.int .u32 1303535960), .lit (.int .u32 1342533948), .lit (.int .u32 3988292384), .lit (.int .u32 4027552580), .lit (.int .u32 3604390888), .lit (.int .u32 3412177804), .lit (.int .u32 2607071920), .lit (.int .u32 2262029012), .lit (.int .u32 2685067896), .lit (.int .u32 3183342108)]

/-- 'reveillelaw05.MixSums': WHATEVER THE INPUT: true; the input reads as it did. -/
def mixSumsSpec : ChangeSpec := { name := "mixSums", fn := fun _ => fun
  | [d1, d2] => { results := [.lit (.bool true)], args := [d1, d2] }
  | _ => none }
def mixSumsRow : OpenClaim := { program := "ytloemgdfmagbnaadoor", sum := "33bd25596792d9a572170de40eeea3e51863b55a8d73a1030f225a3119b9179b", func := "reveille/reveillelaw05.MixSums", spec := "mixSums", named := ["reveille/mix.fours"], apart := false, laid := [("reveille/mix.fours", laid_reveille_mix_fours)] }
def MixSumsSaid : Prop := mixSumsRow.holds Tryd.pinned (OpenSpec.ofChange mixSumsSpec)

/-- ITS FALSE NEIGHBOUR: 'it returns false'. Refute it at one input. -/
def mixSumsWrong : ChangeSpec := { name := "mixSums", fn := fun _ => fun
  | [d1, d2] => { results := [.lit (.bool false)], args := [d1, d2] }
  | _ => none }
def MixSumsWrongFalsely : Prop := mixSumsRow.holds Tryd.pinned (OpenSpec.ofChange mixSumsWrong)

/-- 'reveillelaw05.MixUpdates': WHATEVER THE INPUT: true; the input reads as it did. -/
def mixUpdatesSpec : ChangeSpec := { name := "mixUpdates", fn := fun _ => fun
  | [d1, d2] => { results := [.lit (.bool true)], args := [d1, d2] }
  | _ => none }
def mixUpdatesRow : OpenClaim := { program := "ytloemgdfmagbnaadoor", sum := "33bd25596792d9a572170de40eeea3e51863b55a8d73a1030f225a3119b9179b", func := "reveille/reveillelaw05.MixUpdates", spec := "mixUpdates", named := ["reveille/mix.fours"], apart := false, laid := [("reveille/mix.fours", laid_reveille_mix_fours)] }
def MixUpdatesSaid : Prop := mixUpdatesRow.holds Tryd.pinned (OpenSpec.ofChange mixUpdatesSpec)

/-- ITS FALSE NEIGHBOUR: 'it returns false'. Refute it at one input. -/
def mixUpdatesWrong : ChangeSpec := { name := "mixUpdates", fn := fun _ => fun
  | [d1, d2] => { results := [.lit (.bool false)], args := [d1, d2] }
  | _ => none }
def MixUpdatesWrongFalsely : Prop := mixUpdatesRow.holds Tryd.pinned (OpenSpec.ofChange mixUpdatesWrong)

/-- 'reveillelaw05.MixFinds': WHATEVER THE INPUT: true; the input reads as it did. -/
def mixFindsSpec : ChangeSpec := { name := "mixFinds", fn := fun _ => fun
  | [d1, d2, d3] => { results := [.lit (.bool true)], args := [d1, d2, d3] }
  | _ => none }
def mixFindsRow : OpenClaim := { program := "ytloemgdfmagbnaadoor", sum := "33bd25596792d9a572170de40eeea3e51863b55a8d73a1030f225a3119b9179b", func := "reveille/reveillelaw05.MixFinds", spec := "mixFinds", named := ["reveille/mix.fours"], apart := false, laid := [("reveille/mix.fours", laid_reveille_mix_fours)] }
def MixFindsSaid : Prop := mixFindsRow.holds Tryd.pinned (OpenSpec.ofChange mixFindsSpec)

/-- ITS FALSE NEIGHBOUR: 'it returns false'. Refute it at one input. -/
def mixFindsWrong : ChangeSpec := { name := "mixFinds", fn := fun _ => fun
  | [d1, d2, d3] => { results := [.lit (.bool false)], args := [d1, d2, d3] }
  | _ => none }
def MixFindsWrongFalsely : Prop := mixFindsRow.holds Tryd.pinned (OpenSpec.ofChange mixFindsWrong)

/-- 'reveillelaw05.MixMixes': WHATEVER THE INPUT: true; the input reads as it did. -/
def mixMixesSpec : ChangeSpec := { name := "mixMixes", fn := fun _ => fun
  | [d] => { results := [.lit (.bool true)], args := [d] }
  | _ => none }
def mixMixesRow : OpenClaim := { program := "ytloemgdfmagbnaadoor", sum := "33bd25596792d9a572170de40eeea3e51863b55a8d73a1030f225a3119b9179b", func := "reveille/reveillelaw05.MixMixes", spec := "mixMixes", named := ["reveille/mix.fours"], apart := false, laid := [("reveille/mix.fours", laid_reveille_mix_fours)] }
def MixMixesSaid : Prop := mixMixesRow.holds Tryd.pinned (OpenSpec.ofChange mixMixesSpec)

/-- ITS FALSE NEIGHBOUR: 'it returns false'. Refute it at one input. -/
def mixMixesWrong : ChangeSpec := { name := "mixMixes", fn := fun _ => fun
  | [d] => { results := [.lit (.bool false)], args := [d] }
  | _ => none }
def MixMixesWrongFalsely : Prop := mixMixesRow.holds Tryd.pinned (OpenSpec.ofChange mixMixesWrong)

/-- 'reveillelaw05.MixHashes': WHATEVER THE INPUT: true; the input reads as it did. -/
def mixHashesSpec : ChangeSpec := { name := "mixHashes", fn := fun _ => fun
  | [d1, d2] => { results := [.lit (.bool true)], args := [d1, d2] }
  | _ => none }
def mixHashesRow : OpenClaim := { program := "ytloemgdfmagbnaadoor", sum := "33bd25596792d9a572170de40eeea3e51863b55a8d73a1030f225a3119b9179b", func := "reveille/reveillelaw05.MixHashes", spec := "mixHashes", named := ["reveille/mix.fours"], apart := false, laid := [("reveille/mix.fours", laid_reveille_mix_fours)] }
def MixHashesSaid : Prop := mixHashesRow.holds Tryd.pinned (OpenSpec.ofChange mixHashesSpec)

/-- ITS FALSE NEIGHBOUR: 'it returns false'. Refute it at one input. -/
def mixHashesWrong : ChangeSpec := { name := "mixHashes", fn := fun _ => fun
  | [d1, d2] => { results := [.lit (.bool false)], args := [d1, d2] }
  | _ => none }
def MixHashesWrongFalsely : Prop := mixHashesRow.holds Tryd.pinned (OpenSpec.ofChange mixHashesWrong)

/-- 'reveillelaw05.MixSpreads': WHATEVER THE INPUT: true; the input reads as it did. -/
def mixSpreadsSpec : ChangeSpec := { name := "mixSpreads", fn := fun _ => fun
  | [d1, d2, d3] => { results := [.lit (.bool true)], args := [d1, d2, d3] }
  | _ => none }
def mixSpreadsRow : OpenClaim := { program := "ytloemgdfmagbnaadoor", sum := "33bd25596792d9a572170de40eeea3e51863b55a8d73a1030f225a3119b9179b", func := "reveille/reveillelaw05.MixSpreads", spec := "mixSpreads", named := ["reveille/mix.fours"], apart := false, laid := [("reveille/mix.fours", laid_reveille_mix_fours)] }
def MixSpreadsSaid : Prop := mixSpreadsRow.holds Tryd.pinned (OpenSpec.ofChange mixSpreadsSpec)

/-- ITS FALSE NEIGHBOUR: 'it returns false'. Refute it at one input. -/
def mixSpreadsWrong : ChangeSpec := { name := "mixSpreads", fn := fun _ => fun
  | [d1, d2, d3] => { results := [.lit (.bool false)], args := [d1, d2, d3] }
  | _ => none }
def MixSpreadsWrongFalsely : Prop := mixSpreadsRow.holds Tryd.pinned (OpenSpec.ofChange mixSpreadsWrong)

/-- 'reveillelaw05.MixApart': WHATEVER THE INPUT: true; the input reads as it did. -/
def mixApartSpec : ChangeSpec := { name := "mixApart", fn := fun _ => fun
  | [d1, d2] => { results := [.lit (.bool true)], args := [d1, d2] }
  | _ => none }
def mixApartRow : OpenClaim := { program := "ytloemgdfmagbnaadoor", sum := "33bd25596792d9a572170de40eeea3e51863b55a8d73a1030f225a3119b9179b", func := "reveille/reveillelaw05.MixApart", spec := "mixApart", named := ["reveille/mix.fours"], apart := false, laid := [("reveille/mix.fours", laid_reveille_mix_fours)] }
def MixApartSaid : Prop := mixApartRow.holds Tryd.pinned (OpenSpec.ofChange mixApartSpec)

/-- ITS FALSE NEIGHBOUR: 'it returns false'. Refute it at one input. -/
def mixApartWrong : ChangeSpec := { name := "mixApart", fn := fun _ => fun
  | [d1, d2] => { results := [.lit (.bool false)], args := [d1, d2] }
  | _ => none }
def MixApartWrongFalsely : Prop := mixApartRow.holds Tryd.pinned (OpenSpec.ofChange mixApartWrong)

/- THE SECOND FORM. 'bulk': how many values and letters a reading holds, each counted each time it is reached (what is shared counts as often as it is met; a slice's spare places count too). A statement '..UptoSaid' is the law's where the arguments, and the package variables that the reading takes, are together of bulk at most 1048576: NARROWER than '..Said'. Prove '..Said' where nothing that the law and all that it calls make is longer than what came in: it says more and counts as full. Else prove '..UptoSaid'. A law counts once. -/
mutual
def uptoBulk {H : Type} : DataW H → Nat
  | .lit (.string bytes) => bytes.length + 1
  | .lit _ => 1
  | .nil => 1
  | .ptr d => uptoBulk d + 1
  | .slice elems spare => uptoBulkAll elems + uptoBulkAll spare + 1
  | .agg parts => uptoBulkAll parts + 1
  | .iface _ d => uptoBulk d + 1
  | .map entries => uptoBulkEntries entries + 1
  | .held _ => 1
def uptoBulkAll {H : Type} : List (DataW H) → Nat
  | [] => 0
  | d :: r => uptoBulk d + uptoBulkAll r
def uptoBulkEntries {H : Type} : List (Lit × DataW H) → Nat
  | [] => 0
  | x :: r => uptoBulkEntry x + uptoBulkEntries r
def uptoBulkEntry {H : Type} : Lit × DataW H → Nat
  | (.string bytes, d) => bytes.length + uptoBulk d + 1
  | (_, d) => uptoBulk d + 1
 end
def uptoSmall : (H : Type) → List (DataW H) → Bool := fun _ ds => decide (uptoBulkAll ds ≤ 1048576)
def OpenSpec.upto (s : _root_.Go.ChangeSpec) : _root_.Go.OpenSpec := { _root_.Go.OpenSpec.ofChange s with cond := some uptoSmall }

/-- 'reveillelaw05.MixSums', WHERE WHAT IT READS IS OF BULK AT MOST 1048576: true; the input reads as it did. -/
def mixSumsUptoRow : OpenClaim := { program := "ytloemgdfmagbnaadoor", sum := "33bd25596792d9a572170de40eeea3e51863b55a8d73a1030f225a3119b9179b", func := "reveille/reveillelaw05.MixSums", spec := "mixSums", named := ["reveille/mix.fours"], apart := false, laid := [("reveille/mix.fours", laid_reveille_mix_fours)], narrowed := true }
def MixSumsUptoSaid : Prop := mixSumsUptoRow.holds Tryd.pinned (OpenSpec.upto mixSumsSpec)

/-- 'reveillelaw05.MixUpdates', WHERE WHAT IT READS IS OF BULK AT MOST 1048576: true; the input reads as it did. -/
def mixUpdatesUptoRow : OpenClaim := { program := "ytloemgdfmagbnaadoor", sum := "33bd25596792d9a572170de40eeea3e51863b55a8d73a1030f225a3119b9179b", func := "reveille/reveillelaw05.MixUpdates", spec := "mixUpdates", named := ["reveille/mix.fours"], apart := false, laid := [("reveille/mix.fours", laid_reveille_mix_fours)], narrowed := true }
def MixUpdatesUptoSaid : Prop := mixUpdatesUptoRow.holds Tryd.pinned (OpenSpec.upto mixUpdatesSpec)

/-- 'reveillelaw05.MixFinds', WHERE WHAT IT READS IS OF BULK AT MOST 1048576: true; the input reads as it did. -/
def mixFindsUptoRow : OpenClaim := { program := "ytloemgdfmagbnaadoor", sum := "33bd25596792d9a572170de40eeea3e51863b55a8d73a1030f225a3119b9179b", func := "reveille/reveillelaw05.MixFinds", spec := "mixFinds", named := ["reveille/mix.fours"], apart := false, laid := [("reveille/mix.fours", laid_reveille_mix_fours)], narrowed := true }
def MixFindsUptoSaid : Prop := mixFindsUptoRow.holds Tryd.pinned (OpenSpec.upto mixFindsSpec)

/-- 'reveillelaw05.MixMixes', WHERE WHAT IT READS IS OF BULK AT MOST 1048576: true; the input reads as it did. -/
def mixMixesUptoRow : OpenClaim := { program := "ytloemgdfmagbnaadoor", sum := "33bd25596792d9a572170de40eeea3e51863b55a8d73a1030f225a3119b9179b", func := "reveille/reveillelaw05.MixMixes", spec := "mixMixes", named := ["reveille/mix.fours"], apart := false, laid := [("reveille/mix.fours", laid_reveille_mix_fours)], narrowed := true }
def MixMixesUptoSaid : Prop := mixMixesUptoRow.holds Tryd.pinned (OpenSpec.upto mixMixesSpec)

/-- 'reveillelaw05.MixHashes', WHERE WHAT IT READS IS OF BULK AT MOST 1048576: true; the input reads as it did. -/
def mixHashesUptoRow : OpenClaim := { program := "ytloemgdfmagbnaadoor", sum := "33bd25596792d9a572170de40eeea3e51863b55a8d73a1030f225a3119b9179b", func := "reveille/reveillelaw05.MixHashes", spec := "mixHashes", named := ["reveille/mix.fours"], apart := false, laid := [("reveille/mix.fours", laid_reveille_mix_fours)], narrowed := true }
def MixHashesUptoSaid : Prop := mixHashesUptoRow.holds Tryd.pinned (OpenSpec.upto mixHashesSpec)

/-- 'reveillelaw05.MixSpreads', WHERE WHAT IT READS IS OF BULK AT MOST 1048576: true; the input reads as it did. -/
def mixSpreadsUptoRow : OpenClaim := { program := "ytloemgdfmagbnaadoor", sum := "33bd25596792d9a572170de40eeea3e51863b55a8d73a1030f225a3119b9179b", func := "reveille/reveillelaw05.MixSpreads", spec := "mixSpreads", named := ["reveille/mix.fours"], apart := false, laid := [("reveille/mix.fours", laid_reveille_mix_fours)], narrowed := true }
def MixSpreadsUptoSaid : Prop := mixSpreadsUptoRow.holds Tryd.pinned (OpenSpec.upto mixSpreadsSpec)

/-- 'reveillelaw05.MixApart', WHERE WHAT IT READS IS OF BULK AT MOST 1048576: true; the input reads as it did. -/
def mixApartUptoRow : OpenClaim := { program := "ytloemgdfmagbnaadoor", sum := "33bd25596792d9a572170de40eeea3e51863b55a8d73a1030f225a3119b9179b", func := "reveille/reveillelaw05.MixApart", spec := "mixApart", named := ["reveille/mix.fours"], apart := false, laid := [("reveille/mix.fours", laid_reveille_mix_fours)], narrowed := true }
def MixApartUptoSaid : Prop := mixApartUptoRow.holds Tryd.pinned (OpenSpec.upto mixApartSpec)

end Rows
end Go.Proofs.YtloemgdfmagbnaaDoor
