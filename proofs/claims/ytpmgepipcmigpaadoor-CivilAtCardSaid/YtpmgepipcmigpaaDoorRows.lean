/-
  NARROWER THAN 'FOR EVERY INPUT', by the rows' own cells (each row's printed sentence says how): CivilDays: laid · CivilAt: laid · CivilOf: laid · CivilFloors: laid · CivilGoes: laid · CivilYears: laid · CivilMonths: laid · CivilWeeks: laid.
  DERIVED. THE GIVEN ROWS OF THIS SEAT. 8 by the template 'for every input the law returns true; each argument reads behind the call as it read before'; 0 by the template 'total and deterministic' (their statements: YtpmgepipcmigpaaDoorTotals.lean).
  GIVEN WITH THE SEED: the statements are not yours to turn. If you find one false, say at which input.
  Laid BY PROGRAM, IN A SANDBOX (cutbox-rows.mjs): the forced cells as the released guide's own fill.sh prints them over the translation e619eb0660e8a533… (all of the seat's roots in one cut). By AI agents, Wed Nov 11 2026. No macro, syntax, notation, axiom, sorry.
-/
import Derived.Test.YtpmgepipcmigpaaDoorChecked
import GoSem.Claim
import GoSem.ClaimJoined
import GoSem.ClaimMapViews
import Derived.JoinedTies
import Derived.KernelRfl
namespace Go.Proofs.YtpmgepipcmigpaaDoor
/- THE CELL 'sum', in the pinned program and in every row, IS THE sha256 OF THE DUMP (.gsa) THAT YtpmgepipcmigpaaDoorProg.lean LOADS. Nothing in Lean hashes anything: it is a label: what it is worth is what the hold of that sum in a sandbox is worth. -/
noncomputable def Tryd.pinned : Pinned := { name := "ytpmgepipcmigpaadoor", sum := "e619eb0660e8a5338ef3d8968c1987c2119b1d2a0ab17e2ac2270d1346211656", checked := Tryd.checked }
namespace Rows
def none {H : Type} : Left H := { results := [], args := [] }

/- WHAT THE LISTED PACKAGE-LEVEL VARIABLES READ AS WHEN THE CALL BEGINS. Each datum BY PROGRAM (the guide's laid-datum.mjs) off the statement by which the dump's own 'gosem.cut.vars' lays the variable. In a bare row this is a premise. The card (YtpmgepipcmigpaaDoorCards.lean) ties it to the program's text. -/
def laid_reveille_civil_lengths {H : Type} : DataW H := .agg [.lit (.int .i64 31), .lit (.int .i64 28), .lit (.int .i64 31), .lit (.int .i64 30), .lit (.int .i64 31), .lit (.int .i64 30), .lit (.int .i64 31), .lit (.int .i64 31), .lit (.int .i64 30), .lit (.int .i64 31), .lit (.int .i64 30), .lit (.int .i64 31)]

/-- 'reveillelaw01.CivilDays': WHATEVER THE INPUT: true; the input reads as it did. -/
def civilDaysSpec : ChangeSpec := { name := "civilDays", fn := fun _ => fun
  | [d1, d2, d3] => { results := [.lit (.bool true)], args := [d1, d2, d3] }
  | _ => none }
def civilDaysRow : OpenClaim := { program := "ytpmgepipcmigpaadoor", sum := "e619eb0660e8a5338ef3d8968c1987c2119b1d2a0ab17e2ac2270d1346211656", func := "reveille/reveillelaw01.CivilDays", spec := "civilDays", named := ["reveille/civil.lengths"], apart := false, laid := [("reveille/civil.lengths", laid_reveille_civil_lengths)] }
def CivilDaysSaid : Prop := civilDaysRow.holds Tryd.pinned (OpenSpec.ofChange civilDaysSpec)

/-- ITS FALSE NEIGHBOUR: 'it returns false'. Refute it at one input. -/
def civilDaysWrong : ChangeSpec := { name := "civilDays", fn := fun _ => fun
  | [d1, d2, d3] => { results := [.lit (.bool false)], args := [d1, d2, d3] }
  | _ => none }
def CivilDaysWrongFalsely : Prop := civilDaysRow.holds Tryd.pinned (OpenSpec.ofChange civilDaysWrong)

/-- 'reveillelaw01.CivilAt': WHATEVER THE INPUT: true; the input reads as it did. -/
def civilAtSpec : ChangeSpec := { name := "civilAt", fn := fun _ => fun
  | [d] => { results := [.lit (.bool true)], args := [d] }
  | _ => none }
def civilAtRow : OpenClaim := { program := "ytpmgepipcmigpaadoor", sum := "e619eb0660e8a5338ef3d8968c1987c2119b1d2a0ab17e2ac2270d1346211656", func := "reveille/reveillelaw01.CivilAt", spec := "civilAt", named := ["reveille/civil.lengths"], apart := false, laid := [("reveille/civil.lengths", laid_reveille_civil_lengths)] }
def CivilAtSaid : Prop := civilAtRow.holds Tryd.pinned (OpenSpec.ofChange civilAtSpec)

/-- ITS FALSE NEIGHBOUR: 'it returns false'. Refute it at one input. -/
def civilAtWrong : ChangeSpec := { name := "civilAt", fn := fun _ => fun
  | [d] => { results := [.lit (.bool false)], args := [d] }
  | _ => none }
def CivilAtWrongFalsely : Prop := civilAtRow.holds Tryd.pinned (OpenSpec.ofChange civilAtWrong)

/-- 'reveillelaw01.CivilOf': WHATEVER THE INPUT: true; the input reads as it did. -/
def civilOfSpec : ChangeSpec := { name := "civilOf", fn := fun _ => fun
  | [d] => { results := [.lit (.bool true)], args := [d] }
  | _ => none }
def civilOfRow : OpenClaim := { program := "ytpmgepipcmigpaadoor", sum := "e619eb0660e8a5338ef3d8968c1987c2119b1d2a0ab17e2ac2270d1346211656", func := "reveille/reveillelaw01.CivilOf", spec := "civilOf", named := ["reveille/civil.lengths"], apart := false, laid := [("reveille/civil.lengths", laid_reveille_civil_lengths)] }
def CivilOfSaid : Prop := civilOfRow.holds Tryd.pinned (OpenSpec.ofChange civilOfSpec)

/-- ITS FALSE NEIGHBOUR: 'it returns false'. Refute it at one input. -/
def civilOfWrong : ChangeSpec := { name := "civilOf", fn := fun _ => fun
  | [d] => { results := [.lit (.bool false)], args := [d] }
  | _ => none }
def CivilOfWrongFalsely : Prop := civilOfRow.holds Tryd.pinned (OpenSpec.ofChange civilOfWrong)

/-- 'reveillelaw01.CivilFloors': WHATEVER THE INPUT: true; the input reads as it did. -/
def civilFloorsSpec : ChangeSpec := { name := "civilFloors", fn := fun _ => fun
  | [d1, d2] => { results := [.lit (.bool true)], args := [d1, d2] }
  | _ => none }
def civilFloorsRow : OpenClaim := { program := "ytpmgepipcmigpaadoor", sum := "e619eb0660e8a5338ef3d8968c1987c2119b1d2a0ab17e2ac2270d1346211656", func := "reveille/reveillelaw01.CivilFloors", spec := "civilFloors", named := ["reveille/civil.lengths"], apart := false, laid := [("reveille/civil.lengths", laid_reveille_civil_lengths)] }
def CivilFloorsSaid : Prop := civilFloorsRow.holds Tryd.pinned (OpenSpec.ofChange civilFloorsSpec)

/-- ITS FALSE NEIGHBOUR: 'it returns false'. Refute it at one input. -/
def civilFloorsWrong : ChangeSpec := { name := "civilFloors", fn := fun _ => fun
  | [d1, d2] => { results := [.lit (.bool false)], args := [d1, d2] }
  | _ => none }
def CivilFloorsWrongFalsely : Prop := civilFloorsRow.holds Tryd.pinned (OpenSpec.ofChange civilFloorsWrong)

/-- 'reveillelaw01.CivilGoes': WHATEVER THE INPUT: true; the input reads as it did. -/
def civilGoesSpec : ChangeSpec := { name := "civilGoes", fn := fun _ => fun
  | [d] => { results := [.lit (.bool true)], args := [d] }
  | _ => none }
def civilGoesRow : OpenClaim := { program := "ytpmgepipcmigpaadoor", sum := "e619eb0660e8a5338ef3d8968c1987c2119b1d2a0ab17e2ac2270d1346211656", func := "reveille/reveillelaw01.CivilGoes", spec := "civilGoes", named := ["reveille/civil.lengths"], apart := false, laid := [("reveille/civil.lengths", laid_reveille_civil_lengths)] }
def CivilGoesSaid : Prop := civilGoesRow.holds Tryd.pinned (OpenSpec.ofChange civilGoesSpec)

/-- ITS FALSE NEIGHBOUR: 'it returns false'. Refute it at one input. -/
def civilGoesWrong : ChangeSpec := { name := "civilGoes", fn := fun _ => fun
  | [d] => { results := [.lit (.bool false)], args := [d] }
  | _ => none }
def CivilGoesWrongFalsely : Prop := civilGoesRow.holds Tryd.pinned (OpenSpec.ofChange civilGoesWrong)

/-- 'reveillelaw01.CivilYears': WHATEVER THE INPUT: true; the input reads as it did. -/
def civilYearsSpec : ChangeSpec := { name := "civilYears", fn := fun _ => fun
  | [d1, d2] => { results := [.lit (.bool true)], args := [d1, d2] }
  | _ => none }
def civilYearsRow : OpenClaim := { program := "ytpmgepipcmigpaadoor", sum := "e619eb0660e8a5338ef3d8968c1987c2119b1d2a0ab17e2ac2270d1346211656", func := "reveille/reveillelaw01.CivilYears", spec := "civilYears", named := ["reveille/civil.lengths"], apart := false, laid := [("reveille/civil.lengths", laid_reveille_civil_lengths)] }
def CivilYearsSaid : Prop := civilYearsRow.holds Tryd.pinned (OpenSpec.ofChange civilYearsSpec)

/-- ITS FALSE NEIGHBOUR: 'it returns false'. Refute it at one input. -/
def civilYearsWrong : ChangeSpec := { name := "civilYears", fn := fun _ => fun
  | [d1, d2] => { results := [.lit (.bool false)], args := [d1, d2] }
  | _ => none }
def CivilYearsWrongFalsely : Prop := civilYearsRow.holds Tryd.pinned (OpenSpec.ofChange civilYearsWrong)

/-- 'reveillelaw01.CivilMonths': WHATEVER THE INPUT: true; the input reads as it did. -/
def civilMonthsSpec : ChangeSpec := { name := "civilMonths", fn := fun _ => fun
  | [d1, d2] => { results := [.lit (.bool true)], args := [d1, d2] }
  | _ => none }
def civilMonthsRow : OpenClaim := { program := "ytpmgepipcmigpaadoor", sum := "e619eb0660e8a5338ef3d8968c1987c2119b1d2a0ab17e2ac2270d1346211656", func := "reveille/reveillelaw01.CivilMonths", spec := "civilMonths", named := ["reveille/civil.lengths"], apart := false, laid := [("reveille/civil.lengths", laid_reveille_civil_lengths)] }
def CivilMonthsSaid : Prop := civilMonthsRow.holds Tryd.pinned (OpenSpec.ofChange civilMonthsSpec)

/-- ITS FALSE NEIGHBOUR: 'it returns false'. Refute it at one input. -/
def civilMonthsWrong : ChangeSpec := { name := "civilMonths", fn := fun _ => fun
  | [d1, d2] => { results := [.lit (.bool false)], args := [d1, d2] }
  | _ => none }
def CivilMonthsWrongFalsely : Prop := civilMonthsRow.holds Tryd.pinned (OpenSpec.ofChange civilMonthsWrong)

/-- 'reveillelaw01.CivilWeeks': WHATEVER THE INPUT: true; the input reads as it did. -/
def civilWeeksSpec : ChangeSpec := { name := "civilWeeks", fn := fun _ => fun
  | [d] => { results := [.lit (.bool true)], args := [d] }
  | _ => none }
def civilWeeksRow : OpenClaim := { program := "ytpmgepipcmigpaadoor", sum := "e619eb0660e8a5338ef3d8968c1987c2119b1d2a0ab17e2ac2270d1346211656", func := "reveille/reveillelaw01.CivilWeeks", spec := "civilWeeks", named := ["reveille/civil.lengths"], apart := false, laid := [("reveille/civil.lengths", laid_reveille_civil_lengths)] }
def CivilWeeksSaid : Prop := civilWeeksRow.holds Tryd.pinned (OpenSpec.ofChange civilWeeksSpec)

/-- ITS FALSE NEIGHBOUR: 'it returns false'. Refute it at one input. -/
def civilWeeksWrong : ChangeSpec := { name := "civilWeeks", fn := fun _ => fun
  | [d] => { results := [.lit (.bool false)], args := [d] }
  | _ => none }
def CivilWeeksWrongFalsely : Prop := civilWeeksRow.holds Tryd.pinned (OpenSpec.ofChange civilWeeksWrong)

/- THE SECOND FORM. 'bulk': how many values and letters a reading holds, each counted each time it is reached (what is shared counts as often as it is met; a slice's spare places count too). A statement '..UptoSaid' is the law's where the arguments, and the package variables that the reading takes, are together of bulk at most 1048576: NARROWER than '..Said'. Prove '..Said' where nothing that the law and all that it calls make is longer than what came in: it says more and counts as full. Else prove '..UptoSaid'. A law counts once. -/
mutual
def uptoBulk {H : Type} : DataW H → Nat
  | .lit (.string bytes) => bytes.length + 1
  | .lit _ => 1
  | .nil => 1
  | .ptr d => uptoBulk d + 1
  | .slice elems spare => uptoBulkAll elems + uptoBulkAll spare + 1
  | .agg parts => uptoBulkAll parts + 1
  | .iface _ d => uptoBulk d + 1
  | .map entries => uptoBulkEntries entries + 1
  | .held _ => 1
def uptoBulkAll {H : Type} : List (DataW H) → Nat
  | [] => 0
  | d :: r => uptoBulk d + uptoBulkAll r
def uptoBulkEntries {H : Type} : List (Lit × DataW H) → Nat
  | [] => 0
  | x :: r => uptoBulkEntry x + uptoBulkEntries r
def uptoBulkEntry {H : Type} : Lit × DataW H → Nat
  | (.string bytes, d) => bytes.length + uptoBulk d + 1
  | (_, d) => uptoBulk d + 1
 end
def uptoSmall : (H : Type) → List (DataW H) → Bool := fun _ ds => decide (uptoBulkAll ds ≤ 1048576)
def OpenSpec.upto (s : _root_.Go.ChangeSpec) : _root_.Go.OpenSpec := { _root_.Go.OpenSpec.ofChange s with cond := some uptoSmall }

/-- 'reveillelaw01.CivilDays', WHERE WHAT IT READS IS OF BULK AT MOST 1048576: true; the input reads as it did. -/
def civilDaysUptoRow : OpenClaim := { program := "ytpmgepipcmigpaadoor", sum := "e619eb0660e8a5338ef3d8968c1987c2119b1d2a0ab17e2ac2270d1346211656", func := "reveille/reveillelaw01.CivilDays", spec := "civilDays", named := ["reveille/civil.lengths"], apart := false, laid := [("reveille/civil.lengths", laid_reveille_civil_lengths)], narrowed := true }
def CivilDaysUptoSaid : Prop := civilDaysUptoRow.holds Tryd.pinned (OpenSpec.upto civilDaysSpec)

/-- 'reveillelaw01.CivilAt', WHERE WHAT IT READS IS OF BULK AT MOST 1048576: true; the input reads as it did. -/
def civilAtUptoRow : OpenClaim := { program := "ytpmgepipcmigpaadoor", sum := "e619eb0660e8a5338ef3d8968c1987c2119b1d2a0ab17e2ac2270d1346211656", func := "reveille/reveillelaw01.CivilAt", spec := "civilAt", named := ["reveille/civil.lengths"], apart := false, laid := [("reveille/civil.lengths", laid_reveille_civil_lengths)], narrowed := true }
def CivilAtUptoSaid : Prop := civilAtUptoRow.holds Tryd.pinned (OpenSpec.upto civilAtSpec)

/-- 'reveillelaw01.CivilOf', WHERE WHAT IT READS IS OF BULK AT MOST 1048576: true; the input reads as it did. -/
def civilOfUptoRow : OpenClaim := { program := "ytpmgepipcmigpaadoor", sum := "e619eb0660e8a5338ef3d8968c1987c2119b1d2a0ab17e2ac2270d1346211656", func := "reveille/reveillelaw01.CivilOf", spec := "civilOf", named := ["reveille/civil.lengths"], apart := false, laid := [("reveille/civil.lengths", laid_reveille_civil_lengths)], narrowed := true }
def CivilOfUptoSaid : Prop := civilOfUptoRow.holds Tryd.pinned (OpenSpec.upto civilOfSpec)

/-- 'reveillelaw01.CivilFloors', WHERE WHAT IT READS IS OF BULK AT MOST 1048576: true; the input reads as it did. -/
def civilFloorsUptoRow : OpenClaim := { program := "ytpmgepipcmigpaadoor", sum := "e619eb0660e8a5338ef3d8968c1987c2119b1d2a0ab17e2ac2270d1346211656", func := "reveille/reveillelaw01.CivilFloors", spec := "civilFloors", named := ["reveille/civil.lengths"], apart := false, laid := [("reveille/civil.lengths", laid_reveille_civil_lengths)], narrowed := true }
def CivilFloorsUptoSaid : Prop := civilFloorsUptoRow.holds Tryd.pinned (OpenSpec.upto civilFloorsSpec)

/-- 'reveillelaw01.CivilGoes', WHERE WHAT IT READS IS OF BULK AT MOST 1048576: true; the input reads as it did. -/
def civilGoesUptoRow : OpenClaim := { program := "ytpmgepipcmigpaadoor", sum := "e619eb0660e8a5338ef3d8968c1987c2119b1d2a0ab17e2ac2270d1346211656", func := "reveille/reveillelaw01.CivilGoes", spec := "civilGoes", named := ["reveille/civil.lengths"], apart := false, laid := [("reveille/civil.lengths", laid_reveille_civil_lengths)], narrowed := true }
def CivilGoesUptoSaid : Prop := civilGoesUptoRow.holds Tryd.pinned (OpenSpec.upto civilGoesSpec)

/-- 'reveillelaw01.CivilYears', WHERE WHAT IT READS IS OF BULK AT MOST 1048576: true; the input reads as it did. -/
def civilYearsUptoRow : OpenClaim := { program := "ytpmgepipcmigpaadoor", sum := "e619eb0660e8a5338ef3d8968c1987c2119b1d2a0ab17e2ac2270d1346211656", func := "reveille/reveillelaw01.CivilYears", spec := "civilYears", named := ["reveille/civil.lengths"], apart := false, laid := [("reveille/civil.lengths", laid_reveille_civil_lengths)], narrowed := true }
def CivilYearsUptoSaid : Prop := civilYearsUptoRow.holds Tryd.pinned (OpenSpec.upto civilYearsSpec)

/-- 'reveillelaw01.CivilMonths', WHERE WHAT IT READS IS OF BULK AT MOST 1048576: true; the input reads as it did. -/
def civilMonthsUptoRow : OpenClaim := { program := "ytpmgepipcmigpaadoor", sum := "e619eb0660e8a5338ef3d8968c1987c2119b1d2a0ab17e2ac2270d1346211656", func := "reveille/reveillelaw01.CivilMonths", spec := "civilMonths", named := ["reveille/civil.lengths"], apart := false, laid := [("reveille/civil.lengths", laid_reveille_civil_lengths)], narrowed := true }
def CivilMonthsUptoSaid : Prop := civilMonthsUptoRow.holds Tryd.pinned (OpenSpec.upto civilMonthsSpec)

/-- 'reveillelaw01.CivilWeeks', WHERE WHAT IT READS IS OF BULK AT MOST 1048576: true; the input reads as it did. -/
def civilWeeksUptoRow : OpenClaim := { program := "ytpmgepipcmigpaadoor", sum := "e619eb0660e8a5338ef3d8968c1987c2119b1d2a0ab17e2ac2270d1346211656", func := "reveille/reveillelaw01.CivilWeeks", spec := "civilWeeks", named := ["reveille/civil.lengths"], apart := false, laid := [("reveille/civil.lengths", laid_reveille_civil_lengths)], narrowed := true }
def CivilWeeksUptoSaid : Prop := civilWeeksUptoRow.holds Tryd.pinned (OpenSpec.upto civilWeeksSpec)

end Rows
end Go.Proofs.YtpmgepipcmigpaaDoor
