/-
  NARROWER THAN 'FOR EVERY INPUT', by the rows' own cells (each row's printed sentence says how): CronParses: laid · CronPrints: laid · CronBlanks: laid · CronLists: laid · CronRanges: laid · CronAlls: laid · CronNames: laid.
  DERIVED. THE GIVEN ROWS OF THIS SEAT. 7 by the template 'for every input the law returns true; each argument reads behind the call as it read before'; 0 by the template 'total and deterministic' (their statements: YtbbleedepmcdfaaDoorTotals.lean).
  GIVEN WITH THE SEED: the statements are not yours to turn. If you find one false, say at which input.
  Laid BY PROGRAM, IN A SANDBOX (cutbox-rows.mjs): the forced cells as the released guide's own fill.sh prints them over the translation 4a30e4c7e6ffb8e3… (all of the seat's roots in one cut). By AI agents, Wed Nov 11 2026. No macro, syntax, notation, axiom, sorry.
-/
import Derived.Test.YtbbleedepmcdfaaDoorChecked
import GoSem.Claim
import GoSem.ClaimJoined
import GoSem.ClaimMapViews
import Derived.JoinedTies
import Derived.KernelRfl
namespace Go.Proofs.YtbbleedepmcdfaaDoor
/- THE CELL 'sum', in the pinned program and in every row, IS THE sha256 OF THE DUMP (.gsa) THAT YtbbleedepmcdfaaDoorProg.lean LOADS. Nothing in Lean hashes anything: it is a label: what it is worth is what the hold of that sum in a sandbox is worth. -/
noncomputable def Tryd.pinned : Pinned := { name := "ytbbleedepmcdfaadoor", sum := "4a30e4c7e6ffb8e3014611d29ba3426f965f62a23efd9af060b9aa2644fe4486", checked := Tryd.checked }
namespace Rows
def none {H : Type} : Left H := { results := [], args := [] }

/- WHAT THE LISTED PACKAGE-LEVEL VARIABLES READ AS WHEN THE CALL BEGINS. Each datum BY PROGRAM (the guide's laid-datum.mjs) off the statement by which the dump's own 'gosem.cut.vars' lays the variable. In a bare row this is a premise. The card (YtbbleedepmcdfaaDoorCards.lean) ties it to the program's text. -/
def laid_math_bits_deBruijn32tab {H : Type} : DataW H := .agg [.lit (.int .u8 0), .lit (.int .u8 1), .lit (.int .u8 28), .lit (.int .u8 2), .lit (.int .u8 29), .lit (.int .u8 14), .lit (.int .u8 24), .lit (.int .u8 3), .lit (.int .u8 30), .lit (.int .u8 22), .lit (.int .u8 20), .lit (.int .u8 15), .lit (.int .u8 25), .lit (.int .u8 17), .lit (.int .u8 4), .lit (.int .u8 8), .lit (.int .u8 31), .lit (.int .u8 27), .lit (.int .u8 13), .lit (.int .u8 23), .lit (.int .u8 21), .lit (.int .u8 19), .lit (.int .u8 16), .lit (.int .u8 7), .lit (.int .u8 26), .lit (.int .u8 12), .lit (.int .u8 18), .lit (.int .u8 6), .lit (.int .u8 11), .lit (.int .u8 5), .lit (.int .u8 10), .lit (.int .u8 9)]
def laid_math_bits_deBruijn64tab {H : Type} : DataW H := .agg [.lit (.int .u8 0), .lit (.int .u8 1), .lit (.int .u8 56), .lit (.int .u8 2), .lit (.int .u8 57), .lit (.int .u8 49), .lit (.int .u8 28), .lit (.int .u8 3), .lit (.int .u8 61), .lit (.int .u8 58), .lit (.int .u8 42), .lit (.int .u8 50), .lit (.int .u8 38), .lit (.int .u8 29), .lit (.int .u8 17), .lit (.int .u8 4), .lit (.int .u8 62), .lit (.int .u8 47), .lit (.int .u8 59), .lit (.int .u8 36), .lit (.int .u8 45), .lit (.int .u8 43), .lit (.int .u8 51), .lit (.int .u8 22), .lit (.int .u8 53), .lit (.int .u8 39), .lit (.int .u8 33), .lit (.int .u8 30), .lit (.int .u8 24), .lit (.int .u8 18), .lit (.int .u8 12), .lit (.int .u8 5), .lit (.int .u8 63), .lit (.int .u8 55), .lit (.int .u8 48), .lit (.int .u8 27), .lit (.int .u8 60), .lit (.int .u8 41), .lit (.int .u8 37), .lit (.int .u8 16), .lit (.int .u8 46), .lit (.int .u8 35), .lit (.int .u8 44), .lit (.int .u8 21), .lit (.int .u8 52), .lit (.int .u8 32), .lit (.int .u8 23), .lit (.int .u8 11), .lit (.int .u8 54), .lit (.int .u8 26), .lit (.int .u8 40), .lit (.int .u8 15), .lit (.int .u8 34), .lit (.int .u8 20), .lit (.int .u8 31), .lit (.int .u8 10), .lit (.int .u8 25), .lit (.int .u8 14), .lit (.int .u8 19), .lit (.int .u8 9), .lit (.int .u8 13), .lit (.int .u8 8), .lit (.int .u8 7), .lit (.int .u8 6)]
def laid_internal_strconv_uint64pow10 {H : Type} : DataW H := .agg [.lit (.int .u64 1), .lit (.int .u64 10), .lit (.int .u64 100), .lit (.int .u64 1000), .lit (.int .u64 10000), .lit (.int .u64 100000), .lit (.int .u64 1000000), .lit (.int .u64 10000000), .lit (.int .u64 100000000), .lit (.int .u64 1000000000), .lit (.int .u64 10000000000), .lit (.int .u64 100000000000), .lit (.int .u64 1000000000000), .lit (.int .u64 10000000000000), .lit (.int .u64 100000000000000), .lit (.int .u64 1000000000000000), .lit (.int .u64 10000000000000000), .lit (.int .u64 100000000000000000), .lit (.int .u64 1000000000000000000), .lit (.int .u64 10000000000000000000)]
def laid_reveille_civil_lengths {H : Type} : DataW H := .agg [.lit (.int .i64 31), .lit (.int .i64 28), .lit (.int .i64 31), .lit (.int .i64 30), .lit (.int .i64 31), .lit (.int .i64 30), .lit (.int .i64 31), .lit (.int .i64 31), .lit (.int .i64 30), .lit (.int .i64 31), .lit (.int .i64 30), .lit (.int .i64 31)]
def laid_reveille_cron_scopes {H : Type} : DataW H := .agg [.agg [.lit (.int .i64 0), .lit (.int .i64 59), .lit (.int .i64 59)], .agg [.lit (.int .i64 0), .lit (.int .i64 23), .lit (.int .i64 23)], .agg [.lit (.int .i64 1), .lit (.int .i64 31), .lit (.int .i64 31)], .agg [.lit (.int .i64 1), .lit (.int .i64 12), .lit (.int .i64 12)], .agg [.lit (.int .i64 0), .lit (.int .i64 6), .lit (.int .i64 7)]]

/-- 'reveillelaw02.CronParses': WHATEVER THE INPUT: true; the input reads as it did. -/
def cronParsesSpec : ChangeSpec := { name := "cronParses", fn := fun _ => fun
  | [d] => { results := [.lit (.bool true)], args := [d] }
  | _ => none }
def cronParsesRow : OpenClaim := { program := "ytbbleedepmcdfaadoor", sum := "4a30e4c7e6ffb8e3014611d29ba3426f965f62a23efd9af060b9aa2644fe4486", func := "reveille/reveillelaw02.CronParses", spec := "cronParses", inPlace := ["internal/bytealg.IndexByteString", "internal/bytealg.IndexString", "internal/abi.NoEscape", "internal/bytealg.MakeNoZero"], unfollowed := true, recurses := true, named := ["reveille/cron.scopes", "internal/bytealg.MaxLen", "reveille/civil.lengths", "internal/strconv.uint64pow10", "math/bits.deBruijn32tab", "math/bits.deBruijn64tab"], apart := false, laid := [("math/bits.deBruijn32tab", laid_math_bits_deBruijn32tab), ("math/bits.deBruijn64tab", laid_math_bits_deBruijn64tab), ("internal/strconv.uint64pow10", laid_internal_strconv_uint64pow10), ("reveille/civil.lengths", laid_reveille_civil_lengths), ("reveille/cron.scopes", laid_reveille_cron_scopes)] }
def CronParsesSaid : Prop := cronParsesRow.holds Tryd.pinned (OpenSpec.ofChange cronParsesSpec)

/-- ITS FALSE NEIGHBOUR: 'it returns false'. Refute it at one input. -/
def cronParsesWrong : ChangeSpec := { name := "cronParses", fn := fun _ => fun
  | [d] => { results := [.lit (.bool false)], args := [d] }
  | _ => none }
def CronParsesWrongFalsely : Prop := cronParsesRow.holds Tryd.pinned (OpenSpec.ofChange cronParsesWrong)

/-- 'reveillelaw02.CronPrints': WHATEVER THE INPUT: true; the input reads as it did. -/
def cronPrintsSpec : ChangeSpec := { name := "cronPrints", fn := fun _ => fun
  | [d] => { results := [.lit (.bool true)], args := [d] }
  | _ => none }
def cronPrintsRow : OpenClaim := { program := "ytbbleedepmcdfaadoor", sum := "4a30e4c7e6ffb8e3014611d29ba3426f965f62a23efd9af060b9aa2644fe4486", func := "reveille/reveillelaw02.CronPrints", spec := "cronPrints", inPlace := ["internal/abi.NoEscape", "internal/bytealg.MakeNoZero", "internal/bytealg.IndexByteString", "internal/bytealg.IndexString"], unfollowed := true, recurses := true, named := ["reveille/cron.scopes", "internal/strconv.uint64pow10", "math/bits.deBruijn32tab", "math/bits.deBruijn64tab", "internal/bytealg.MaxLen", "reveille/civil.lengths"], apart := false, laid := [("math/bits.deBruijn32tab", laid_math_bits_deBruijn32tab), ("math/bits.deBruijn64tab", laid_math_bits_deBruijn64tab), ("internal/strconv.uint64pow10", laid_internal_strconv_uint64pow10), ("reveille/civil.lengths", laid_reveille_civil_lengths), ("reveille/cron.scopes", laid_reveille_cron_scopes)] }
def CronPrintsSaid : Prop := cronPrintsRow.holds Tryd.pinned (OpenSpec.ofChange cronPrintsSpec)

/-- ITS FALSE NEIGHBOUR: 'it returns false'. Refute it at one input. -/
def cronPrintsWrong : ChangeSpec := { name := "cronPrints", fn := fun _ => fun
  | [d] => { results := [.lit (.bool false)], args := [d] }
  | _ => none }
def CronPrintsWrongFalsely : Prop := cronPrintsRow.holds Tryd.pinned (OpenSpec.ofChange cronPrintsWrong)

/-- 'reveillelaw02.CronBlanks': WHATEVER THE INPUT: true; the input reads as it did. -/
def cronBlanksSpec : ChangeSpec := { name := "cronBlanks", fn := fun _ => fun
  | [d1, d2] => { results := [.lit (.bool true)], args := [d1, d2] }
  | _ => none }
def cronBlanksRow : OpenClaim := { program := "ytbbleedepmcdfaadoor", sum := "4a30e4c7e6ffb8e3014611d29ba3426f965f62a23efd9af060b9aa2644fe4486", func := "reveille/reveillelaw02.CronBlanks", spec := "cronBlanks", inPlace := ["internal/bytealg.IndexByteString", "internal/bytealg.IndexString", "internal/abi.NoEscape", "internal/bytealg.MakeNoZero"], unfollowed := true, recurses := true, named := ["reveille/cron.scopes", "internal/bytealg.MaxLen", "reveille/civil.lengths", "internal/strconv.uint64pow10", "math/bits.deBruijn32tab", "math/bits.deBruijn64tab"], apart := false, laid := [("math/bits.deBruijn32tab", laid_math_bits_deBruijn32tab), ("math/bits.deBruijn64tab", laid_math_bits_deBruijn64tab), ("internal/strconv.uint64pow10", laid_internal_strconv_uint64pow10), ("reveille/civil.lengths", laid_reveille_civil_lengths), ("reveille/cron.scopes", laid_reveille_cron_scopes)] }
def CronBlanksSaid : Prop := cronBlanksRow.holds Tryd.pinned (OpenSpec.ofChange cronBlanksSpec)

/-- ITS FALSE NEIGHBOUR: 'it returns false'. Refute it at one input. -/
def cronBlanksWrong : ChangeSpec := { name := "cronBlanks", fn := fun _ => fun
  | [d1, d2] => { results := [.lit (.bool false)], args := [d1, d2] }
  | _ => none }
def CronBlanksWrongFalsely : Prop := cronBlanksRow.holds Tryd.pinned (OpenSpec.ofChange cronBlanksWrong)

/-- 'reveillelaw02.CronLists': WHATEVER THE INPUT: true; the input reads as it did. -/
def cronListsSpec : ChangeSpec := { name := "cronLists", fn := fun _ => fun
  | [d1, d2, d3] => { results := [.lit (.bool true)], args := [d1, d2, d3] }
  | _ => none }
def cronListsRow : OpenClaim := { program := "ytbbleedepmcdfaadoor", sum := "4a30e4c7e6ffb8e3014611d29ba3426f965f62a23efd9af060b9aa2644fe4486", func := "reveille/reveillelaw02.CronLists", spec := "cronLists", inPlace := ["internal/bytealg.IndexByteString", "internal/bytealg.IndexString", "internal/abi.NoEscape", "internal/bytealg.MakeNoZero"], unfollowed := true, recurses := true, named := ["reveille/cron.scopes", "internal/bytealg.MaxLen", "reveille/civil.lengths", "internal/strconv.uint64pow10", "math/bits.deBruijn32tab", "math/bits.deBruijn64tab"], apart := false, laid := [("math/bits.deBruijn32tab", laid_math_bits_deBruijn32tab), ("math/bits.deBruijn64tab", laid_math_bits_deBruijn64tab), ("internal/strconv.uint64pow10", laid_internal_strconv_uint64pow10), ("reveille/civil.lengths", laid_reveille_civil_lengths), ("reveille/cron.scopes", laid_reveille_cron_scopes)] }
def CronListsSaid : Prop := cronListsRow.holds Tryd.pinned (OpenSpec.ofChange cronListsSpec)

/-- ITS FALSE NEIGHBOUR: 'it returns false'. Refute it at one input. -/
def cronListsWrong : ChangeSpec := { name := "cronLists", fn := fun _ => fun
  | [d1, d2, d3] => { results := [.lit (.bool false)], args := [d1, d2, d3] }
  | _ => none }
def CronListsWrongFalsely : Prop := cronListsRow.holds Tryd.pinned (OpenSpec.ofChange cronListsWrong)

/-- 'reveillelaw02.CronRanges': WHATEVER THE INPUT: true; the input reads as it did. -/
def cronRangesSpec : ChangeSpec := { name := "cronRanges", fn := fun _ => fun
  | [d1, d2, d3] => { results := [.lit (.bool true)], args := [d1, d2, d3] }
  | _ => none }
def cronRangesRow : OpenClaim := { program := "ytbbleedepmcdfaadoor", sum := "4a30e4c7e6ffb8e3014611d29ba3426f965f62a23efd9af060b9aa2644fe4486", func := "reveille/reveillelaw02.CronRanges", spec := "cronRanges", inPlace := ["internal/bytealg.IndexByteString", "internal/bytealg.IndexString", "internal/abi.NoEscape", "internal/bytealg.MakeNoZero"], unfollowed := true, recurses := true, named := ["reveille/cron.scopes", "internal/bytealg.MaxLen", "reveille/civil.lengths", "internal/strconv.uint64pow10", "math/bits.deBruijn32tab", "math/bits.deBruijn64tab"], apart := false, laid := [("math/bits.deBruijn32tab", laid_math_bits_deBruijn32tab), ("math/bits.deBruijn64tab", laid_math_bits_deBruijn64tab), ("internal/strconv.uint64pow10", laid_internal_strconv_uint64pow10), ("reveille/civil.lengths", laid_reveille_civil_lengths), ("reveille/cron.scopes", laid_reveille_cron_scopes)] }
def CronRangesSaid : Prop := cronRangesRow.holds Tryd.pinned (OpenSpec.ofChange cronRangesSpec)

/-- ITS FALSE NEIGHBOUR: 'it returns false'. Refute it at one input. -/
def cronRangesWrong : ChangeSpec := { name := "cronRanges", fn := fun _ => fun
  | [d1, d2, d3] => { results := [.lit (.bool false)], args := [d1, d2, d3] }
  | _ => none }
def CronRangesWrongFalsely : Prop := cronRangesRow.holds Tryd.pinned (OpenSpec.ofChange cronRangesWrong)

/-- 'reveillelaw02.CronAlls': WHATEVER THE INPUT: true; the input reads as it did. -/
def cronAllsSpec : ChangeSpec := { name := "cronAlls", fn := fun _ => fun
  | [d1, d2] => { results := [.lit (.bool true)], args := [d1, d2] }
  | _ => none }
def cronAllsRow : OpenClaim := { program := "ytbbleedepmcdfaadoor", sum := "4a30e4c7e6ffb8e3014611d29ba3426f965f62a23efd9af060b9aa2644fe4486", func := "reveille/reveillelaw02.CronAlls", spec := "cronAlls", inPlace := ["internal/bytealg.IndexByteString", "internal/bytealg.IndexString", "internal/abi.NoEscape", "internal/bytealg.MakeNoZero"], unfollowed := true, recurses := true, named := ["reveille/cron.scopes", "internal/bytealg.MaxLen", "reveille/civil.lengths", "internal/strconv.uint64pow10", "math/bits.deBruijn32tab", "math/bits.deBruijn64tab"], apart := false, laid := [("math/bits.deBruijn32tab", laid_math_bits_deBruijn32tab), ("math/bits.deBruijn64tab", laid_math_bits_deBruijn64tab), ("internal/strconv.uint64pow10", laid_internal_strconv_uint64pow10), ("reveille/civil.lengths", laid_reveille_civil_lengths), ("reveille/cron.scopes", laid_reveille_cron_scopes)] }
def CronAllsSaid : Prop := cronAllsRow.holds Tryd.pinned (OpenSpec.ofChange cronAllsSpec)

/-- ITS FALSE NEIGHBOUR: 'it returns false'. Refute it at one input. -/
def cronAllsWrong : ChangeSpec := { name := "cronAlls", fn := fun _ => fun
  | [d1, d2] => { results := [.lit (.bool false)], args := [d1, d2] }
  | _ => none }
def CronAllsWrongFalsely : Prop := cronAllsRow.holds Tryd.pinned (OpenSpec.ofChange cronAllsWrong)

/-- 'reveillelaw02.CronNames': WHATEVER THE INPUT: true; the input reads as it did. -/
def cronNamesSpec : ChangeSpec := { name := "cronNames", fn := fun _ => fun
  | [d1, d2] => { results := [.lit (.bool true)], args := [d1, d2] }
  | _ => none }
def cronNamesRow : OpenClaim := { program := "ytbbleedepmcdfaadoor", sum := "4a30e4c7e6ffb8e3014611d29ba3426f965f62a23efd9af060b9aa2644fe4486", func := "reveille/reveillelaw02.CronNames", spec := "cronNames", inPlace := ["internal/bytealg.IndexByteString", "internal/bytealg.IndexString", "internal/abi.NoEscape", "internal/bytealg.MakeNoZero"], unfollowed := true, recurses := true, named := ["reveille/cron.scopes", "internal/bytealg.MaxLen", "reveille/civil.lengths", "internal/strconv.uint64pow10", "math/bits.deBruijn32tab", "math/bits.deBruijn64tab"], apart := false, laid := [("math/bits.deBruijn32tab", laid_math_bits_deBruijn32tab), ("math/bits.deBruijn64tab", laid_math_bits_deBruijn64tab), ("internal/strconv.uint64pow10", laid_internal_strconv_uint64pow10), ("reveille/civil.lengths", laid_reveille_civil_lengths), ("reveille/cron.scopes", laid_reveille_cron_scopes)] }
def CronNamesSaid : Prop := cronNamesRow.holds Tryd.pinned (OpenSpec.ofChange cronNamesSpec)

/-- ITS FALSE NEIGHBOUR: 'it returns false'. Refute it at one input. -/
def cronNamesWrong : ChangeSpec := { name := "cronNames", fn := fun _ => fun
  | [d1, d2] => { results := [.lit (.bool false)], args := [d1, d2] }
  | _ => none }
def CronNamesWrongFalsely : Prop := cronNamesRow.holds Tryd.pinned (OpenSpec.ofChange cronNamesWrong)

/- THE SECOND FORM. 'bulk': how many values and letters a reading holds, each counted each time it is reached (what is shared counts as often as it is met; a slice's spare places count too). A statement '..UptoSaid' is the law's where the arguments, and the package variables that the reading takes, are together of bulk at most 1048576: NARROWER than '..Said'. Prove '..Said' where nothing that the law and all that it calls make is longer than what came in: it says more and counts as full. Else prove '..UptoSaid'. A law counts once. -/
mutual
def uptoBulk {H : Type} : DataW H → Nat
  | .lit (.string bytes) => bytes.length + 1
  | .lit _ => 1
  | .nil => 1
  | .ptr d => uptoBulk d + 1
  | .slice elems spare => uptoBulkAll elems + uptoBulkAll spare + 1
  | .agg parts => uptoBulkAll parts + 1
  | .iface _ d => uptoBulk d + 1
  | .map entries => uptoBulkEntries entries + 1
  | .held _ => 1
def uptoBulkAll {H : Type} : List (DataW H) → Nat
  | [] => 0
  | d :: r => uptoBulk d + uptoBulkAll r
def uptoBulkEntries {H : Type} : List (Lit × DataW H) → Nat
  | [] => 0
  | x :: r => uptoBulkEntry x + uptoBulkEntries r
def uptoBulkEntry {H : Type} : Lit × DataW H → Nat
  | (.string bytes, d) => bytes.length + uptoBulk d + 1
  | (_, d) => uptoBulk d + 1
 end
def uptoSmall : (H : Type) → List (DataW H) → Bool := fun _ ds => decide (uptoBulkAll ds ≤ 1048576)
def OpenSpec.upto (s : _root_.Go.ChangeSpec) : _root_.Go.OpenSpec := { _root_.Go.OpenSpec.ofChange s with cond := some uptoSmall }

/-- 'reveillelaw02.CronParses', WHERE WHAT IT READS IS OF BULK AT MOST 1048576: true; the input reads as it did. -/
def cronParsesUptoRow : OpenClaim := { program := "ytbbleedepmcdfaadoor", sum := "4a30e4c7e6ffb8e3014611d29ba3426f965f62a23efd9af060b9aa2644fe4486", func := "reveille/reveillelaw02.CronParses", spec := "cronParses", inPlace := ["internal/bytealg.IndexByteString", "internal/bytealg.IndexString", "internal/abi.NoEscape", "internal/bytealg.MakeNoZero"], unfollowed := true, recurses := true, named := ["reveille/cron.scopes", "internal/bytealg.MaxLen", "reveille/civil.lengths", "internal/strconv.uint64pow10", "math/bits.deBruijn32tab", "math/bits.deBruijn64tab"], apart := false, laid := [("math/bits.deBruijn32tab", laid_math_bits_deBruijn32tab), ("math/bits.deBruijn64tab", laid_math_bits_deBruijn64tab), ("internal/strconv.uint64pow10", laid_internal_strconv_uint64pow10), ("reveille/civil.lengths", laid_reveille_civil_lengths), ("reveille/cron.scopes", laid_reveille_cron_scopes)], narrowed := true }
def CronParsesUptoSaid : Prop := cronParsesUptoRow.holds Tryd.pinned (OpenSpec.upto cronParsesSpec)

/-- 'reveillelaw02.CronPrints', WHERE WHAT IT READS IS OF BULK AT MOST 1048576: true; the input reads as it did. -/
def cronPrintsUptoRow : OpenClaim := { program := "ytbbleedepmcdfaadoor", sum := "4a30e4c7e6ffb8e3014611d29ba3426f965f62a23efd9af060b9aa2644fe4486", func := "reveille/reveillelaw02.CronPrints", spec := "cronPrints", inPlace := ["internal/abi.NoEscape", "internal/bytealg.MakeNoZero", "internal/bytealg.IndexByteString", "internal/bytealg.IndexString"], unfollowed := true, recurses := true, named := ["reveille/cron.scopes", "internal/strconv.uint64pow10", "math/bits.deBruijn32tab", "math/bits.deBruijn64tab", "internal/bytealg.MaxLen", "reveille/civil.lengths"], apart := false, laid := [("math/bits.deBruijn32tab", laid_math_bits_deBruijn32tab), ("math/bits.deBruijn64tab", laid_math_bits_deBruijn64tab), ("internal/strconv.uint64pow10", laid_internal_strconv_uint64pow10), ("reveille/civil.lengths", laid_reveille_civil_lengths), ("reveille/cron.scopes", laid_reveille_cron_scopes)], narrowed := true }
def CronPrintsUptoSaid : Prop := cronPrintsUptoRow.holds Tryd.pinned (OpenSpec.upto cronPrintsSpec)

/-- 'reveillelaw02.CronBlanks', WHERE WHAT IT READS IS OF BULK AT MOST 1048576: true; the input reads as it did. -/
def cronBlanksUptoRow : OpenClaim := { program := "ytbbleedepmcdfaadoor", sum := "4a30e4c7e6ffb8e3014611d29ba3426f965f62a23efd9af060b9aa2644fe4486", func := "reveille/reveillelaw02.CronBlanks", spec := "cronBlanks", inPlace := ["internal/bytealg.IndexByteString", "internal/bytealg.IndexString", "internal/abi.NoEscape", "internal/bytealg.MakeNoZero"], unfollowed := true, recurses := true, named := ["reveille/cron.scopes", "internal/bytealg.MaxLen", "reveille/civil.lengths", "internal/strconv.uint64pow10", "math/bits.deBruijn32tab", "math/bits.deBruijn64tab"], apart := false, laid := [("math/bits.deBruijn32tab", laid_math_bits_deBruijn32tab), ("math/bits.deBruijn64tab", laid_math_bits_deBruijn64tab), ("internal/strconv.uint64pow10", laid_internal_strconv_uint64pow10), ("reveille/civil.lengths", laid_reveille_civil_lengths), ("reveille/cron.scopes", laid_reveille_cron_scopes)], narrowed := true }
def CronBlanksUptoSaid : Prop := cronBlanksUptoRow.holds Tryd.pinned (OpenSpec.upto cronBlanksSpec)

/-- 'reveillelaw02.CronLists', WHERE WHAT IT READS IS OF BULK AT MOST 1048576: true; the input reads as it did. -/
def cronListsUptoRow : OpenClaim := { program := "ytbbleedepmcdfaadoor", sum := "4a30e4c7e6ffb8e3014611d29ba3426f965f62a23efd9af060b9aa2644fe4486", func := "reveille/reveillelaw02.CronLists", spec := "cronLists", inPlace := ["internal/bytealg.IndexByteString", "internal/bytealg.IndexString", "internal/abi.NoEscape", "internal/bytealg.MakeNoZero"], unfollowed := true, recurses := true, named := ["reveille/cron.scopes", "internal/bytealg.MaxLen", "reveille/civil.lengths", "internal/strconv.uint64pow10", "math/bits.deBruijn32tab", "math/bits.deBruijn64tab"], apart := false, laid := [("math/bits.deBruijn32tab", laid_math_bits_deBruijn32tab), ("math/bits.deBruijn64tab", laid_math_bits_deBruijn64tab), ("internal/strconv.uint64pow10", laid_internal_strconv_uint64pow10), ("reveille/civil.lengths", laid_reveille_civil_lengths), ("reveille/cron.scopes", laid_reveille_cron_scopes)], narrowed := true }
def CronListsUptoSaid : Prop := cronListsUptoRow.holds Tryd.pinned (OpenSpec.upto cronListsSpec)

/-- 'reveillelaw02.CronRanges', WHERE WHAT IT READS IS OF BULK AT MOST 1048576: true; the input reads as it did. -/
def cronRangesUptoRow : OpenClaim := { program := "ytbbleedepmcdfaadoor", sum := "4a30e4c7e6ffb8e3014611d29ba3426f965f62a23efd9af060b9aa2644fe4486", func := "reveille/reveillelaw02.CronRanges", spec := "cronRanges", inPlace := ["internal/bytealg.IndexByteString", "internal/bytealg.IndexString", "internal/abi.NoEscape", "internal/bytealg.MakeNoZero"], unfollowed := true, recurses := true, named := ["reveille/cron.scopes", "internal/bytealg.MaxLen", "reveille/civil.lengths", "internal/strconv.uint64pow10", "math/bits.deBruijn32tab", "math/bits.deBruijn64tab"], apart := false, laid := [("math/bits.deBruijn32tab", laid_math_bits_deBruijn32tab), ("math/bits.deBruijn64tab", laid_math_bits_deBruijn64tab), ("internal/strconv.uint64pow10", laid_internal_strconv_uint64pow10), ("reveille/civil.lengths", laid_reveille_civil_lengths), ("reveille/cron.scopes", laid_reveille_cron_scopes)], narrowed := true }
def CronRangesUptoSaid : Prop := cronRangesUptoRow.holds Tryd.pinned (OpenSpec.upto cronRangesSpec)

/-- 'reveillelaw02.CronAlls', WHERE WHAT IT READS IS OF BULK AT MOST 1048576: true; the input reads as it did. -/
def cronAllsUptoRow : OpenClaim := { program := "ytbbleedepmcdfaadoor", sum := "4a30e4c7e6ffb8e3014611d29ba3426f965f62a23efd9af060b9aa2644fe4486", func := "reveille/reveillelaw02.CronAlls", spec := "cronAlls", inPlace := ["internal/bytealg.IndexByteString", "internal/bytealg.IndexString", "internal/abi.NoEscape", "internal/bytealg.MakeNoZero"], unfollowed := true, recurses := true, named := ["reveille/cron.scopes", "internal/bytealg.MaxLen", "reveille/civil.lengths", "internal/strconv.uint64pow10", "math/bits.deBruijn32tab", "math/bits.deBruijn64tab"], apart := false, laid := [("math/bits.deBruijn32tab", laid_math_bits_deBruijn32tab), ("math/bits.deBruijn64tab", laid_math_bits_deBruijn64tab), ("internal/strconv.uint64pow10", laid_internal_strconv_uint64pow10), ("reveille/civil.lengths", laid_reveille_civil_lengths), ("reveille/cron.scopes", laid_reveille_cron_scopes)], narrowed := true }
def CronAllsUptoSaid : Prop := cronAllsUptoRow.holds Tryd.pinned (OpenSpec.upto cronAllsSpec)

/-- 'reveillelaw02.CronNames', WHERE WHAT IT READS IS OF BULK AT MOST 1048576: true; the input reads as it did. -/
def cronNamesUptoRow : OpenClaim := { program := "ytbbleedepmcdfaadoor", sum := "4a30e4c7e6ffb8e3014611d29ba3426f965f62a23efd9af060b9aa2644fe4486", func := "reveille/reveillelaw02.CronNames", spec := "cronNames", inPlace := ["internal/bytealg.IndexByteString", "internal/bytealg.IndexString", "internal/abi.NoEscape", "internal/bytealg.MakeNoZero"], unfollowed := true, recurses := true, named := ["reveille/cron.scopes", "internal/bytealg.MaxLen", "reveille/civil.lengths", "internal/strconv.uint64pow10", "math/bits.deBruijn32tab", "math/bits.deBruijn64tab"], apart := false, laid := [("math/bits.deBruijn32tab", laid_math_bits_deBruijn32tab), ("math/bits.deBruijn64tab", laid_math_bits_deBruijn64tab), ("internal/strconv.uint64pow10", laid_internal_strconv_uint64pow10), ("reveille/civil.lengths", laid_reveille_civil_lengths), ("reveille/cron.scopes", laid_reveille_cron_scopes)], narrowed := true }
def CronNamesUptoSaid : Prop := cronNamesUptoRow.holds Tryd.pinned (OpenSpec.upto cronNamesSpec)

end Rows
end Go.Proofs.YtbbleedepmcdfaaDoor
