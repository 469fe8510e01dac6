/-
  NARROWER THAN 'FOR EVERY INPUT', by the rows' own cells (each row's printed sentence says how): JobPrints: laid · JobPacks: laid · JobGets: laid · JobSame: laid · JobOrder: laid · PlanRuns: laid · PlanHosts: laid · PlanFinds: laid · PlanKeeps: laid · PlanApart: laid · PlanJitters: laid.
  DERIVED. THE GIVEN ROWS OF THIS SEAT. 11 by the template 'for every input the law returns true; each argument reads behind the call as it read before'; 0 by the template 'total and deterministic' (their statements: YtnikhhbnbeljeaaGreatDoorTotals.lean).
  GIVEN WITH THE SEED: the statements are not yours to turn. If you find one false, say at which input.
  Laid BY PROGRAM, IN A SANDBOX (cutbox-rows.mjs): the forced cells as the released guide's own fill.sh prints them over the translation 2387c3e551942fe1… (all of the seat's roots in one cut). By AI agents, Wed Nov 11 2026. No macro, syntax, notation, axiom, sorry.
-/
import Derived.Test.YtnikhhbnbeljeaaGreatDoorChecked
import GoSem.PinnedTables
import GoSem.Claim
import GoSem.ClaimJoined
import GoSem.ClaimMapViews
import Derived.JoinedTies
import Derived.KernelRfl
namespace Go.Proofs.YtnikhhbnbeljeaaGreatDoor
/- THE CELL 'sum', in the pinned program and in every row, IS THE sha256 OF THE DUMP (.gsa) THAT YtnikhhbnbeljeaaGreatDoorProg.lean LOADS. Nothing in Lean hashes anything: it is a label: what it is worth is what the hold of that sum in a sandbox is worth. -/
noncomputable def Tryz.pinned : Pinned := { name := "ytnikhhbnbeljeaagreatdoor", sum := "2387c3e551942fe1d28c62d22a31a6bd1557cba1a7147d3e099b020d455f1712", checked := Tryz.checked }
namespace Rows
def none {H : Type} : Left H := { results := [], args := [] }

/- WHAT THE LISTED PACKAGE-LEVEL VARIABLES READ AS WHEN THE CALL BEGINS. Each datum BY PROGRAM (the guide's laid-datum.mjs) off the statement by which the dump's own 'gosem.cut.vars' lays the variable. In a bare row this is a premise. The card (YtnikhhbnbeljeaaGreatDoorCards.lean) ties it to the program's text. -/
def laid_math_bits_deBruijn32tab {H : Type} : DataW H := .agg [.lit (.int .u8 0), .lit (.int .u8 1), .lit (.int .u8 28), .lit (.int .u8 2), .lit (.int .u8 29), .lit (.int .u8 14), .lit (.int .u8 24), .lit (.int .u8 3), .lit (.int .u8 30), .lit (.int .u8 22), .lit (.int .u8 20), .lit (.int .u8 15), .lit (.int .u8 25), .lit (.int .u8 17), .lit (.int .u8 4), .lit (.int .u8 8), .lit (.int .u8 31), .lit (.int .u8 27), .lit (.int .u8 13), .lit (.int .u8 23), .lit (.int .u8 21), .lit (.int .u8 19), .lit (.int .u8 16), .lit (.int .u8 7), .lit (.int .u8 26), .lit (.int .u8 12), .lit (.int .u8 18), .lit (.int .u8 6), .lit (.int .u8 11), .lit (.int .u8 5), .lit (.int .u8 10), .lit (.int .u8 9)]
def laid_math_bits_deBruijn64tab {H : Type} : DataW H := .agg [.lit (.int .u8 0), .lit (.int .u8 1), .lit (.int .u8 56), .lit (.int .u8 2), .lit (.int .u8 57), .lit (.int .u8 49), .lit (.int .u8 28), .lit (.int .u8 3), .lit (.int .u8 61), .lit (.int .u8 58), .lit (.int .u8 42), .lit (.int .u8 50), .lit (.int .u8 38), .lit (.int .u8 29), .lit (.int .u8 17), .lit (.int .u8 4), .lit (.int .u8 62), .lit (.int .u8 47), .lit (.int .u8 59), .lit (.int .u8 36), .lit (.int .u8 45), .lit (.int .u8 43), .lit (.int .u8 51), .lit (.int .u8 22), .lit (.int .u8 53), .lit (.int .u8 39), .lit (.int .u8 33), .lit (.int .u8 30), .lit (.int .u8 24), .lit (.int .u8 18), .lit (.int .u8 12), .lit (.int .u8 5), .lit (.int .u8 63), .lit (.int .u8 55), .lit (.int .u8 48), .lit (.int .u8 27), .lit (.int .u8 60), .lit (.int .u8 41), .lit (.int .u8 37), .lit (.int .u8 16), .lit (.int .u8 46), .lit (.int .u8 35), .lit (.int .u8 44), .lit (.int .u8 21), .lit (.int .u8 52), .lit (.int .u8 32), .lit (.int .u8 23), .lit (.int .u8 11), .lit (.int .u8 54), .lit (.int .u8 26), .lit (.int .u8 40), .lit (.int .u8 15), .lit (.int .u8 34), .lit (.int .u8 20), .lit (.int .u8 31), .lit (.int .u8 10), .lit (.int .u8 25), .lit (.int .u8 14), .lit (.int .u8 19), .lit (.int .u8 9), .lit (.int .u8 13), .lit (.int .u8 8), .lit (.int .u8 7), .lit (.int .u8 6)]
def laid_internal_strconv_uint64pow10 {H : Type} : DataW H := .agg [.lit (.int .u64 1), .lit (.int .u64 10), .lit (.int .u64 100), .lit (.int .u64 1000), .lit (.int .u64 10000), .lit (.int .u64 100000), .lit (.int .u64 1000000), .lit (.int .u64 10000000), .lit (.int .u64 100000000), .lit (.int .u64 1000000000), .lit (.int .u64 10000000000), .lit (.int .u64 100000000000), .lit (.int .u64 1000000000000), .lit (.int .u64 10000000000000), .lit (.int .u64 100000000000000), .lit (.int .u64 1000000000000000), .lit (.int .u64 10000000000000000), .lit (.int .u64 100000000000000000), .lit (.int .u64 1000000000000000000), .lit (.int .u64 10000000000000000000)]
def laid_unicode_utf8_acceptRanges {H : Type} : DataW H := .agg [.agg [.lit (.int .u8 128), .lit (.int .u8 191)], .agg [.lit (.int .u8 160), .lit (.int .u8 191)], .agg [.lit (.int .u8 128), .lit (.int .u8 159)], .agg [.lit (.int .u8 144), .lit (.int .u8 191)], .agg [.lit (.int .u8 128), .lit (.int .u8 143)], .agg [.lit (.int .u8 0), .lit (.int .u8 0)], .agg [.lit (.int .u8 0), .lit (.int .u8 0)], .agg [.lit (.int .u8 0), .lit (.int .u8 0)], .agg [.lit (.int .u8 0), .lit (.int .u8 0)], .agg [.lit (.int .u8 0), .lit (.int .u8 0)], .agg [.lit (.int .u8 0), .lit (.int .u8 0)], .agg [.lit (.int .u8 0), .lit (.int .u8 0)], .agg [.lit (.int .u8 0), .lit (.int .u8 0)], .agg [.lit (.int .u8 0), .lit (.int .u8 0)], .agg [.lit (.int .u8 0), .lit (.int .u8 0)], .agg [.lit (.int .u8 0), .lit (.int .u8 0)]]
def laid_reveille_cron_scopes {H : Type} : DataW H := .agg [.agg [.lit (.int .i64 0), .lit (.int .i64 59), .lit (.int .i64 59)], .agg [.lit (.int .i64 0), .lit (.int .i64 23), .lit (.int .i64 23)], .agg [.lit (.int .i64 1), .lit (.int .i64 31), .lit (.int .i64 31)], .agg [.lit (.int .i64 1), .lit (.int .i64 12), .lit (.int .i64 12)], .agg [.lit (.int .i64 0), .lit (.int .i64 6), .lit (.int .i64 7)]]
def laid_reveille_job_keys {H : Type} : DataW H := .agg [.lit (.string [115, 101, 108, 101, 99, 116]), .lit (.string [106, 105, 116, 116, 101, 114]), .lit (.string [119, 97, 118, 101]), .lit (.string [102, 97, 105, 108]), .lit (.string [112, 97, 114, 97, 108, 108, 101, 108]), .lit (.string [100, 101, 97, 100, 108, 105, 110, 101]), .lit (.string [109, 105, 115, 102, 105, 114, 101])]
/-- One of Go's own tables, pinned by name: the form's constant. -/
def laid_unicode_utf8_first : DataW Unit := Go.Pinned.utf8First
def laid_reveille_civil_lengths {H : Type} : DataW H := .agg [.lit (.int .i64 31), .lit (.int .i64 28), .lit (.int .i64 31), .lit (.int .i64 30), .lit (.int .i64 31), .lit (.int .i64 30), .lit (.int .i64 31), .lit (.int .i64 31), .lit (.int .i64 30), .lit (.int .i64 31), .lit (.int .i64 30), .lit (.int .i64 31)]

/-- 'reveillelaw14.JobPrints': WHATEVER THE INPUT: true; the input reads as it did. -/
def jobPrintsSpec : ChangeSpec := { name := "jobPrints", fn := fun _ => fun
  | [d] => { results := [.lit (.bool true)], args := [d] }
  | _ => none }
def jobPrintsRow : OpenClaim := { program := "ytnikhhbnbeljeaagreatdoor", sum := "2387c3e551942fe1d28c62d22a31a6bd1557cba1a7147d3e099b020d455f1712", func := "reveille/reveillelaw14.JobPrints", spec := "jobPrints", inPlace := ["internal/abi.NoEscape", "internal/bytealg.MakeNoZero", "internal/bytealg.IndexByteString", "internal/bytealg.IndexString", "internal/bytealg.CountString"], unfollowed := true, recurses := true, named := ["reveille/job.keys", "reveille/cron.scopes", "internal/strconv.uint64pow10", "math/bits.deBruijn32tab", "math/bits.deBruijn64tab", "unicode/utf8.first", "unicode/utf8.acceptRanges", "internal/bytealg.MaxLen"], apart := false, laid := [("math/bits.deBruijn32tab", laid_math_bits_deBruijn32tab), ("math/bits.deBruijn64tab", laid_math_bits_deBruijn64tab), ("internal/strconv.uint64pow10", laid_internal_strconv_uint64pow10), ("unicode/utf8.acceptRanges", laid_unicode_utf8_acceptRanges), ("reveille/cron.scopes", laid_reveille_cron_scopes), ("reveille/job.keys", laid_reveille_job_keys), ("unicode/utf8.first", laid_unicode_utf8_first)] }
def JobPrintsSaid : Prop := jobPrintsRow.holds Tryz.pinned (OpenSpec.ofChange jobPrintsSpec)

/-- ITS FALSE NEIGHBOUR: 'it returns false'. Refute it at one input. -/
def jobPrintsWrong : ChangeSpec := { name := "jobPrints", fn := fun _ => fun
  | [d] => { results := [.lit (.bool false)], args := [d] }
  | _ => none }
def JobPrintsWrongFalsely : Prop := jobPrintsRow.holds Tryz.pinned (OpenSpec.ofChange jobPrintsWrong)

/-- 'reveillelaw14.JobPacks': WHATEVER THE INPUT: true; the input reads as it did. -/
def jobPacksSpec : ChangeSpec := { name := "jobPacks", fn := fun _ => fun
  | [d] => { results := [.lit (.bool true)], args := [d] }
  | _ => none }
def jobPacksRow : OpenClaim := { program := "ytnikhhbnbeljeaagreatdoor", sum := "2387c3e551942fe1d28c62d22a31a6bd1557cba1a7147d3e099b020d455f1712", func := "reveille/reveillelaw14.JobPacks", spec := "jobPacks", inPlace := ["internal/bytealg.CountString", "internal/bytealg.IndexByteString", "internal/bytealg.IndexString", "internal/abi.NoEscape", "internal/bytealg.MakeNoZero"], unfollowed := true, recurses := true, named := ["unicode/utf8.first", "unicode/utf8.acceptRanges", "internal/bytealg.MaxLen", "internal/strconv.uint64pow10", "math/bits.deBruijn32tab", "math/bits.deBruijn64tab", "reveille/cron.scopes", "reveille/job.keys"], apart := false, laid := [("math/bits.deBruijn32tab", laid_math_bits_deBruijn32tab), ("math/bits.deBruijn64tab", laid_math_bits_deBruijn64tab), ("internal/strconv.uint64pow10", laid_internal_strconv_uint64pow10), ("unicode/utf8.acceptRanges", laid_unicode_utf8_acceptRanges), ("reveille/cron.scopes", laid_reveille_cron_scopes), ("reveille/job.keys", laid_reveille_job_keys), ("unicode/utf8.first", laid_unicode_utf8_first)] }
def JobPacksSaid : Prop := jobPacksRow.holds Tryz.pinned (OpenSpec.ofChange jobPacksSpec)

/-- ITS FALSE NEIGHBOUR: 'it returns false'. Refute it at one input. -/
def jobPacksWrong : ChangeSpec := { name := "jobPacks", fn := fun _ => fun
  | [d] => { results := [.lit (.bool false)], args := [d] }
  | _ => none }
def JobPacksWrongFalsely : Prop := jobPacksRow.holds Tryz.pinned (OpenSpec.ofChange jobPacksWrong)

/-- 'reveillelaw14.JobGets': WHATEVER THE INPUT: true; the input reads as it did. -/
def jobGetsSpec : ChangeSpec := { name := "jobGets", fn := fun _ => fun
  | [d] => { results := [.lit (.bool true)], args := [d] }
  | _ => none }
def jobGetsRow : OpenClaim := { program := "ytnikhhbnbeljeaagreatdoor", sum := "2387c3e551942fe1d28c62d22a31a6bd1557cba1a7147d3e099b020d455f1712", func := "reveille/reveillelaw14.JobGets", spec := "jobGets", inPlace := ["internal/bytealg.CountString", "internal/bytealg.IndexByteString", "internal/bytealg.IndexString", "internal/abi.NoEscape", "internal/bytealg.MakeNoZero"], unfollowed := true, recurses := true, named := ["unicode/utf8.first", "unicode/utf8.acceptRanges", "internal/bytealg.MaxLen", "internal/strconv.uint64pow10", "math/bits.deBruijn32tab", "math/bits.deBruijn64tab", "reveille/cron.scopes", "reveille/job.keys"], apart := false, laid := [("math/bits.deBruijn32tab", laid_math_bits_deBruijn32tab), ("math/bits.deBruijn64tab", laid_math_bits_deBruijn64tab), ("internal/strconv.uint64pow10", laid_internal_strconv_uint64pow10), ("unicode/utf8.acceptRanges", laid_unicode_utf8_acceptRanges), ("reveille/cron.scopes", laid_reveille_cron_scopes), ("reveille/job.keys", laid_reveille_job_keys), ("unicode/utf8.first", laid_unicode_utf8_first)] }
def JobGetsSaid : Prop := jobGetsRow.holds Tryz.pinned (OpenSpec.ofChange jobGetsSpec)

/-- ITS FALSE NEIGHBOUR: 'it returns false'. Refute it at one input. -/
def jobGetsWrong : ChangeSpec := { name := "jobGets", fn := fun _ => fun
  | [d] => { results := [.lit (.bool false)], args := [d] }
  | _ => none }
def JobGetsWrongFalsely : Prop := jobGetsRow.holds Tryz.pinned (OpenSpec.ofChange jobGetsWrong)

/-- 'reveillelaw14.JobSame': WHATEVER THE INPUT: true; the input reads as it did. -/
def jobSameSpec : ChangeSpec := { name := "jobSame", fn := fun _ => fun
  | [d1, d2] => { results := [.lit (.bool true)], args := [d1, d2] }
  | _ => none }
def jobSameRow : OpenClaim := { program := "ytnikhhbnbeljeaagreatdoor", sum := "2387c3e551942fe1d28c62d22a31a6bd1557cba1a7147d3e099b020d455f1712", func := "reveille/reveillelaw14.JobSame", spec := "jobSame", inPlace := ["internal/bytealg.CountString", "internal/bytealg.IndexByteString", "internal/bytealg.IndexString", "internal/abi.NoEscape", "internal/bytealg.MakeNoZero"], unfollowed := true, recurses := true, named := ["unicode/utf8.first", "unicode/utf8.acceptRanges", "internal/bytealg.MaxLen", "internal/strconv.uint64pow10", "math/bits.deBruijn32tab", "math/bits.deBruijn64tab", "reveille/cron.scopes", "reveille/job.keys"], apart := false, laid := [("math/bits.deBruijn32tab", laid_math_bits_deBruijn32tab), ("math/bits.deBruijn64tab", laid_math_bits_deBruijn64tab), ("internal/strconv.uint64pow10", laid_internal_strconv_uint64pow10), ("unicode/utf8.acceptRanges", laid_unicode_utf8_acceptRanges), ("reveille/cron.scopes", laid_reveille_cron_scopes), ("reveille/job.keys", laid_reveille_job_keys), ("unicode/utf8.first", laid_unicode_utf8_first)] }
def JobSameSaid : Prop := jobSameRow.holds Tryz.pinned (OpenSpec.ofChange jobSameSpec)

/-- ITS FALSE NEIGHBOUR: 'it returns false'. Refute it at one input. -/
def jobSameWrong : ChangeSpec := { name := "jobSame", fn := fun _ => fun
  | [d1, d2] => { results := [.lit (.bool false)], args := [d1, d2] }
  | _ => none }
def JobSameWrongFalsely : Prop := jobSameRow.holds Tryz.pinned (OpenSpec.ofChange jobSameWrong)

/-- 'reveillelaw14.JobOrder': WHATEVER THE INPUT: true; the input reads as it did. -/
def jobOrderSpec : ChangeSpec := { name := "jobOrder", fn := fun _ => fun
  | [d1, d2] => { results := [.lit (.bool true)], args := [d1, d2] }
  | _ => none }
def jobOrderRow : OpenClaim := { program := "ytnikhhbnbeljeaagreatdoor", sum := "2387c3e551942fe1d28c62d22a31a6bd1557cba1a7147d3e099b020d455f1712", func := "reveille/reveillelaw14.JobOrder", spec := "jobOrder", inPlace := ["internal/bytealg.CountString", "internal/bytealg.IndexByteString", "internal/bytealg.IndexString", "internal/abi.NoEscape", "internal/bytealg.MakeNoZero"], unfollowed := true, recurses := true, named := ["unicode/utf8.first", "unicode/utf8.acceptRanges", "internal/bytealg.MaxLen", "internal/strconv.uint64pow10", "math/bits.deBruijn32tab", "math/bits.deBruijn64tab", "reveille/cron.scopes", "reveille/job.keys"], apart := false, laid := [("math/bits.deBruijn32tab", laid_math_bits_deBruijn32tab), ("math/bits.deBruijn64tab", laid_math_bits_deBruijn64tab), ("internal/strconv.uint64pow10", laid_internal_strconv_uint64pow10), ("unicode/utf8.acceptRanges", laid_unicode_utf8_acceptRanges), ("reveille/cron.scopes", laid_reveille_cron_scopes), ("reveille/job.keys", laid_reveille_job_keys), ("unicode/utf8.first", laid_unicode_utf8_first)] }
def JobOrderSaid : Prop := jobOrderRow.holds Tryz.pinned (OpenSpec.ofChange jobOrderSpec)

/-- ITS FALSE NEIGHBOUR: 'it returns false'. Refute it at one input. -/
def jobOrderWrong : ChangeSpec := { name := "jobOrder", fn := fun _ => fun
  | [d1, d2] => { results := [.lit (.bool false)], args := [d1, d2] }
  | _ => none }
def JobOrderWrongFalsely : Prop := jobOrderRow.holds Tryz.pinned (OpenSpec.ofChange jobOrderWrong)

/-- 'reveillelaw16.PlanRuns': WHATEVER THE INPUT: true; the input reads as it did. -/
def planRunsSpec : ChangeSpec := { name := "planRuns", fn := fun _ => fun
  | [d1, d2, d3, d4] => { results := [.lit (.bool true)], args := [d1, d2, d3, d4] }
  | _ => none }
def planRunsRow : OpenClaim := { program := "ytnikhhbnbeljeaagreatdoor", sum := "2387c3e551942fe1d28c62d22a31a6bd1557cba1a7147d3e099b020d455f1712", func := "reveille/reveillelaw16.PlanRuns", spec := "planRuns", inPlace := ["internal/abi.NoEscape", "internal/bytealg.MakeNoZero"], unfollowed := true, recurses := true, named := ["reveille/cron.scopes", "internal/strconv.uint64pow10", "math/bits.deBruijn32tab", "math/bits.deBruijn64tab", "reveille/civil.lengths"], apart := false, laid := [("math/bits.deBruijn32tab", laid_math_bits_deBruijn32tab), ("math/bits.deBruijn64tab", laid_math_bits_deBruijn64tab), ("internal/strconv.uint64pow10", laid_internal_strconv_uint64pow10), ("reveille/civil.lengths", laid_reveille_civil_lengths), ("reveille/cron.scopes", laid_reveille_cron_scopes)] }
def PlanRunsSaid : Prop := planRunsRow.holds Tryz.pinned (OpenSpec.ofChange planRunsSpec)

/-- ITS FALSE NEIGHBOUR: 'it returns false'. Refute it at one input. -/
def planRunsWrong : ChangeSpec := { name := "planRuns", fn := fun _ => fun
  | [d1, d2, d3, d4] => { results := [.lit (.bool false)], args := [d1, d2, d3, d4] }
  | _ => none }
def PlanRunsWrongFalsely : Prop := planRunsRow.holds Tryz.pinned (OpenSpec.ofChange planRunsWrong)

/-- 'reveillelaw16.PlanHosts': WHATEVER THE INPUT: true; the input reads as it did. -/
def planHostsSpec : ChangeSpec := { name := "planHosts", fn := fun _ => fun
  | [d1, d2, d3] => { results := [.lit (.bool true)], args := [d1, d2, d3] }
  | _ => none }
def planHostsRow : OpenClaim := { program := "ytnikhhbnbeljeaagreatdoor", sum := "2387c3e551942fe1d28c62d22a31a6bd1557cba1a7147d3e099b020d455f1712", func := "reveille/reveillelaw16.PlanHosts", spec := "planHosts", inPlace := ["internal/abi.NoEscape", "internal/bytealg.MakeNoZero"], unfollowed := true, recurses := true, named := ["reveille/cron.scopes", "internal/strconv.uint64pow10", "math/bits.deBruijn32tab", "math/bits.deBruijn64tab", "reveille/civil.lengths"], apart := false, laid := [("math/bits.deBruijn32tab", laid_math_bits_deBruijn32tab), ("math/bits.deBruijn64tab", laid_math_bits_deBruijn64tab), ("internal/strconv.uint64pow10", laid_internal_strconv_uint64pow10), ("reveille/civil.lengths", laid_reveille_civil_lengths), ("reveille/cron.scopes", laid_reveille_cron_scopes)] }
def PlanHostsSaid : Prop := planHostsRow.holds Tryz.pinned (OpenSpec.ofChange planHostsSpec)

/-- ITS FALSE NEIGHBOUR: 'it returns false'. Refute it at one input. -/
def planHostsWrong : ChangeSpec := { name := "planHosts", fn := fun _ => fun
  | [d1, d2, d3] => { results := [.lit (.bool false)], args := [d1, d2, d3] }
  | _ => none }
def PlanHostsWrongFalsely : Prop := planHostsRow.holds Tryz.pinned (OpenSpec.ofChange planHostsWrong)

/-- 'reveillelaw16.PlanFinds': WHATEVER THE INPUT: true; the input reads as it did. -/
def planFindsSpec : ChangeSpec := { name := "planFinds", fn := fun _ => fun
  | [d1, d2] => { results := [.lit (.bool true)], args := [d1, d2] }
  | _ => none }
def planFindsRow : OpenClaim := { program := "ytnikhhbnbeljeaagreatdoor", sum := "2387c3e551942fe1d28c62d22a31a6bd1557cba1a7147d3e099b020d455f1712", func := "reveille/reveillelaw16.PlanFinds", spec := "planFinds", inPlace := ["internal/abi.NoEscape", "internal/bytealg.MakeNoZero"], unfollowed := true, recurses := true, named := ["reveille/cron.scopes", "internal/strconv.uint64pow10", "math/bits.deBruijn32tab", "math/bits.deBruijn64tab", "reveille/civil.lengths"], apart := false, laid := [("math/bits.deBruijn32tab", laid_math_bits_deBruijn32tab), ("math/bits.deBruijn64tab", laid_math_bits_deBruijn64tab), ("internal/strconv.uint64pow10", laid_internal_strconv_uint64pow10), ("reveille/civil.lengths", laid_reveille_civil_lengths), ("reveille/cron.scopes", laid_reveille_cron_scopes)] }
def PlanFindsSaid : Prop := planFindsRow.holds Tryz.pinned (OpenSpec.ofChange planFindsSpec)

/-- ITS FALSE NEIGHBOUR: 'it returns false'. Refute it at one input. -/
def planFindsWrong : ChangeSpec := { name := "planFinds", fn := fun _ => fun
  | [d1, d2] => { results := [.lit (.bool false)], args := [d1, d2] }
  | _ => none }
def PlanFindsWrongFalsely : Prop := planFindsRow.holds Tryz.pinned (OpenSpec.ofChange planFindsWrong)

/-- 'reveillelaw16.PlanKeeps': WHATEVER THE INPUT: true; the input reads as it did. -/
def planKeepsSpec : ChangeSpec := { name := "planKeeps", fn := fun _ => fun
  | [d1, d2, d3] => { results := [.lit (.bool true)], args := [d1, d2, d3] }
  | _ => none }
def planKeepsRow : OpenClaim := { program := "ytnikhhbnbeljeaagreatdoor", sum := "2387c3e551942fe1d28c62d22a31a6bd1557cba1a7147d3e099b020d455f1712", func := "reveille/reveillelaw16.PlanKeeps", spec := "planKeeps", inPlace := ["internal/abi.NoEscape", "internal/bytealg.MakeNoZero"], unfollowed := true, recurses := true, named := ["reveille/cron.scopes", "internal/strconv.uint64pow10", "math/bits.deBruijn32tab", "math/bits.deBruijn64tab", "reveille/civil.lengths"], apart := false, laid := [("math/bits.deBruijn32tab", laid_math_bits_deBruijn32tab), ("math/bits.deBruijn64tab", laid_math_bits_deBruijn64tab), ("internal/strconv.uint64pow10", laid_internal_strconv_uint64pow10), ("reveille/civil.lengths", laid_reveille_civil_lengths), ("reveille/cron.scopes", laid_reveille_cron_scopes)] }
def PlanKeepsSaid : Prop := planKeepsRow.holds Tryz.pinned (OpenSpec.ofChange planKeepsSpec)

/-- ITS FALSE NEIGHBOUR: 'it returns false'. Refute it at one input. -/
def planKeepsWrong : ChangeSpec := { name := "planKeeps", fn := fun _ => fun
  | [d1, d2, d3] => { results := [.lit (.bool false)], args := [d1, d2, d3] }
  | _ => none }
def PlanKeepsWrongFalsely : Prop := planKeepsRow.holds Tryz.pinned (OpenSpec.ofChange planKeepsWrong)

/-- 'reveillelaw16.PlanApart': WHATEVER THE INPUT: true; the input reads as it did. -/
def planApartSpec : ChangeSpec := { name := "planApart", fn := fun _ => fun
  | [d1, d2, d3, d4] => { results := [.lit (.bool true)], args := [d1, d2, d3, d4] }
  | _ => none }
def planApartRow : OpenClaim := { program := "ytnikhhbnbeljeaagreatdoor", sum := "2387c3e551942fe1d28c62d22a31a6bd1557cba1a7147d3e099b020d455f1712", func := "reveille/reveillelaw16.PlanApart", spec := "planApart", inPlace := ["internal/abi.NoEscape", "internal/bytealg.MakeNoZero"], unfollowed := true, recurses := true, named := ["reveille/cron.scopes", "internal/strconv.uint64pow10", "math/bits.deBruijn32tab", "math/bits.deBruijn64tab", "reveille/civil.lengths"], apart := false, laid := [("math/bits.deBruijn32tab", laid_math_bits_deBruijn32tab), ("math/bits.deBruijn64tab", laid_math_bits_deBruijn64tab), ("internal/strconv.uint64pow10", laid_internal_strconv_uint64pow10), ("reveille/civil.lengths", laid_reveille_civil_lengths), ("reveille/cron.scopes", laid_reveille_cron_scopes)] }
def PlanApartSaid : Prop := planApartRow.holds Tryz.pinned (OpenSpec.ofChange planApartSpec)

/-- ITS FALSE NEIGHBOUR: 'it returns false'. Refute it at one input. -/
def planApartWrong : ChangeSpec := { name := "planApart", fn := fun _ => fun
  | [d1, d2, d3, d4] => { results := [.lit (.bool false)], args := [d1, d2, d3, d4] }
  | _ => none }
def PlanApartWrongFalsely : Prop := planApartRow.holds Tryz.pinned (OpenSpec.ofChange planApartWrong)

/-- 'reveillelaw16.PlanJitters': WHATEVER THE INPUT: true; the input reads as it did. -/
def planJittersSpec : ChangeSpec := { name := "planJitters", fn := fun _ => fun
  | [d1, d2] => { results := [.lit (.bool true)], args := [d1, d2] }
  | _ => none }
def planJittersRow : OpenClaim := { program := "ytnikhhbnbeljeaagreatdoor", sum := "2387c3e551942fe1d28c62d22a31a6bd1557cba1a7147d3e099b020d455f1712", func := "reveille/reveillelaw16.PlanJitters", spec := "planJitters", inPlace := ["internal/abi.NoEscape", "internal/bytealg.MakeNoZero"], unfollowed := true, recurses := true, named := ["reveille/cron.scopes", "internal/strconv.uint64pow10", "math/bits.deBruijn32tab", "math/bits.deBruijn64tab", "reveille/civil.lengths"], apart := false, laid := [("math/bits.deBruijn32tab", laid_math_bits_deBruijn32tab), ("math/bits.deBruijn64tab", laid_math_bits_deBruijn64tab), ("internal/strconv.uint64pow10", laid_internal_strconv_uint64pow10), ("reveille/civil.lengths", laid_reveille_civil_lengths), ("reveille/cron.scopes", laid_reveille_cron_scopes)] }
def PlanJittersSaid : Prop := planJittersRow.holds Tryz.pinned (OpenSpec.ofChange planJittersSpec)

/-- ITS FALSE NEIGHBOUR: 'it returns false'. Refute it at one input. -/
def planJittersWrong : ChangeSpec := { name := "planJitters", fn := fun _ => fun
  | [d1, d2] => { results := [.lit (.bool false)], args := [d1, d2] }
  | _ => none }
def PlanJittersWrongFalsely : Prop := planJittersRow.holds Tryz.pinned (OpenSpec.ofChange planJittersWrong)

/- THE SECOND FORM. 'bulk': how many values and letters a reading holds, each counted each time it is reached (what is shared counts as often as it is met; a slice's spare places count too). A statement '..UptoSaid' is the law's where the arguments, and the package variables that the reading takes, are together of bulk at most 1048576: NARROWER than '..Said'. Prove '..Said' where nothing that the law and all that it calls make is longer than what came in: it says more and counts as full. Else prove '..UptoSaid'. A law counts once. -/
mutual
def uptoBulk {H : Type} : DataW H → Nat
  | .lit (.string bytes) => bytes.length + 1
  | .lit _ => 1
  | .nil => 1
  | .ptr d => uptoBulk d + 1
  | .slice elems spare => uptoBulkAll elems + uptoBulkAll spare + 1
  | .agg parts => uptoBulkAll parts + 1
  | .iface _ d => uptoBulk d + 1
  | .map entries => uptoBulkEntries entries + 1
  | .held _ => 1
def uptoBulkAll {H : Type} : List (DataW H) → Nat
  | [] => 0
  | d :: r => uptoBulk d + uptoBulkAll r
def uptoBulkEntries {H : Type} : List (Lit × DataW H) → Nat
  | [] => 0
  | x :: r => uptoBulkEntry x + uptoBulkEntries r
def uptoBulkEntry {H : Type} : Lit × DataW H → Nat
  | (.string bytes, d) => bytes.length + uptoBulk d + 1
  | (_, d) => uptoBulk d + 1
 end
def uptoSmall : (H : Type) → List (DataW H) → Bool := fun _ ds => decide (uptoBulkAll ds ≤ 1048576)
def OpenSpec.upto (s : _root_.Go.ChangeSpec) : _root_.Go.OpenSpec := { _root_.Go.OpenSpec.ofChange s with cond := some uptoSmall }

/-- 'reveillelaw14.JobPrints', WHERE WHAT IT READS IS OF BULK AT MOST 1048576: true; the input reads as it did. -/
def jobPrintsUptoRow : OpenClaim := { program := "ytnikhhbnbeljeaagreatdoor", sum := "2387c3e551942fe1d28c62d22a31a6bd1557cba1a7147d3e099b020d455f1712", func := "reveille/reveillelaw14.JobPrints", spec := "jobPrints", inPlace := ["internal/abi.NoEscape", "internal/bytealg.MakeNoZero", "internal/bytealg.IndexByteString", "internal/bytealg.IndexString", "internal/bytealg.CountString"], unfollowed := true, recurses := true, named := ["reveille/job.keys", "reveille/cron.scopes", "internal/strconv.uint64pow10", "math/bits.deBruijn32tab", "math/bits.deBruijn64tab", "unicode/utf8.first", "unicode/utf8.acceptRanges", "internal/bytealg.MaxLen"], apart := false, laid := [("math/bits.deBruijn32tab", laid_math_bits_deBruijn32tab), ("math/bits.deBruijn64tab", laid_math_bits_deBruijn64tab), ("internal/strconv.uint64pow10", laid_internal_strconv_uint64pow10), ("unicode/utf8.acceptRanges", laid_unicode_utf8_acceptRanges), ("reveille/cron.scopes", laid_reveille_cron_scopes), ("reveille/job.keys", laid_reveille_job_keys), ("unicode/utf8.first", laid_unicode_utf8_first)], narrowed := true }
def JobPrintsUptoSaid : Prop := jobPrintsUptoRow.holds Tryz.pinned (OpenSpec.upto jobPrintsSpec)

/-- 'reveillelaw14.JobPacks', WHERE WHAT IT READS IS OF BULK AT MOST 1048576: true; the input reads as it did. -/
def jobPacksUptoRow : OpenClaim := { program := "ytnikhhbnbeljeaagreatdoor", sum := "2387c3e551942fe1d28c62d22a31a6bd1557cba1a7147d3e099b020d455f1712", func := "reveille/reveillelaw14.JobPacks", spec := "jobPacks", inPlace := ["internal/bytealg.CountString", "internal/bytealg.IndexByteString", "internal/bytealg.IndexString", "internal/abi.NoEscape", "internal/bytealg.MakeNoZero"], unfollowed := true, recurses := true, named := ["unicode/utf8.first", "unicode/utf8.acceptRanges", "internal/bytealg.MaxLen", "internal/strconv.uint64pow10", "math/bits.deBruijn32tab", "math/bits.deBruijn64tab", "reveille/cron.scopes", "reveille/job.keys"], apart := false, laid := [("math/bits.deBruijn32tab", laid_math_bits_deBruijn32tab), ("math/bits.deBruijn64tab", laid_math_bits_deBruijn64tab), ("internal/strconv.uint64pow10", laid_internal_strconv_uint64pow10), ("unicode/utf8.acceptRanges", laid_unicode_utf8_acceptRanges), ("reveille/cron.scopes", laid_reveille_cron_scopes), ("reveille/job.keys", laid_reveille_job_keys), ("unicode/utf8.first", laid_unicode_utf8_first)], narrowed := true }
def JobPacksUptoSaid : Prop := jobPacksUptoRow.holds Tryz.pinned (OpenSpec.upto jobPacksSpec)

/-- 'reveillelaw14.JobGets', WHERE WHAT IT READS IS OF BULK AT MOST 1048576: true; the input reads as it did. -/
def jobGetsUptoRow : OpenClaim := { program := "ytnikhhbnbeljeaagreatdoor", sum := "2387c3e551942fe1d28c62d22a31a6bd1557cba1a7147d3e099b020d455f1712", func := "reveille/reveillelaw14.JobGets", spec := "jobGets", inPlace := ["internal/bytealg.CountString", "internal/bytealg.IndexByteString", "internal/bytealg.IndexString", "internal/abi.NoEscape", "internal/bytealg.MakeNoZero"], unfollowed := true, recurses := true, named := ["unicode/utf8.first", "unicode/utf8.acceptRanges", "internal/bytealg.MaxLen", "internal/strconv.uint64pow10", "math/bits.deBruijn32tab", "math/bits.deBruijn64tab", "reveille/cron.scopes", "reveille/job.keys"], apart := false, laid := [("math/bits.deBruijn32tab", laid_math_bits_deBruijn32tab), ("math/bits.deBruijn64tab", laid_math_bits_deBruijn64tab), ("internal/strconv.uint64pow10", laid_internal_strconv_uint64pow10), ("unicode/utf8.acceptRanges", laid_unicode_utf8_acceptRanges), ("reveille/cron.scopes", laid_reveille_cron_scopes), ("reveille/job.keys", laid_reveille_job_keys), ("unicode/utf8.first", laid_unicode_utf8_first)], narrowed := true }
def JobGetsUptoSaid : Prop := jobGetsUptoRow.holds Tryz.pinned (OpenSpec.upto jobGetsSpec)

/-- 'reveillelaw14.JobSame', WHERE WHAT IT READS IS OF BULK AT MOST 1048576: true; the input reads as it did. -/
def jobSameUptoRow : OpenClaim := { program := "ytnikhhbnbeljeaagreatdoor", sum := "2387c3e551942fe1d28c62d22a31a6bd1557cba1a7147d3e099b020d455f1712", func := "reveille/reveillelaw14.JobSame", spec := "jobSame", inPlace := ["internal/bytealg.CountString", "internal/bytealg.IndexByteString", "internal/bytealg.IndexString", "internal/abi.NoEscape", "internal/bytealg.MakeNoZero"], unfollowed := true, recurses := true, named := ["unicode/utf8.first", "unicode/utf8.acceptRanges", "internal/bytealg.MaxLen", "internal/strconv.uint64pow10", "math/bits.deBruijn32tab", "math/bits.deBruijn64tab", "reveille/cron.scopes", "reveille/job.keys"], apart := false, laid := [("math/bits.deBruijn32tab", laid_math_bits_deBruijn32tab), ("math/bits.deBruijn64tab", laid_math_bits_deBruijn64tab), ("internal/strconv.uint64pow10", laid_internal_strconv_uint64pow10), ("unicode/utf8.acceptRanges", laid_unicode_utf8_acceptRanges), ("reveille/cron.scopes", laid_reveille_cron_scopes), ("reveille/job.keys", laid_reveille_job_keys), ("unicode/utf8.first", laid_unicode_utf8_first)], narrowed := true }
def JobSameUptoSaid : Prop := jobSameUptoRow.holds Tryz.pinned (OpenSpec.upto jobSameSpec)

/-- 'reveillelaw14.JobOrder', WHERE WHAT IT READS IS OF BULK AT MOST 1048576: true; the input reads as it did. -/
def jobOrderUptoRow : OpenClaim := { program := "ytnikhhbnbeljeaagreatdoor", sum := "2387c3e551942fe1d28c62d22a31a6bd1557cba1a7147d3e099b020d455f1712", func := "reveille/reveillelaw14.JobOrder", spec := "jobOrder", inPlace := ["internal/bytealg.CountString", "internal/bytealg.IndexByteString", "internal/bytealg.IndexString", "internal/abi.NoEscape", "internal/bytealg.MakeNoZero"], unfollowed := true, recurses := true, named := ["unicode/utf8.first", "unicode/utf8.acceptRanges", "internal/bytealg.MaxLen", "internal/strconv.uint64pow10", "math/bits.deBruijn32tab", "math/bits.deBruijn64tab", "reveille/cron.scopes", "reveille/job.keys"], apart := false, laid := [("math/bits.deBruijn32tab", laid_math_bits_deBruijn32tab), ("math/bits.deBruijn64tab", laid_math_bits_deBruijn64tab), ("internal/strconv.uint64pow10", laid_internal_strconv_uint64pow10), ("unicode/utf8.acceptRanges", laid_unicode_utf8_acceptRanges), ("reveille/cron.scopes", laid_reveille_cron_scopes), ("reveille/job.keys", laid_reveille_job_keys), ("unicode/utf8.first", laid_unicode_utf8_first)], narrowed := true }
def JobOrderUptoSaid : Prop := jobOrderUptoRow.holds Tryz.pinned (OpenSpec.upto jobOrderSpec)

/-- 'reveillelaw16.PlanRuns', WHERE WHAT IT READS IS OF BULK AT MOST 1048576: true; the input reads as it did. -/
def planRunsUptoRow : OpenClaim := { program := "ytnikhhbnbeljeaagreatdoor", sum := "2387c3e551942fe1d28c62d22a31a6bd1557cba1a7147d3e099b020d455f1712", func := "reveille/reveillelaw16.PlanRuns", spec := "planRuns", inPlace := ["internal/abi.NoEscape", "internal/bytealg.MakeNoZero"], unfollowed := true, recurses := true, named := ["reveille/cron.scopes", "internal/strconv.uint64pow10", "math/bits.deBruijn32tab", "math/bits.deBruijn64tab", "reveille/civil.lengths"], apart := false, laid := [("math/bits.deBruijn32tab", laid_math_bits_deBruijn32tab), ("math/bits.deBruijn64tab", laid_math_bits_deBruijn64tab), ("internal/strconv.uint64pow10", laid_internal_strconv_uint64pow10), ("reveille/civil.lengths", laid_reveille_civil_lengths), ("reveille/cron.scopes", laid_reveille_cron_scopes)], narrowed := true }
def PlanRunsUptoSaid : Prop := planRunsUptoRow.holds Tryz.pinned (OpenSpec.upto planRunsSpec)

/-- 'reveillelaw16.PlanHosts', WHERE WHAT IT READS IS OF BULK AT MOST 1048576: true; the input reads as it did. -/
def planHostsUptoRow : OpenClaim := { program := "ytnikhhbnbeljeaagreatdoor", sum := "2387c3e551942fe1d28c62d22a31a6bd1557cba1a7147d3e099b020d455f1712", func := "reveille/reveillelaw16.PlanHosts", spec := "planHosts", inPlace := ["internal/abi.NoEscape", "internal/bytealg.MakeNoZero"], unfollowed := true, recurses := true, named := ["reveille/cron.scopes", "internal/strconv.uint64pow10", "math/bits.deBruijn32tab", "math/bits.deBruijn64tab", "reveille/civil.lengths"], apart := false, laid := [("math/bits.deBruijn32tab", laid_math_bits_deBruijn32tab), ("math/bits.deBruijn64tab", laid_math_bits_deBruijn64tab), ("internal/strconv.uint64pow10", laid_internal_strconv_uint64pow10), ("reveille/civil.lengths", laid_reveille_civil_lengths), ("reveille/cron.scopes", laid_reveille_cron_scopes)], narrowed := true }
def PlanHostsUptoSaid : Prop := planHostsUptoRow.holds Tryz.pinned (OpenSpec.upto planHostsSpec)

/-- 'reveillelaw16.PlanFinds', WHERE WHAT IT READS IS OF BULK AT MOST 1048576: true; the input reads as it did. -/
def planFindsUptoRow : OpenClaim := { program := "ytnikhhbnbeljeaagreatdoor", sum := "2387c3e551942fe1d28c62d22a31a6bd1557cba1a7147d3e099b020d455f1712", func := "reveille/reveillelaw16.PlanFinds", spec := "planFinds", inPlace := ["internal/abi.NoEscape", "internal/bytealg.MakeNoZero"], unfollowed := true, recurses := true, named := ["reveille/cron.scopes", "internal/strconv.uint64pow10", "math/bits.deBruijn32tab", "math/bits.deBruijn64tab", "reveille/civil.lengths"], apart := false, laid := [("math/bits.deBruijn32tab", laid_math_bits_deBruijn32tab), ("math/bits.deBruijn64tab", laid_math_bits_deBruijn64tab), ("internal/strconv.uint64pow10", laid_internal_strconv_uint64pow10), ("reveille/civil.lengths", laid_reveille_civil_lengths), ("reveille/cron.scopes", laid_reveille_cron_scopes)], narrowed := true }
def PlanFindsUptoSaid : Prop := planFindsUptoRow.holds Tryz.pinned (OpenSpec.upto planFindsSpec)

/-- 'reveillelaw16.PlanKeeps', WHERE WHAT IT READS IS OF BULK AT MOST 1048576: true; the input reads as it did. -/
def planKeepsUptoRow : OpenClaim := { program := "ytnikhhbnbeljeaagreatdoor", sum := "2387c3e551942fe1d28c62d22a31a6bd1557cba1a7147d3e099b020d455f1712", func := "reveille/reveillelaw16.PlanKeeps", spec := "planKeeps", inPlace := ["internal/abi.NoEscape", "internal/bytealg.MakeNoZero"], unfollowed := true, recurses := true, named := ["reveille/cron.scopes", "internal/strconv.uint64pow10", "math/bits.deBruijn32tab", "math/bits.deBruijn64tab", "reveille/civil.lengths"], apart := false, laid := [("math/bits.deBruijn32tab", laid_math_bits_deBruijn32tab), ("math/bits.deBruijn64tab", laid_math_bits_deBruijn64tab), ("internal/strconv.uint64pow10", laid_internal_strconv_uint64pow10), ("reveille/civil.lengths", laid_reveille_civil_lengths), ("reveille/cron.scopes", laid_reveille_cron_scopes)], narrowed := true }
def PlanKeepsUptoSaid : Prop := planKeepsUptoRow.holds Tryz.pinned (OpenSpec.upto planKeepsSpec)

/-- 'reveillelaw16.PlanApart', WHERE WHAT IT READS IS OF BULK AT MOST 1048576: true; the input reads as it did. -/
def planApartUptoRow : OpenClaim := { program := "ytnikhhbnbeljeaagreatdoor", sum := "2387c3e551942fe1d28c62d22a31a6bd1557cba1a7147d3e099b020d455f1712", func := "reveille/reveillelaw16.PlanApart", spec := "planApart", inPlace := ["internal/abi.NoEscape", "internal/bytealg.MakeNoZero"], unfollowed := true, recurses := true, named := ["reveille/cron.scopes", "internal/strconv.uint64pow10", "math/bits.deBruijn32tab", "math/bits.deBruijn64tab", "reveille/civil.lengths"], apart := false, laid := [("math/bits.deBruijn32tab", laid_math_bits_deBruijn32tab), ("math/bits.deBruijn64tab", laid_math_bits_deBruijn64tab), ("internal/strconv.uint64pow10", laid_internal_strconv_uint64pow10), ("reveille/civil.lengths", laid_reveille_civil_lengths), ("reveille/cron.scopes", laid_reveille_cron_scopes)], narrowed := true }
def PlanApartUptoSaid : Prop := planApartUptoRow.holds Tryz.pinned (OpenSpec.upto planApartSpec)

/-- 'reveillelaw16.PlanJitters', WHERE WHAT IT READS IS OF BULK AT MOST 1048576: true; the input reads as it did. -/
def planJittersUptoRow : OpenClaim := { program := "ytnikhhbnbeljeaagreatdoor", sum := "2387c3e551942fe1d28c62d22a31a6bd1557cba1a7147d3e099b020d455f1712", func := "reveille/reveillelaw16.PlanJitters", spec := "planJitters", inPlace := ["internal/abi.NoEscape", "internal/bytealg.MakeNoZero"], unfollowed := true, recurses := true, named := ["reveille/cron.scopes", "internal/strconv.uint64pow10", "math/bits.deBruijn32tab", "math/bits.deBruijn64tab", "reveille/civil.lengths"], apart := false, laid := [("math/bits.deBruijn32tab", laid_math_bits_deBruijn32tab), ("math/bits.deBruijn64tab", laid_math_bits_deBruijn64tab), ("internal/strconv.uint64pow10", laid_internal_strconv_uint64pow10), ("reveille/civil.lengths", laid_reveille_civil_lengths), ("reveille/cron.scopes", laid_reveille_cron_scopes)], narrowed := true }
def PlanJittersUptoSaid : Prop := planJittersUptoRow.holds Tryz.pinned (OpenSpec.upto planJittersSpec)

end Rows
end Go.Proofs.YtnikhhbnbeljeaaGreatDoor
