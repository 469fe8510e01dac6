/-
  No cell of these rows narrows 'for every input' (looked for: loops, veiled, ifaces, maps, wideKeys, modest, calm, conditions, laid).
  DERIVED. THE GIVEN ROWS OF THIS SEAT. 5 by the template 'for every input the law returns true; each argument reads behind the call as it read before'; 0 by the template 'total and deterministic' (their statements: YtcbnankocjlobaaTotals.lean).
  GIVEN WITH THE SEED: the statements are not yours to turn. If you find one false, say at which input.
  Laid BY PROGRAM, IN A SANDBOX (cutbox-rows.mjs): the forced cells as the released guide's own fill.sh prints them over the translation 46cd33947a384f0a… (all of the seat's roots in one cut). By AI agents, Wed Nov 11 2026. No macro, syntax, notation, axiom, sorry.
-/
import Derived.Test.YtcbnankocjlobaaChecked
import GoSem.Claim
import GoSem.ClaimJoined
import GoSem.ClaimMapViews
import Derived.JoinedTies
import Derived.KernelRfl
namespace Go.Proofs.Ytcbnankocjlobaa
/- THE CELL 'sum', in the pinned program and in every row, IS THE sha256 OF THE DUMP (.gsa) THAT YtcbnankocjlobaaProg.lean LOADS. Nothing in Lean hashes anything: it is a label: what it is worth is what the hold of that sum in a sandbox is worth. -/
noncomputable def Try.pinned : Pinned := { name := "ytcbnankocjlobaa", sum := "46cd33947a384f0aa0e81def4b18b8593b1d639afca39e8cd8018e54ea5ddd0d", checked := Try.checked }
namespace Rows
def none {H : Type} : Left H := { results := [], args := [] }

/-- 'reveillelaw17.WaveAdvises': WHATEVER THE INPUT: true; the input reads as it did. -/
def waveAdvisesSpec : ChangeSpec := { name := "waveAdvises", fn := fun _ => fun
  | [d1, d2, d3] => { results := [.lit (.bool true)], args := [d1, d2, d3] }
  | _ => none }
def waveAdvisesRow : OpenClaim := { program := "ytcbnankocjlobaa", sum := "46cd33947a384f0aa0e81def4b18b8593b1d639afca39e8cd8018e54ea5ddd0d", func := "reveille/reveillelaw17.WaveAdvises", spec := "waveAdvises", unfollowed := true, recurses := true, apart := false }
def WaveAdvisesSaid : Prop := waveAdvisesRow.holds Try.pinned (OpenSpec.ofChange waveAdvisesSpec)

/-- ITS FALSE NEIGHBOUR: 'it returns false'. Refute it at one input. -/
def waveAdvisesWrong : ChangeSpec := { name := "waveAdvises", fn := fun _ => fun
  | [d1, d2, d3] => { results := [.lit (.bool false)], args := [d1, d2, d3] }
  | _ => none }
def WaveAdvisesWrongFalsely : Prop := waveAdvisesRow.holds Try.pinned (OpenSpec.ofChange waveAdvisesWrong)

/-- 'reveillelaw17.WaveCounts': WHATEVER THE INPUT: true; the input reads as it did. -/
def waveCountsSpec : ChangeSpec := { name := "waveCounts", fn := fun _ => fun
  | [d1, d2, d3] => { results := [.lit (.bool true)], args := [d1, d2, d3] }
  | _ => none }
def waveCountsRow : OpenClaim := { program := "ytcbnankocjlobaa", sum := "46cd33947a384f0aa0e81def4b18b8593b1d639afca39e8cd8018e54ea5ddd0d", func := "reveille/reveillelaw17.WaveCounts", spec := "waveCounts", unfollowed := true, recurses := true, apart := false }
def WaveCountsSaid : Prop := waveCountsRow.holds Try.pinned (OpenSpec.ofChange waveCountsSpec)

/-- ITS FALSE NEIGHBOUR: 'it returns false'. Refute it at one input. -/
def waveCountsWrong : ChangeSpec := { name := "waveCounts", fn := fun _ => fun
  | [d1, d2, d3] => { results := [.lit (.bool false)], args := [d1, d2, d3] }
  | _ => none }
def WaveCountsWrongFalsely : Prop := waveCountsRow.holds Try.pinned (OpenSpec.ofChange waveCountsWrong)

/-- 'reveillelaw17.WavePlays': WHATEVER THE INPUT: true; the input reads as it did. -/
def wavePlaysSpec : ChangeSpec := { name := "wavePlays", fn := fun _ => fun
  | [d1, d2, d3] => { results := [.lit (.bool true)], args := [d1, d2, d3] }
  | _ => none }
def wavePlaysRow : OpenClaim := { program := "ytcbnankocjlobaa", sum := "46cd33947a384f0aa0e81def4b18b8593b1d639afca39e8cd8018e54ea5ddd0d", func := "reveille/reveillelaw17.WavePlays", spec := "wavePlays", unfollowed := true, recurses := true, apart := false }
def WavePlaysSaid : Prop := wavePlaysRow.holds Try.pinned (OpenSpec.ofChange wavePlaysSpec)

/-- ITS FALSE NEIGHBOUR: 'it returns false'. Refute it at one input. -/
def wavePlaysWrong : ChangeSpec := { name := "wavePlays", fn := fun _ => fun
  | [d1, d2, d3] => { results := [.lit (.bool false)], args := [d1, d2, d3] }
  | _ => none }
def WavePlaysWrongFalsely : Prop := wavePlaysRow.holds Try.pinned (OpenSpec.ofChange wavePlaysWrong)

/-- 'reveillelaw17.WaveAll': WHATEVER THE INPUT: true; the input reads as it did. -/
def waveAllSpec : ChangeSpec := { name := "waveAll", fn := fun _ => fun
  | [d1, d2] => { results := [.lit (.bool true)], args := [d1, d2] }
  | _ => none }
def waveAllRow : OpenClaim := { program := "ytcbnankocjlobaa", sum := "46cd33947a384f0aa0e81def4b18b8593b1d639afca39e8cd8018e54ea5ddd0d", func := "reveille/reveillelaw17.WaveAll", spec := "waveAll", unfollowed := true, recurses := true, apart := false }
def WaveAllSaid : Prop := waveAllRow.holds Try.pinned (OpenSpec.ofChange waveAllSpec)

/-- ITS FALSE NEIGHBOUR: 'it returns false'. Refute it at one input. -/
def waveAllWrong : ChangeSpec := { name := "waveAll", fn := fun _ => fun
  | [d1, d2] => { results := [.lit (.bool false)], args := [d1, d2] }
  | _ => none }
def WaveAllWrongFalsely : Prop := waveAllRow.holds Try.pinned (OpenSpec.ofChange waveAllWrong)

/-- 'reveillelaw17.WaveFails': WHATEVER THE INPUT: true; the input reads as it did. -/
def waveFailsSpec : ChangeSpec := { name := "waveFails", fn := fun _ => fun
  | [d1, d2] => { results := [.lit (.bool true)], args := [d1, d2] }
  | _ => none }
def waveFailsRow : OpenClaim := { program := "ytcbnankocjlobaa", sum := "46cd33947a384f0aa0e81def4b18b8593b1d639afca39e8cd8018e54ea5ddd0d", func := "reveille/reveillelaw17.WaveFails", spec := "waveFails", unfollowed := true, recurses := true, apart := false }
def WaveFailsSaid : Prop := waveFailsRow.holds Try.pinned (OpenSpec.ofChange waveFailsSpec)

/-- ITS FALSE NEIGHBOUR: 'it returns false'. Refute it at one input. -/
def waveFailsWrong : ChangeSpec := { name := "waveFails", fn := fun _ => fun
  | [d1, d2] => { results := [.lit (.bool false)], args := [d1, d2] }
  | _ => none }
def WaveFailsWrongFalsely : Prop := waveFailsRow.holds Try.pinned (OpenSpec.ofChange waveFailsWrong)

/- THE SECOND FORM. 'bulk': how many values and letters a reading holds, each counted each time it is reached (what is shared counts as often as it is met; a slice's spare places count too). A statement '..UptoSaid' is the law's where the arguments, and the package variables that the reading takes, are together of bulk at most 1048576: NARROWER than '..Said'. Prove '..Said' where nothing that the law and all that it calls make is longer than what came in: it says more and counts as full. Else prove '..UptoSaid'. A law counts once. -/
mutual
def uptoBulk {H : Type} : DataW H → Nat
  | .lit (.string bytes) => bytes.length + 1
  | .lit _ => 1
  | .nil => 1
  | .ptr d => uptoBulk d + 1
  | .slice elems spare => uptoBulkAll elems + uptoBulkAll spare + 1
  | .agg parts => uptoBulkAll parts + 1
  | .iface _ d => uptoBulk d + 1
  | .map entries => uptoBulkEntries entries + 1
  | .held _ => 1
def uptoBulkAll {H : Type} : List (DataW H) → Nat
  | [] => 0
  | d :: r => uptoBulk d + uptoBulkAll r
def uptoBulkEntries {H : Type} : List (Lit × DataW H) → Nat
  | [] => 0
  | x :: r => uptoBulkEntry x + uptoBulkEntries r
def uptoBulkEntry {H : Type} : Lit × DataW H → Nat
  | (.string bytes, d) => bytes.length + uptoBulk d + 1
  | (_, d) => uptoBulk d + 1
 end
def uptoSmall : (H : Type) → List (DataW H) → Bool := fun _ ds => decide (uptoBulkAll ds ≤ 1048576)
def OpenSpec.upto (s : _root_.Go.ChangeSpec) : _root_.Go.OpenSpec := { _root_.Go.OpenSpec.ofChange s with cond := some uptoSmall }

/-- 'reveillelaw17.WaveAdvises', WHERE WHAT IT READS IS OF BULK AT MOST 1048576: true; the input reads as it did. -/
def waveAdvisesUptoRow : OpenClaim := { program := "ytcbnankocjlobaa", sum := "46cd33947a384f0aa0e81def4b18b8593b1d639afca39e8cd8018e54ea5ddd0d", func := "reveille/reveillelaw17.WaveAdvises", spec := "waveAdvises", unfollowed := true, recurses := true, apart := false, narrowed := true }
def WaveAdvisesUptoSaid : Prop := waveAdvisesUptoRow.holds Try.pinned (OpenSpec.upto waveAdvisesSpec)

/-- 'reveillelaw17.WaveCounts', WHERE WHAT IT READS IS OF BULK AT MOST 1048576: true; the input reads as it did. -/
def waveCountsUptoRow : OpenClaim := { program := "ytcbnankocjlobaa", sum := "46cd33947a384f0aa0e81def4b18b8593b1d639afca39e8cd8018e54ea5ddd0d", func := "reveille/reveillelaw17.WaveCounts", spec := "waveCounts", unfollowed := true, recurses := true, apart := false, narrowed := true }
def WaveCountsUptoSaid : Prop := waveCountsUptoRow.holds Try.pinned (OpenSpec.upto waveCountsSpec)

/-- 'reveillelaw17.WavePlays', WHERE WHAT IT READS IS OF BULK AT MOST 1048576: true; the input reads as it did. -/
def wavePlaysUptoRow : OpenClaim := { program := "ytcbnankocjlobaa", sum := "46cd33947a384f0aa0e81def4b18b8593b1d639afca39e8cd8018e54ea5ddd0d", func := "reveille/reveillelaw17.WavePlays", spec := "wavePlays", unfollowed := true, recurses := true, apart := false, narrowed := true }
def WavePlaysUptoSaid : Prop := wavePlaysUptoRow.holds Try.pinned (OpenSpec.upto wavePlaysSpec)

/-- 'reveillelaw17.WaveAll', WHERE WHAT IT READS IS OF BULK AT MOST 1048576: true; the input reads as it did. -/
def waveAllUptoRow : OpenClaim := { program := "ytcbnankocjlobaa", sum := "46cd33947a384f0aa0e81def4b18b8593b1d639afca39e8cd8018e54ea5ddd0d", func := "reveille/reveillelaw17.WaveAll", spec := "waveAll", unfollowed := true, recurses := true, apart := false, narrowed := true }
def WaveAllUptoSaid : Prop := waveAllUptoRow.holds Try.pinned (OpenSpec.upto waveAllSpec)

/-- 'reveillelaw17.WaveFails', WHERE WHAT IT READS IS OF BULK AT MOST 1048576: true; the input reads as it did. -/
def waveFailsUptoRow : OpenClaim := { program := "ytcbnankocjlobaa", sum := "46cd33947a384f0aa0e81def4b18b8593b1d639afca39e8cd8018e54ea5ddd0d", func := "reveille/reveillelaw17.WaveFails", spec := "waveFails", unfollowed := true, recurses := true, apart := false, narrowed := true }
def WaveFailsUptoSaid : Prop := waveFailsUptoRow.holds Try.pinned (OpenSpec.upto waveFailsSpec)

end Rows
end Go.Proofs.Ytcbnankocjlobaa
