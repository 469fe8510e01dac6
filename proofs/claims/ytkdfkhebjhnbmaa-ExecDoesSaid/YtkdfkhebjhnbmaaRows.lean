/-
  No cell of these rows narrows 'for every input' (looked for: loops, veiled, ifaces, maps, wideKeys, modest, calm, conditions, laid).
  DERIVED. THE GIVEN ROWS OF THIS SEAT. 4 by the template 'for every input the law returns true; each argument reads behind the call as it read before'; 0 by the template 'total and deterministic' (their statements: YtkdfkhebjhnbmaaTotals.lean).
  GIVEN WITH THE SEED: the statements are not yours to turn. If you find one false, say at which input.
  Laid BY PROGRAM, IN A SANDBOX (cutbox-rows.mjs): the forced cells as the released guide's own fill.sh prints them over the translation df8cf43072bf7e3f… (all of the seat's roots in one cut). By AI agents, Wed Nov 11 2026. No macro, syntax, notation, axiom, sorry.
-/
import Derived.Test.YtkdfkhebjhnbmaaChecked
import GoSem.Claim
import GoSem.ClaimJoined
import GoSem.ClaimMapViews
import Derived.JoinedTies
import Derived.KernelRfl
namespace Go.Proofs.Ytkdfkhebjhnbmaa
/- THE CELL 'sum', in the pinned program and in every row, IS THE sha256 OF THE DUMP (.gsa) THAT YtkdfkhebjhnbmaaProg.lean LOADS. Nothing in Lean hashes anything: it is a label: what it is worth is what the hold of that sum in a sandbox is worth. -/
noncomputable def Try.pinned : Pinned := { name := "ytkdfkhebjhnbmaa", sum := "df8cf43072bf7e3f2d9e60a8deb6e0828623a61ba617e2c28d7b629ce68ee148", checked := Try.checked }
namespace Rows
def none {H : Type} : Left H := { results := [], args := [] }

/-- 'reveillelaw20.ExecDoes': WHATEVER THE INPUT: true; the input reads as it did. -/
def execDoesSpec : ChangeSpec := { name := "execDoes", fn := fun _ => fun
  | [d1, d2] => { results := [.lit (.bool true)], args := [d1, d2] }
  | _ => none }
def execDoesRow : OpenClaim := { program := "ytkdfkhebjhnbmaa", sum := "df8cf43072bf7e3f2d9e60a8deb6e0828623a61ba617e2c28d7b629ce68ee148", func := "reveille/reveillelaw20.ExecDoes", spec := "execDoes", unfollowed := true, recurses := true, plainKeys := false, apart := false }
def ExecDoesSaid : Prop := execDoesRow.holds Try.pinned (OpenSpec.ofChange execDoesSpec)

/-- ITS FALSE NEIGHBOUR: 'it returns false'. Refute it at one input. -/
def execDoesWrong : ChangeSpec := { name := "execDoes", fn := fun _ => fun
  | [d1, d2] => { results := [.lit (.bool false)], args := [d1, d2] }
  | _ => none }
def ExecDoesWrongFalsely : Prop := execDoesRow.holds Try.pinned (OpenSpec.ofChange execDoesWrong)

/-- 'reveillelaw20.ExecOnce': WHATEVER THE INPUT: true; the input reads as it did. -/
def execOnceSpec : ChangeSpec := { name := "execOnce", fn := fun _ => fun
  | [d] => { results := [.lit (.bool true)], args := [d] }
  | _ => none }
def execOnceRow : OpenClaim := { program := "ytkdfkhebjhnbmaa", sum := "df8cf43072bf7e3f2d9e60a8deb6e0828623a61ba617e2c28d7b629ce68ee148", func := "reveille/reveillelaw20.ExecOnce", spec := "execOnce", unfollowed := true, recurses := true, plainKeys := false, apart := false }
def ExecOnceSaid : Prop := execOnceRow.holds Try.pinned (OpenSpec.ofChange execOnceSpec)

/-- ITS FALSE NEIGHBOUR: 'it returns false'. Refute it at one input. -/
def execOnceWrong : ChangeSpec := { name := "execOnce", fn := fun _ => fun
  | [d] => { results := [.lit (.bool false)], args := [d] }
  | _ => none }
def ExecOnceWrongFalsely : Prop := execOnceRow.holds Try.pinned (OpenSpec.ofChange execOnceWrong)

/-- 'reveillelaw20.ExecNobody': WHATEVER THE INPUT: true; the input reads as it did. -/
def execNobodySpec : ChangeSpec := { name := "execNobody", fn := fun _ => fun
  | [d] => { results := [.lit (.bool true)], args := [d] }
  | _ => none }
def execNobodyRow : OpenClaim := { program := "ytkdfkhebjhnbmaa", sum := "df8cf43072bf7e3f2d9e60a8deb6e0828623a61ba617e2c28d7b629ce68ee148", func := "reveille/reveillelaw20.ExecNobody", spec := "execNobody", unfollowed := true, recurses := true, plainKeys := false, apart := false }
def ExecNobodySaid : Prop := execNobodyRow.holds Try.pinned (OpenSpec.ofChange execNobodySpec)

/-- ITS FALSE NEIGHBOUR: 'it returns false'. Refute it at one input. -/
def execNobodyWrong : ChangeSpec := { name := "execNobody", fn := fun _ => fun
  | [d] => { results := [.lit (.bool false)], args := [d] }
  | _ => none }
def ExecNobodyWrongFalsely : Prop := execNobodyRow.holds Try.pinned (OpenSpec.ofChange execNobodyWrong)

/-- 'reveillelaw20.ExecKills': WHATEVER THE INPUT: true; the input reads as it did. -/
def execKillsSpec : ChangeSpec := { name := "execKills", fn := fun _ => fun
  | [d1, d2] => { results := [.lit (.bool true)], args := [d1, d2] }
  | _ => none }
def execKillsRow : OpenClaim := { program := "ytkdfkhebjhnbmaa", sum := "df8cf43072bf7e3f2d9e60a8deb6e0828623a61ba617e2c28d7b629ce68ee148", func := "reveille/reveillelaw20.ExecKills", spec := "execKills", unfollowed := true, recurses := true, plainKeys := false, apart := false }
def ExecKillsSaid : Prop := execKillsRow.holds Try.pinned (OpenSpec.ofChange execKillsSpec)

/-- ITS FALSE NEIGHBOUR: 'it returns false'. Refute it at one input. -/
def execKillsWrong : ChangeSpec := { name := "execKills", fn := fun _ => fun
  | [d1, d2] => { results := [.lit (.bool false)], args := [d1, d2] }
  | _ => none }
def ExecKillsWrongFalsely : Prop := execKillsRow.holds Try.pinned (OpenSpec.ofChange execKillsWrong)

/- THE SECOND FORM. 'bulk': how many values and letters a reading holds, each counted each time it is reached (what is shared counts as often as it is met; a slice's spare places count too). A statement '..UptoSaid' is the law's where the arguments, and the package variables that the reading takes, are together of bulk at most 1048576: NARROWER than '..Said'. Prove '..Said' where nothing that the law and all that it calls make is longer than what came in: it says more and counts as full. Else prove '..UptoSaid'. A law counts once. -/
mutual
def uptoBulk {H : Type} : DataW H → Nat
  | .lit (.string bytes) => bytes.length + 1
  | .lit _ => 1
  | .nil => 1
  | .ptr d => uptoBulk d + 1
  | .slice elems spare => uptoBulkAll elems + uptoBulkAll spare + 1
  | .agg parts => uptoBulkAll parts + 1
  | .iface _ d => uptoBulk d + 1
  | .map entries => uptoBulkEntries entries + 1
  | .held _ => 1
def uptoBulkAll {H : Type} : List (DataW H) → Nat
  | [] => 0
  | d :: r => uptoBulk d + uptoBulkAll r
def uptoBulkEntries {H : Type} : List (Lit × DataW H) → Nat
  | [] => 0
  | x :: r => uptoBulkEntry x + uptoBulkEntries r
def uptoBulkEntry {H : Type} : Lit × DataW H → Nat
  | (.string bytes, d) => bytes.length + uptoBulk d + 1
  | (_, d) => uptoBulk d + 1
 end
def uptoSmall : (H : Type) → List (DataW H) → Bool := fun _ ds => decide (uptoBulkAll ds ≤ 1048576)
def OpenSpec.upto (s : _root_.Go.ChangeSpec) : _root_.Go.OpenSpec := { _root_.Go.OpenSpec.ofChange s with cond := some uptoSmall }

/-- 'reveillelaw20.ExecDoes', WHERE WHAT IT READS IS OF BULK AT MOST 1048576: true; the input reads as it did. -/
def execDoesUptoRow : OpenClaim := { program := "ytkdfkhebjhnbmaa", sum := "df8cf43072bf7e3f2d9e60a8deb6e0828623a61ba617e2c28d7b629ce68ee148", func := "reveille/reveillelaw20.ExecDoes", spec := "execDoes", unfollowed := true, recurses := true, plainKeys := false, apart := false, narrowed := true }
def ExecDoesUptoSaid : Prop := execDoesUptoRow.holds Try.pinned (OpenSpec.upto execDoesSpec)

/-- 'reveillelaw20.ExecOnce', WHERE WHAT IT READS IS OF BULK AT MOST 1048576: true; the input reads as it did. -/
def execOnceUptoRow : OpenClaim := { program := "ytkdfkhebjhnbmaa", sum := "df8cf43072bf7e3f2d9e60a8deb6e0828623a61ba617e2c28d7b629ce68ee148", func := "reveille/reveillelaw20.ExecOnce", spec := "execOnce", unfollowed := true, recurses := true, plainKeys := false, apart := false, narrowed := true }
def ExecOnceUptoSaid : Prop := execOnceUptoRow.holds Try.pinned (OpenSpec.upto execOnceSpec)

/-- 'reveillelaw20.ExecNobody', WHERE WHAT IT READS IS OF BULK AT MOST 1048576: true; the input reads as it did. -/
def execNobodyUptoRow : OpenClaim := { program := "ytkdfkhebjhnbmaa", sum := "df8cf43072bf7e3f2d9e60a8deb6e0828623a61ba617e2c28d7b629ce68ee148", func := "reveille/reveillelaw20.ExecNobody", spec := "execNobody", unfollowed := true, recurses := true, plainKeys := false, apart := false, narrowed := true }
def ExecNobodyUptoSaid : Prop := execNobodyUptoRow.holds Try.pinned (OpenSpec.upto execNobodySpec)

/-- 'reveillelaw20.ExecKills', WHERE WHAT IT READS IS OF BULK AT MOST 1048576: true; the input reads as it did. -/
def execKillsUptoRow : OpenClaim := { program := "ytkdfkhebjhnbmaa", sum := "df8cf43072bf7e3f2d9e60a8deb6e0828623a61ba617e2c28d7b629ce68ee148", func := "reveille/reveillelaw20.ExecKills", spec := "execKills", unfollowed := true, recurses := true, plainKeys := false, apart := false, narrowed := true }
def ExecKillsUptoSaid : Prop := execKillsUptoRow.holds Try.pinned (OpenSpec.upto execKillsSpec)

end Rows
end Go.Proofs.Ytkdfkhebjhnbmaa
