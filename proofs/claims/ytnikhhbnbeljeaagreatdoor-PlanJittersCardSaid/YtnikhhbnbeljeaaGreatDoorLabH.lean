/- Walks of package label: whether labels match clauses. -/
import Derived.Test.YtnikhhbnbeljeaaGreatDoorLabA
import Derived.Test.YtnikhhbnbeljeaaGreatDoorBase
import Derived.Test.YtnikhhbnbeljeaaGreatDoorOpen
import Derived.Test.YtnikhhbnbeljeaaGreatDoorLabC
import Derived.Test.YtnikhhbnbeljeaaGreatDoorLabG
import Derived.Test.YtnikhhbnbeljeaaGreatDoorProg
import Derived.PlainAid
import Derived.WalkKit
import Derived.Handy
import Derived.ProofKit
import Derived.OpenShut
import Derived.Deep.DeepHandedRow
import Derived.Lib.Hide
import Derived.Laws.Tables
import Derived.Carry
import Derived.Outline
import Derived.WalkSmall
import Derived.WalkSpells
import Derived.WalkLawsBesides
import Derived.SliceStrings
import Derived.Laws.AppendOwn
import Derived.Laws.Rows
import Derived.BigQuiet
import Derived.Deep.QuietTactic
import Derived.Laws.EntriesVeiled
set_option linter.unusedSimpArgs false
set_option linter.unusedVariables false
namespace Go.Proofs.YtnikhhbnbeljeaaGreatDoor.LB
open Go.ChangeShapes Go.WideShapes Go.ChangeAt Go.RowKit Go.Base Go.Lab

/-- The clauses of a slice. -/
def Cls (w : World) (p : Option Addr) (l : List Cl) : Prop := ∀ (i : Nat) (h : i < l.length), ∃ b o, p = some ⟨b, o, none⟩ ∧
  w.cell? ⟨b, o + i * 3, none⟩ = some (.int .i64 l[i].kind) ∧ w.cell? ⟨b, o + i * 3 + 1, none⟩ = some (strV l[i].key) ∧ w.cell? ⟨b, o + i * 3 + 2, none⟩ = some (.slice l[i].la l[i].vals.length l[i].lc) ∧ l[i].Fit w
theorem Cls.later {w w' : World} {p : Option Addr} {l : List Cl} (h : Cls w p l) (hb : Below w.heap.size w w') : Cls w' p l := fun i hi => by
  obtain ⟨b, o, e, c0, c1, c2, f⟩ := h i hi
  exact ⟨b, o, e, cell_later hb c0, cell_later hb c1, cell_later hb c2, f.later hb⟩
def mClause (l : List Lb) (c : Cl) : Bool := mOne l c.kind c.key c.vals
def mAll (l : List Lb) (cs : List Cl) : Bool := cs.all (mClause l)
theorem take_memC {l : List Cl} {k : Nat} (hk : k < l.length) {p : Cl → Prop} (h : ∀ x ∈ l.take k, p x) (h2 : p l[k]) : ∀ x ∈ l.take (k + 1), p x := by
  intro x hx
  rw [List.take_succ_eq_append_getElem hk, List.mem_append, List.mem_singleton] at hx
  rcases hx with hx | rfl
  · exact h x hx
  · exact h2
def CfPost (r : Bool) (w : World) (e : Ending) (w' : World) : Prop := ∃ i : Int, e = .returned (.int .i64 i) ∧ decide (0 ≤ i) = !r ∧ Below w.heap.size w w'
end Go.Proofs.YtnikhhbnbeljeaaGreatDoor.LB
