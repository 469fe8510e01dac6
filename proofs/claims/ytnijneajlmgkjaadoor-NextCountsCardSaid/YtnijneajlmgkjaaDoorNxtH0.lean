/- The moments of a spec on a way, as the iterators tell them. -/
import Derived.Test.YtnijneajlmgkjaaDoorNxtG0
import Derived.Test.YtnijneajlmgkjaaDoorNxtE0
set_option linter.unusedSimpArgs false
set_option linter.unusedVariables false
namespace Go.Proofs.YtnijneajlmgkjaaDoor
open Go.ChangeShapes Go.WideShapes Go.ChangeAt Go.RowKit Go.Base Go.Civ Go.Nxt Go.Cro
def startH (d : Bool) : Nat := if d then 0 else 23
def startM (d : Bool) : Nat := if d then 0 else 59
/-- A day's moments: on the first day those that are not ahead of an hour and a minute. -/
def dayL (d : Bool) (H M : Nat) (today : Int) (hh mm : Nat) (x : Int) : List Int :=
  (clockL d H M (if x = today then hh else startH d) (if x = today then mm else startM d)).map fun c => x + c
def fuel0 (d : Bool) (m : Int) : Nat := if d then (120000 - m).toNat else (m - 11).toNat
theorem fuel_ok (d : Bool) (m : Int) (h1 : 11 ≤ m) (h2 : m ≤ 120000) : Fuel d (fuel0 d m) m := by
  cases d <;> simp [Fuel, fuel0] <;> omega
/-- The moments from one on (m: its month, dd: its day). -/
def momL (d : Bool) (s : Sp) (H M : Nat) (m : Int) (dd : Nat) (today : Int) (hh mm : Nat) : List Int :=
  (midL d s (fuel0 d m) m (since d (mdays s m) dd) 0).flatMap (dayL d H M today hh mm)
end Go.Proofs.YtnijneajlmgkjaaDoor
