/- Walks of package cron: digits, steps, the values of a range. -/
import Derived.Test.YtnijneajlmgkjaaDoorCroA
import Derived.Test.YtnijneajlmgkjaaDoorBase
import Derived.Test.YtnijneajlmgkjaaDoorRows
import Derived.WalkKit
import Derived.Handy
import Derived.ProofKit
import Derived.Deep.QuietTactic
import Derived.BigQuiet
import Derived.Lib.Hide
import Derived.Outline
import Derived.Laws.ShiftsVar
import Derived.WalkSmall
import Derived.WalkSpells
import Derived.Lib.Strings
set_option linter.unusedSimpArgs false
set_option linter.unusedVariables false
namespace Go.Proofs.YtnijneajlmgkjaaDoor
open Go.ChangeShapes Go.WideShapes Go.ChangeAt Go.RowKit Go.Base Go.Cro

theorem u8_eq (c d : UInt8) : (c == d) = ((c.toNat : Int) == (d.toNat : Int)) := by
  rw [Bool.eq_iff_iff]
  simp only [beq_iff_eq]
  constructor
  · rintro rfl; rfl
  · intro h; exact UInt8.toNat_inj.1 (by omega)

theorem dig_of {a : UInt8} (h : isDig a = true) : 48 ≤ (a.toNat : Int) ∧ (a.toNat : Int) ≤ 57 := by
  simpa [isDig] using h
theorem dig_not {a : UInt8} (h : ¬ isDig a = true) : (a.toNat : Int) < 48 ∨ 48 ≤ (a.toNat : Int) ∧ 57 < (a.toNat : Int) := by
  simp [isDig] at h; omega

/-- What a reader hands back. -/
def opt : Option Int → Value
  | some n => .tuple #[.int .i64 n, .bool true]
  | none => .tuple #[.int .i64 0, .bool false]
end Go.Proofs.YtnijneajlmgkjaaDoor
