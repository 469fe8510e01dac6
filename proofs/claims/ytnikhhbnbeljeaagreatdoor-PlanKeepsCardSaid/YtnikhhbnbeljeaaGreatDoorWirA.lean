/- Package wire: what a field may be; the reference's likewise. -/
import Derived.Test.YtnikhhbnbeljeaaGreatDoorLabA
import Derived.Test.YtnikhhbnbeljeaaGreatDoorBase
import Derived.Test.YtnikhhbnbeljeaaGreatDoorLabB
import Derived.Test.YtnikhhbnbeljeaaGreatDoorProg
import Derived.PlainAid
import Derived.WalkKit
import Derived.Handy
import Derived.ProofKit
import Derived.OpenShut
import Derived.Deep.DeepHandedRow
import Derived.Lib.Hide
import Derived.Laws.Tables
import Derived.Carry
import Derived.Outline
import Derived.WalkSmall
import Derived.WalkSpells
import Derived.WalkLawsBesides
set_option linter.unusedSimpArgs false
set_option linter.unusedVariables false
namespace Go.Wire
open Go.Lab
def timeB (n : Int) : Bool := decide (-62135596800 ≤ n ∧ n ≤ 253402300799)
def occB (n : Int) : Bool := timeB n && decide (n.tmod 60 = 0)
def hostB (n : Int) : Bool := decide (0 ≤ n ∧ n ≤ 65535)
def bootB (n : Int) : Bool := decide (1 ≤ n ∧ n ≤ 2147483647)
def outcomeB (n : Int) : Bool := decide (1 ≤ n ∧ n ≤ 4)
def reasonB (n : Int) : Bool := decide (1 ≤ n ∧ n ≤ 7)
def withinB (n a b : Int) : Bool := decide (a ≤ n ∧ n ≤ b)
/-- A run's key. -/
structure Ky where
  job : Bytes
  occ : Int
  host : Int
def keyB (k : Ky) : Bool := wordB k.job && occB k.occ && hostB k.host
end Go.Wire
namespace Go.Proofs.YtnikhhbnbeljeaaGreatDoor
open Go.ChangeShapes Go.WideShapes Go.ChangeAt Go.RowKit Go.Base Go.Lab Go.Wire LB

section
variable (w : World)
theorem mayTime_any (n : Int) : Calls Tryz.prog 233 #[.int .i64 n] w fun e w' => e = .returned (.bool (timeB n)) ∧ w = w' := by
  by_cases h : -62135596800 ≤ n
  · go_enter Tryz.func233, Tryz.ntmps233
    go_wp2
    go_ret
    exact ⟨ret_bool (by unfold timeB; simp [h] <;> omega), rfl⟩
  · go_enter Tryz.func233, Tryz.ntmps233
    go_wp2
    go_ret
    exact ⟨ret_bool (by unfold timeB; simp [h] <;> omega), rfl⟩
theorem mayHost_any (n : Int) : Calls Tryz.prog 195 #[.int .i64 n] w fun e w' => e = .returned (.bool (hostB n)) ∧ w = w' := by
  by_cases h : 0 ≤ n
  · go_enter Tryz.func195, Tryz.ntmps195
    go_wp2
    go_ret
    exact ⟨ret_bool (by unfold hostB; rw [Bool.eq_iff_iff]; simp; omega), rfl⟩
  · go_enter Tryz.func195, Tryz.ntmps195
    go_wp2
    go_ret
    exact ⟨ret_bool (by unfold hostB; simp [h] <;> omega), rfl⟩
theorem mayOcc_any (n : Int) : Calls Tryz.prog 194 #[.int .i64 n] w fun e w' => e = .returned (.bool (occB n)) ∧ w = w' := by
  have HC := Lib.hid (mayTime_any w n)
  cases h : timeB n with
  | true =>
    rw [h] at HC
    have HE : Hid (occB n = decide (n.tmod 60 = 0)) := Lib.hid (by unfold occB; rw [h]; rfl)
    go_enter Tryz.func194, Tryz.ntmps194
    go_wp2_with (go_at_call 233; refine Calls.mono HC.out ?_; rintro e w1 ⟨rfl, rfl⟩)
    go_ret
    exact ⟨ret_bool (by rw [HE.out]; first | rfl | (rw [Bool.eq_iff_iff]; simp)), rfl⟩
  | false =>
    rw [h] at HC
    have HE : Hid (occB n = false) := Lib.hid (by unfold occB; rw [h]; rfl)
    go_enter Tryz.func194, Tryz.ntmps194
    go_wp2_with (go_at_call 233; refine Calls.mono HC.out ?_; rintro e w1 ⟨rfl, rfl⟩)
    go_ret
    exact ⟨ret_bool HE.out.symm, rfl⟩
theorem mayJob_any (l : Bytes) (hl : l.length ≤ maxLen) : Calls Tryz.prog 193 #[.string ⟨l.toArray⟩] w fun e w' => e = .returned (.bool (wordB l)) ∧ w = w' := by
  have HC := Lib.hid (word_l l hl w)
  cases h : wordB l with
  | true =>
    rw [h] at HC
    have h2 : l.length ≤ 32 := by rw [wordB_all] at h; simp at h; omega
    have h2' : (l.length : Int) ≤ 32 := by omega
    clear h
    go_enter Tryz.func193, Tryz.ntmps193
    go_wp2_with (go_at_call 51; refine Calls.mono HC.out ?_; rintro e w1 ⟨rfl, rfl⟩)
    go_ret
    exact ⟨ret_bool (by simp [ByteArray.size] <;> omega), rfl⟩
  | false =>
    rw [h] at HC
    clear h
    go_enter Tryz.func193, Tryz.ntmps193
    go_wp2_with (go_at_call 51; refine Calls.mono HC.out ?_; rintro e w1 ⟨rfl, rfl⟩)
    go_ret
    exact ⟨rfl, rfl⟩
end
end Go.Proofs.YtnikhhbnbeljeaaGreatDoor
