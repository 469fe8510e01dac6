/- Plain facts on labels: words, values, orders of keys. No program. -/
import Derived.PlainAid
set_option linter.unusedSimpArgs false
set_option linter.unusedVariables false
namespace Go.Lab

abbrev Bytes := List UInt8
def isWd (d : Int) : Bool := decide (97 ≤ d ∧ d ≤ 122) || decide (65 ≤ d ∧ d ≤ 90) || decide (48 ≤ d ∧ d ≤ 57) || decide (d = 45) || decide (d = 95) || decide (d = 46) || decide (d = 47)
def isW (c : UInt8) : Bool := isWd (c.toNat : Int)
def wordLen (l : Bytes) : Nat := (l.takeWhile isW).length
def wordB (l : Bytes) : Bool := decide (1 ≤ l.length) && decide (l.length ≤ 32) && (wordLen l == l.length)
def valB (l : Bytes) : Bool := l.isEmpty || wordB l
theorem wordLen_le (l : Bytes) : wordLen l ≤ l.length := by
  unfold wordLen; exact (List.takeWhile_prefix _).length_le
theorem wordLen_all (l : Bytes) : (wordLen l == l.length) = l.all isW := by
  unfold wordLen
  induction l with
  | nil => rfl
  | cons c l ih =>
    rw [List.takeWhile_cons, List.all_cons]
    cases h : isW c
    · simp
    · simp only [if_true, List.length_cons, Bool.true_and]
      rw [← ih]
      rw [Bool.eq_iff_iff]; simp
theorem wordLen_at {l : Bytes} {k : Nat} (hk : k ≤ l.length) (h : ∀ c ∈ l.take k, isW c = true) (he : k = l.length ∨ ∃ c, l[k]? = some c ∧ isW c = false) : wordLen l = k := by
  unfold wordLen
  induction l generalizing k with
  | nil => simp at hk; subst hk; rfl
  | cons c l ih =>
    cases k with
    | zero =>
      rcases he with he | ⟨c', hc, hn⟩
      · simp at he
      · simp at hc; subst hc; simp [List.takeWhile_cons, hn]
    | succ k =>
      have hc : isW c = true := h c (by simp)
      rw [List.takeWhile_cons, hc]
      simp only [if_true, List.length_cons]
      rw [ih (by simpa using hk) (fun x hx => h x (by simp [hx])) (by simpa using he)]

structure Lb where
  key : Bytes
  val : Bytes
deriving DecidableEq
instance : Inhabited Lb := ⟨⟨[], []⟩⟩
def mayOne (x : Lb) : Bool := wordB x.key && valB x.val
def getB (l : List Lb) (k : Bytes) : Option Bytes := (l.find? fun x => x.key == k).map (·.val)
end Go.Lab
