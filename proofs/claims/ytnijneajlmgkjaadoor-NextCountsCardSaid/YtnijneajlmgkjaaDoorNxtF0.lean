/- The days of a month on which a spec matches, as a set. No program. -/
import Derived.Test.YtnijneajlmgkjaaDoorNxtA
import Derived.Test.YtnijneajlmgkjaaDoorCivA
set_option linter.unusedSimpArgs false
set_option linter.unusedVariables false
namespace Go.Nxt
open Go.Civ
/-- The members 1 to n that fit, as a set. -/
def dset (p : Nat → Bool) : Nat → Nat
  | 0 => 0
  | n + 1 => if p (n + 1) then dset p n ||| 2 ^ (n + 1) else dset p n
theorem dset_test (p : Nat → Bool) (i : Nat) : ∀ n, (dset p n).testBit i = (decide (1 ≤ i) && decide (i ≤ n) && p i)
  | 0 => by
    simp only [dset, Nat.zero_testBit]
    by_cases h : 1 ≤ i
    · have : ¬ i ≤ 0 := by omega
      simp [this]
    · simp [h]
  | n + 1 => by
    simp only [dset]
    by_cases he : i = n + 1
    · subst he
      have hn : ¬ n + 1 ≤ n := by omega
      cases hp : p (n + 1)
      · simp [dset_test p (n + 1) n, hn]
      · simp [Nat.testBit_or, Nat.testBit_two_pow_self]
    · have e2 : decide (i ≤ n + 1) = decide (i ≤ n) := decide_eq_decide.2 (by omega)
      rw [e2]
      split
      · rw [Nat.testBit_or, dset_test p i n, Nat.testBit_two_pow_of_ne (fun h => he h.symm), Bool.or_false]
      · exact dset_test p i n
theorem dset_lt (p : Nat → Bool) : ∀ n, n ≤ 62 → dset p n < 2 ^ (n + 1)
  | 0, _ => by simp [dset]
  | n + 1, h => by
    have h1 := dset_lt p n (by omega)
    have h2 : (2 : Nat) ^ (n + 1) < 2 ^ (n + 1 + 1) := Nat.pow_lt_pow_right (by decide) (by omega)
    simp only [dset]
    split
    · exact Nat.or_lt_two_pow (by omega) h2
    · omega
theorem dset_u64 (p : Nat → Bool) {n : Nat} (h : n ≤ 62) : dset p n < 18446744073709551616 :=
  Nat.lt_of_lt_of_le (dset_lt p n h) (Nat.pow_le_pow_right (by decide) (show n + 1 ≤ 64 by omega))
theorem wd_next (n : Int) : (wd n + 1) % 7 = wd (n + 1) := by unfold wd; omega
end Go.Nxt
