/- Plain facts on the calendar: leap years, lengths of months, days ahead, which date a day's number is. No program. -/
import Derived.PlainAid
set_option linter.unusedSimpArgs false
set_option linter.unusedVariables false
namespace Go.Civ

/-- Is the year a leap year? -/
def lp (y : Int) : Bool := (y.tmod 4 == 0) && ((y.tmod 100 != 0) || (y.tmod 400 == 0))

theorem lp_iff (y : Int) : lp y = true ↔ y % 4 = 0 ∧ (y % 100 ≠ 0 ∨ y % 400 = 0) := by
  have a : y.tmod 4 = 0 ↔ y % 4 = 0 := by rw [← Int.dvd_iff_tmod_eq_zero, Int.dvd_iff_emod_eq_zero]
  have b : y.tmod 100 = 0 ↔ y % 100 = 0 := by rw [← Int.dvd_iff_tmod_eq_zero, Int.dvd_iff_emod_eq_zero]
  have c : y.tmod 400 = 0 ↔ y % 400 = 0 := by rw [← Int.dvd_iff_tmod_eq_zero, Int.dvd_iff_emod_eq_zero]
  unfold lp
  simp [a, b, c]

/-- How many days the month has; 0 of what is no month. -/
def len (y m : Int) : Int :=
  if m = 2 then (if lp y = true then 29 else 28) else
  if m = 4 ∨ m = 6 ∨ m = 9 ∨ m = 11 then 30 else
  if 1 ≤ m ∧ m ≤ 12 then 31 else 0

theorem len_bd (y m : Int) : 0 ≤ len y m ∧ len y m ≤ 31 := by
  unfold len; split <;> (try split) <;> (try split) <;> omega
theorem len_lo (y m : Int) (h : 1 ≤ m) (h' : m ≤ 12) : 28 ≤ len y m := by
  unfold len; split <;> (try split) <;> (try split) <;> omega
theorem len_out (y m : Int) (h : m < 1 ∨ 12 < m) : len y m = 0 := by
  unfold len; split <;> (try split) <;> (try split) <;> omega
theorem len_two (y m : Int) (h : m = 2) (hl : lp y = true) : len y m = 29 := by unfold len; rw [if_pos h, if_pos hl]

/-- The days of the months ahead of the month n + 1. -/
def cum (y : Int) : Nat → Int
  | 0 => 0
  | n + 1 => cum y n + len y ((n : Int) + 1)

theorem cum_bd (y : Int) (n : Nat) : 0 ≤ cum y n ∧ cum y n ≤ 31 * n := by
  induction n with
  | zero => simp [cum]
  | succ n ih => have := len_bd y ((n : Int) + 1); simp only [cum]; omega
theorem cum_mono (y : Int) (n m : Nat) (h : n ≤ m) : cum y n ≤ cum y m := by
  induction m with
  | zero => obtain rfl : n = 0 := by omega
            exact Int.le_refl _
  | succ m ih =>
    have := len_bd y ((m : Int) + 1)
    by_cases e : n = m + 1
    · subst e; exact Int.le_refl _
    · have := ih (by omega); simp only [cum]; omega

/-- The days ahead of a year, from the year 1 on. -/
def ah (y : Int) : Int := 365 * (y - 1) + (y - 1) / 4 - (y - 1) / 100 + (y - 1) / 400

theorem ah_mono (a b : Int) (h : a ≤ b) : ah a ≤ ah b := by unfold ah; omega
theorem ah_lt (a b : Int) (h : a < b) : ah a < ah b := by unfold ah; omega
theorem ah_bd (y : Int) (h : 1 ≤ y) (h' : y ≤ 10001) : 0 ≤ ah y ∧ ah y ≤ 3652425 := by unfold ah; omega
theorem cum_year (y : Int) : cum y 12 = 365 + if lp y = true then 1 else 0 := by
  simp [cum, len]; split <;> omega
theorem ah_succ (y : Int) : ah (y + 1) = ah y + cum y 12 := by
  rw [cum_year]
  by_cases h : lp y = true
  · rw [if_pos h]; have := (lp_iff y).1 h; unfold ah; omega
  · rw [if_neg h]; have := mt (lp_iff y).2 h; unfold ah; omega

/-- The number of a day, counted from 1970-01-01. -/
def num (y m d : Int) : Int := ah y - 719162 + cum y (m - 1).toNat + d - 1

/-- The day of the week of a day's number: 0 is Sunday. -/
def wd (n : Int) : Int := (n + 4) % 7

/-- A year, a month and a day that are. -/
def okd (y m d : Int) : Prop := 1 ≤ y ∧ y ≤ 9999 ∧ 1 ≤ m ∧ m ≤ 12 ∧ 1 ≤ d ∧ d ≤ len y m

theorem year_of (n : Int) (h0 : 0 ≤ n) (k : Nat) : n < ah ((k : Int) + 2) → ∃ y : Int, 1 ≤ y ∧ y ≤ (k : Int) + 1 ∧ ah y ≤ n ∧ n < ah (y + 1) := by
  induction k with
  | zero => intro h; exact ⟨1, by omega, by omega, by simpa [ah] using h0, by simpa using h⟩
  | succ k ih =>
    intro h
    by_cases hk : n < ah ((k : Int) + 2)
    · obtain ⟨y, a, b, c, d⟩ := ih hk; exact ⟨y, a, by omega, c, d⟩
    · have e : ((k + 1 : Nat) : Int) + 1 = (k : Int) + 2 := by omega
      have e' : ((k + 1 : Nat) : Int) + 2 = (k : Int) + 2 + 1 := by omega
      exact ⟨(k : Int) + 2, by omega, by omega, by omega, by rw [← e']; exact h⟩
theorem month_of (y r : Int) (h0 : 0 ≤ r) (n : Nat) : r < cum y n → ∃ k : Nat, k < n ∧ cum y k ≤ r ∧ r < cum y (k + 1) := by
  induction n with
  | zero => intro h; simp [cum] at h; omega
  | succ n ih =>
    intro h
    by_cases hk : r < cum y n
    · obtain ⟨k, a, b, c⟩ := ih hk; exact ⟨k, by omega, b, c⟩
    · exact ⟨n, by omega, by omega, h⟩
/-- EACH DAY FROM 0001-01-01 TO 9999-12-31 HAS ITS DATE. -/
theorem date_of (n : Int) (h0 : -719162 ≤ n) (h1 : n ≤ 2932896) : ∃ (y : Int) (k : Nat), 1 ≤ y ∧ y ≤ 9999 ∧ k < 12 ∧ ah y + cum y k ≤ n + 719162 ∧ n + 719162 < ah y + cum y (k + 1) := by
  have hm : ah (((9998 : Nat) : Int) + 2) = 3652059 := by simp [ah]
  obtain ⟨y, a, b, c, d⟩ := year_of (n + 719162) (by omega) 9998 (by omega)
  rw [ah_succ] at d
  obtain ⟨k, e, f, g⟩ := month_of y (n + 719162 - ah y) (by omega) 12 (by omega)
  exact ⟨y, k, a, by omega, e, by omega, by omega⟩

/-- Below a time the greatest multiple of a size; the time, where there is none. -/
def fl (t s : Int) : Int := if s < 1 then t else if t - t % s < -9223372036854775808 then t else t - t % s
end Go.Civ
