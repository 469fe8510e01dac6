/- Walks of package civil and of its answers by definition: leap years, lengths, weekdays, days ahead, multiples. -/
import Derived.Test.YtpmgepipcmigpaaDoorCivA
import Derived.Test.YtpmgepipcmigpaaDoorBase
import Derived.Test.YtpmgepipcmigpaaDoorRows
import Derived.WalkKit
import Derived.Handy
import Derived.ProofKit
import Derived.Deep.QuietTactic
import Derived.BigQuiet
import Derived.Lib.Hide
import Derived.Outline
set_option linter.unusedSimpArgs false
set_option linter.unusedVariables false
namespace Go.Proofs.YtpmgepipcmigpaaDoor
open Go.ChangeShapes Go.WideShapes Go.ChangeAt Go.RowKit Go.Civ Go.Base

theorem leap_any (y : Int) (w : World) :
    Calls Tryd.prog 14 #[.int .i64 y] w fun e w' => e = .returned (.bool (lp y)) ∧ w = w' := by
  by_cases h4 : (y.tmod 4 == 0) = true <;> by_cases h100 : (y.tmod 100 != 0) = true <;> by_cases h400 : (y.tmod 400 == 0) = true
  all_goals
    have H : Hid (lp y = ((y.tmod 4 == 0) && ((y.tmod 100 != 0) || (y.tmod 400 == 0)))) := Lib.hid rfl
    go_enter Tryd.func14, Tryd.ntmps14
    go_wp2
    go_ret
    exact ⟨ret_bool (by rw [H.out]; simp [*]), rfl⟩
theorem refLeap_any (y : Int) (w : World) :
    Calls Tryd.prog 15 #[.int .i64 y] w fun e w' => e = .returned (.bool (lp y)) ∧ w = w' := by
  by_cases h4 : (y.tmod 4 == 0) = true <;> by_cases h100 : (y.tmod 100 != 0) = true <;> by_cases h400 : (y.tmod 400 == 0) = true
  all_goals
    have H : Hid (lp y = ((y.tmod 4 == 0) && ((y.tmod 100 != 0) || (y.tmod 400 == 0)))) := Lib.hid rfl
    go_enter Tryd.func15, Tryd.ntmps15
    go_wp2
    go_ret
    exact ⟨ret_bool (by rw [H.out]; simp [*]), rfl⟩

/-- The table of the months' lengths lies in its variable. -/
def Tab (w : World) : Prop := ∀ k : Nat, k < 12 → w.cell? ⟨0, k, none⟩ = some (.int .i64 (([31, 28, 31, 30, 31, 30, 31, 31, 30, 31, 30, 31] : List Int).getD k 0))

theorem length_any (y m : Int) (w : World) (ht : Tab w) :
    Calls Tryd.prog 16 #[.int .i64 y, .int .i64 m] w fun e w' => e = .returned (.int .i64 (len y m)) ∧ w = w' := by
  by_cases hlo : m < 1
  · have H := Lib.hid (len_out y m (.inl hlo))
    go_enter Tryd.func16, Tryd.ntmps16
    go_wp2
    go_ret
    exact ⟨ret_int H.out.symm, rfl⟩
  by_cases hhi : 12 < m
  · have H := Lib.hid (len_out y m (.inr hhi))
    go_enter Tryd.func16, Tryd.ntmps16
    go_wp2
    go_ret
    exact ⟨ret_int H.out.symm, rfl⟩
  by_cases h2 : m = 2
  · subst h2
    by_cases hl : lp y = true
    · have H : Hid (len y 2 = 29) := Lib.hid (by simp [len, hl])
      clear ht
      go_enter Tryd.func16, Tryd.ntmps16
      go_wp2_with (go_at_call 14; refine (leap_any _ _).mono ?_; rintro e w' ⟨rfl, rfl⟩)
      go_ret
      exact ⟨ret_int H.out.symm, rfl⟩
    · have H : Hid (len y 2 = 28) := Lib.hid (by simp [len, hl])
      have hl' : lp y = false := by simpa using hl
      have hc := ht 1 (by omega)
      simp only [List.getD_cons_succ, List.getD_cons_zero] at hc
      clear ht hl
      go_enter Tryd.func16, Tryd.ntmps16
      go_wp2_with (go_at_call 14; refine (leap_any _ _).mono ?_; rintro e w' ⟨rfl, rfl⟩)
      go_ret
      exact ⟨ret_int H.out.symm, rfl⟩
  · obtain ⟨k, hk, rfl⟩ : ∃ k : Nat, k < 12 ∧ m = (k : Int) + 1 := ⟨(m - 1).toNat, by omega, by omega⟩
    have hc := ht k hk
    have e : ([31, 28, 31, 30, 31, 30, 31, 31, 30, 31, 30, 31] : List Int).getD k 0 = len y ((k : Int) + 1) := by
      rcases k with _ | _ | _ | _ | _ | _ | _ | _ | _ | _ | _ | _ | k
      all_goals first | (exfalso; omega) | simp [len]
    rw [e] at hc
    clear ht e
    go_enter Tryd.func16, Tryd.ntmps16
    go_wp2_with fail
    go_ret
    exact ⟨rfl, rfl⟩
theorem refLength_any (y m : Int) (w : World) :
    Calls Tryd.prog 17 #[.int .i64 y, .int .i64 m] w fun e w' => e = .returned (.int .i64 (len y m)) ∧ w = w' := by
  by_cases hlo : m < 1 ∨ 12 < m
  · have H := Lib.hid (len_out y m hlo)
    rcases hlo with hlo | hlo
    all_goals
      go_enter Tryd.func17, Tryd.ntmps17
      go_wp2_with fail
      go_ret
      exact ⟨ret_int H.out.symm, rfl⟩
  · obtain ⟨k, hk, rfl⟩ : ∃ k : Nat, k < 12 ∧ m = (k : Int) + 1 := ⟨(m - 1).toNat, by omega, by omega⟩
    clear hlo
    by_cases hl : lp y = true
    · have HL := Lib.hid hl
      rcases k with _ | _ | _ | _ | _ | _ | _ | _ | _ | _ | _ | _ | k
      all_goals first | (exfalso; omega) | skip
      all_goals
        clear hk
        go_enter Tryd.func17, Tryd.ntmps17
        go_wp2_with (go_at_call 15; refine (refLeap_any _ _).mono ?_; rintro e w' ⟨rfl, rfl⟩)
        go_ret
        exact ⟨ret_int (by simp [len, HL.out]), rfl⟩
    · have hl' : lp y = false := by simpa using hl
      have HL := Lib.hid hl'
      clear hl
      rcases k with _ | _ | _ | _ | _ | _ | _ | _ | _ | _ | _ | _ | k
      all_goals first | (exfalso; omega) | skip
      all_goals
        clear hk
        go_enter Tryd.func17, Tryd.ntmps17
        go_wp2_with (go_at_call 15; refine (refLeap_any _ _).mono ?_; rintro e w' ⟨rfl, rfl⟩)
        go_ret
        exact ⟨ret_int (by simp [len, HL.out]), rfl⟩

theorem tmod_wd (n : Int) (h : -9223372036854775808 ≤ n) (h' : n ≤ 9223372036854775807) : (n.tmod 7 + 7 + 4) % 7 = wd n ∧ -7 < n.tmod 7 ∧ n.tmod 7 < 7 := by
  unfold wd
  have e := Int.tmod_eq_emod (a := n) (b := 7)
  by_cases h0 : 0 ≤ n ∨ (7 : Int) ∣ n
  · rw [if_pos h0] at e; omega
  · rw [if_neg h0] at e; simp at e; omega
theorem weekday_any (n : Int) (w : World) (h : -9223372036854775808 ≤ n) (h' : n ≤ 9223372036854775807) :
    Calls Tryd.prog 18 #[.int .i64 n] w fun e w' => e = .returned (.int .i64 (wd n)) ∧ w = w' := by
  obtain ⟨h1, h2, h3⟩ := tmod_wd n h h'
  have H := Lib.hid h1
  clear h1
  go_enter Tryd.func18, Tryd.ntmps18
  go_wp2
  go_ret
  exact ⟨ret_int H.out, rfl⟩
theorem refWeekday_any (n : Int) (w : World) (h : -9223372036854775808 ≤ n) (h' : n ≤ 9223372036854775807) :
    Calls Tryd.prog 19 #[.int .i64 n] w fun e w' => e = .returned (.int .i64 (wd n)) ∧ w = w' := by
  obtain ⟨h1, h2, h3⟩ := tmod_wd n h h'
  have H := Lib.hid h1
  clear h1
  by_cases hn : n.tmod 7 < 0
  all_goals
    go_enter Tryd.func19, Tryd.ntmps19
    go_wp2
    go_ret
    exact ⟨ret_int (by rw [← H.out]; try omega), rfl⟩

theorem newYear_any (y : Int) (w : World) (h : 1 ≤ y) (h' : y ≤ 10001) :
    Calls Tryd.prog 26 #[.int .i64 y] w fun e w' => e = .returned (.int .i64 (ah y - 719162)) ∧ w = w' := by
  have H : Hid (ah y = 365 * (y - 1) + (y - 1) / 4 - (y - 1) / 100 + (y - 1) / 400) := Lib.hid rfl
  go_enter Tryd.func26, Tryd.ntmps26
  go_wp2
  go_ret
  exact ⟨ret_int (by rw [H.out]; omega), rfl⟩
theorem ahead_any (y : Int) (w : World) (h : 1 ≤ y) (h' : y ≤ 10001) :
    Calls Tryd.prog 27 #[.int .i64 y] w fun e w' => e = .returned (.int .i64 (ah y)) ∧ w = w' := by
  have H : Hid (ah y = 365 * (y - 1) + (y - 1) / 4 - (y - 1) / 100 + (y - 1) / 400) := Lib.hid rfl
  go_enter Tryd.func27, Tryd.ntmps27
  go_wp2
  go_ret
  exact ⟨ret_int (by rw [H.out]), rfl⟩
theorem below_any (n k : Int) (w : World) :
    Calls Tryd.prog 28 #[.int .i64 n, .int .i64 k] w fun e w' => e = .returned (.bool (decide (0 ≤ n ∧ n < k))) ∧ w = w' := by
  by_cases h1 : 0 ≤ n <;> by_cases h2 : n < k
  all_goals
    go_enter Tryd.func28, Tryd.ntmps28
    go_wp2
    go_ret
    exact ⟨ret_bool (by simp [*]), rfl⟩
end Go.Proofs.YtpmgepipcmigpaaDoor
