/- Walks of package civil and of its answers by definition: days' numbers, multiples. -/
import Derived.Test.YtpmgepipcmigpaaDoorCivB
set_option linter.unusedSimpArgs false
set_option linter.unusedVariables false
namespace Go.Proofs.YtpmgepipcmigpaaDoor
open Go.ChangeShapes Go.WideShapes Go.ChangeAt Go.RowKit Go.Civ Go.Base

theorem number_no (y m d : Int) (w : World) (ht : Tab w) (h : ¬ okd y m d) :
    Calls Tryd.prog 11 #[.int .i64 y, .int .i64 m, .int .i64 d] w fun e w' => e = .returned (.tuple #[.int .i64 0, .int .i64 10]) ∧ w = w' := by
  by_cases h1 : y < 1
  · clear h
    go_enter Tryd.func11, Tryd.ntmps11
    go_wp2_with fail
    go_ret2
    exact ⟨rfl, rfl⟩
  by_cases h2 : 9999 < y
  · clear h
    go_enter Tryd.func11, Tryd.ntmps11
    go_wp2_with fail
    go_ret2
    exact ⟨rfl, rfl⟩
  by_cases h3 : d < 1
  · clear h
    go_enter Tryd.func11, Tryd.ntmps11
    go_wp2_with fail
    go_ret2
    exact ⟨rfl, rfl⟩
  have h4 : len y m < d := by
    by_cases hm : m < 1 ∨ 12 < m
    · rw [len_out y m hm]; omega
    · unfold okd at h; omega
  have HT := Lib.hid ht
  clear h ht
  go_enter Tryd.func11, Tryd.ntmps11
  go_wp2_with (go_at_call 16; refine (length_any _ _ _ HT.out).mono ?_; rintro e w' ⟨rfl, rfl⟩)
  go_ret2
  exact ⟨rfl, rfl⟩

theorem number_ok (y m d : Int) (w : World) (ht : Tab w) (h : okd y m d) :
    Calls Tryd.prog 11 #[.int .i64 y, .int .i64 m, .int .i64 d] w fun e w' => e = .returned (.tuple #[.int .i64 (num y m d), .int .i64 0]) ∧ w = w' := by
  obtain ⟨h1, h2, h3, h4, h5, h6⟩ := h
  obtain ⟨n, hn, rfl⟩ : ∃ n : Nat, n < 12 ∧ m = (n : Int) + 1 := ⟨(m - 1).toNat, by omega, by omega⟩
  have hl := len_bd y ((n : Int) + 1)
  have ha := ah_bd y (by omega) (by omega)
  have H : Hid (num y ((n : Int) + 1) d = ah y - 719162 + cum y n + d - 1) := Lib.hid (by unfold num; rw [show ((n : Int) + 1 - 1).toNat = n by omega])
  have HT := Lib.hid ht
  clear ht
  go_enter Tryd.func11, Tryd.ntmps11
  go_wp2_with (first | (go_at_call 16; refine (length_any _ _ _ HT.out).mono ?_; rintro e w' ⟨rfl, rfl⟩) | (go_at_call 26; refine (newYear_any _ _ (by omega) (by omega)).mono ?_; rintro e w' ⟨rfl, rfl⟩))
  go_loop [8, 9] (fun a i => ∃ k : Nat, k ≤ n ∧ i = .int .i64 ((k : Int) + 1) ∧ a = .int .i64 (ah y - 719162 + d - 1 + cum y k)) (fun _ i => (13 - intOf i).toNat)
  case atStart => exact ⟨0, by omega, rfl, by simp [cum]⟩
  case round =>
    obtain ⟨k, hk, rfl, rfl⟩ := hrel
    have hc := cum_bd y k
    have hl' := len_bd y ((k : Int) + 1)
    have HC : Hid (cum y (k + 1) = cum y k + len y ((k : Int) + 1)) := Lib.hid rfl
    by_cases hlt : k < n
    · go_wp2_with (go_at_call 16; refine (length_any _ _ _ HT.out).mono ?_; rintro e w' ⟨rfl, rfl⟩)
      go_round
      case rel => exact ⟨k + 1, by omega, by go_num, by rw [HC.out]; go_num⟩
      case measure => simp [intOf]; omega
    · obtain rfl : n = k := by omega
      go_wp2_with fail
      go_ret2
      exact ⟨ret_tup (by rw [H.out]; omega), rfl⟩

theorem refNumber_no (y m d : Int) (w : World) (h : ¬ okd y m d) :
    Calls Tryd.prog 12 #[.int .i64 y, .int .i64 m, .int .i64 d] w fun e w' => e = .returned (.tuple #[.int .i64 0, .int .i64 10]) ∧ w = w' := by
  by_cases h1 : y < 1
  · clear h
    go_enter Tryd.func12, Tryd.ntmps12
    go_wp2_with fail
    go_ret2
    exact ⟨rfl, rfl⟩
  by_cases h2 : 9999 < y
  · clear h
    go_enter Tryd.func12, Tryd.ntmps12
    go_wp2_with fail
    go_ret2
    exact ⟨rfl, rfl⟩
  by_cases hm1 : m < 1
  · clear h
    go_enter Tryd.func12, Tryd.ntmps12
    go_wp2_with fail
    go_ret2
    exact ⟨rfl, rfl⟩
  by_cases hm2 : 12 < m
  · clear h
    go_enter Tryd.func12, Tryd.ntmps12
    go_wp2_with fail
    go_ret2
    exact ⟨rfl, rfl⟩
  by_cases h3 : d < 1
  · clear h
    go_enter Tryd.func12, Tryd.ntmps12
    go_wp2_with fail
    go_ret2
    exact ⟨rfl, rfl⟩
  have h4 : len y m < d := by unfold okd at h; omega
  clear h
  go_enter Tryd.func12, Tryd.ntmps12
  go_wp2_with (go_at_call 17; refine (refLength_any _ _ _).mono ?_; rintro e w' ⟨rfl, rfl⟩)
  go_ret2
  exact ⟨rfl, rfl⟩

theorem refNumber_ok (y m d : Int) (w : World) (h : okd y m d) :
    Calls Tryd.prog 12 #[.int .i64 y, .int .i64 m, .int .i64 d] w fun e w' => e = .returned (.tuple #[.int .i64 (num y m d), .int .i64 0]) ∧ w = w' := by
  obtain ⟨h1, h2, h3, h4, h5, h6⟩ := h
  obtain ⟨n, hn, rfl⟩ : ∃ n : Nat, n < 12 ∧ m = (n : Int) + 1 := ⟨(m - 1).toNat, by omega, by omega⟩
  have hl := len_bd y ((n : Int) + 1)
  have ha := ah_bd y (by omega) (by omega)
  have hb := ah_bd 1970 (by omega) (by omega)
  have H : Hid (num y ((n : Int) + 1) d = ah y - ah 1970 + cum y n + d - 1) := Lib.hid (by unfold num; rw [show ((n : Int) + 1 - 1).toNat = n by omega, show ah 1970 = 719162 by decide])
  go_enter Tryd.func12, Tryd.ntmps12
  go_wp2_with (first | (go_at_call 17; refine (refLength_any _ _ _).mono ?_; rintro e w' ⟨rfl, rfl⟩) | (go_at_call 27; refine (ahead_any _ _ (by omega) (by omega)).mono ?_; rintro e w' ⟨rfl, rfl⟩))
  go_loop [8, 9] (fun a i => ∃ k : Nat, k ≤ n ∧ i = .int .i64 ((k : Int) + 1) ∧ a = .int .i64 (ah y - ah 1970 + cum y k)) (fun _ i => (13 - intOf i).toNat)
  case atStart => exact ⟨0, by omega, rfl, by simp [cum]⟩
  case round =>
    obtain ⟨k, hk, rfl, rfl⟩ := hrel
    have hc := cum_bd y k
    have hl' := len_bd y ((k : Int) + 1)
    have HC : Hid (cum y (k + 1) = cum y k + len y ((k : Int) + 1)) := Lib.hid rfl
    by_cases hlt : k < n
    · go_wp2_with (go_at_call 17; refine (refLength_any _ _ _).mono ?_; rintro e w' ⟨rfl, rfl⟩)
      go_round
      case rel => exact ⟨k + 1, by omega, by go_num, by rw [HC.out]; go_num⟩
      case measure => simp [intOf]; omega
    · obtain rfl : n = k := by omega
      go_wp2_with fail
      go_ret2
      exact ⟨ret_tup (by rw [H.out]; try omega), rfl⟩
end Go.Proofs.YtpmgepipcmigpaaDoor
