/- Walks of the laws on package civil: years; months; weeks. -/
import Derived.Test.YtpmgepipcmigpaaDoorCivJ
set_option linter.unusedSimpArgs false
set_option linter.unusedVariables false
namespace Go.Proofs.YtpmgepipcmigpaaDoor
open Go.ChangeShapes Go.WideShapes Go.ChangeAt Go.RowKit Go.Civ Go.Base

theorem lp_400 (y : Int) : lp (y + 400) = lp y := by
  rw [Bool.eq_iff_iff, lp_iff, lp_iff]; omega
theorem len_400 (y m : Int) : len (y + 400) m = len y m := by unfold len; rw [lp_400]
theorem cum_400 (y : Int) (n : Nat) : cum (y + 400) n = cum y n := by
  induction n with
  | zero => rfl
  | succ n ih => simp only [cum, ih, len_400]
theorem num_400 (y m d : Int) : num (y + 400) m d = num y m d + 146097 := by
  unfold num; rw [cum_400]; unfold ah; omega
theorem wd_400 (n : Int) : wd (n + 146097) = wd n := by unfold wd; omega

set_option maxHeartbeats 1000000 in
theorem law_years (y m : Int) (w : World) (tab : Tab w) :
    Calls Tryd.prog 8 #[.int .i64 y, .int .i64 m] w fun e w' => e = .returned (.bool true) ∧ Below w.heap.size w w' := by
  have HT : Hid (∀ w1, Below w.heap.size w w1 → Tab w1) := Lib.hid (fun w1 h => tab.later h)
  have HT0 := Lib.hid tab
  clear tab
  by_cases h1 : y < 1
  · go_enter Tryd.func8, Tryd.ntmps8
    go_wp2_with (go_at_call 13; refine (lives_any _ HT0.out).mono ?_; rintro e w1 ⟨rfl, hb1⟩)
    go_ret
    exact ⟨rfl, by go_grown⟩
  by_cases h2 : 9599 < y
  · go_enter Tryd.func8, Tryd.ntmps8
    go_wp2_with (go_at_call 13; refine (lives_any _ HT0.out).mono ?_; rintro e w1 ⟨rfl, hb1⟩)
    go_ret
    exact ⟨rfl, by go_grown⟩
  by_cases h3 : m < 1
  · go_enter Tryd.func8, Tryd.ntmps8
    go_wp2_with (go_at_call 13; refine (lives_any _ HT0.out).mono ?_; rintro e w1 ⟨rfl, hb1⟩)
    go_ret
    exact ⟨rfl, by go_grown⟩
  by_cases h4 : 12 < m
  · go_enter Tryd.func8, Tryd.ntmps8
    go_wp2_with (go_at_call 13; refine (lives_any _ HT0.out).mono ?_; rintro e w1 ⟨rfl, hb1⟩)
    go_ret
    exact ⟨rfl, by go_grown⟩
  have hO : okd y m 1 := by have := len_lo y m (by omega) (by omega); unfold okd; omega
  have hO4 : okd (y + 400) m 1 := by have := len_lo (y + 400) m (by omega) (by omega); unfold okd; omega
  have hN := num_bd y m 1 hO
  have HO := Lib.hid hO
  have HO4 := Lib.hid hO4
  have HN4 := Lib.hid (num_400 y m 1)
  have HW := Lib.hid (wd_400 (num y m 1))
  have HC := Lib.hid (cum_year y)
  clear hO hO4
  by_cases hl : lp y = true
  all_goals
    go_enter Tryd.func8, Tryd.ntmps8
    go_wp2_with fail
    refine (number_ok _ _ _ _ HT0.out HO.out).mono ?_
    rintro e w1 ⟨rfl, rfl⟩
    go_wp2_with fail
    refine (number_ok _ _ _ _ HT0.out HO4.out).mono ?_
    rintro e w1 ⟨rfl, rfl⟩
    rw [HN4.out]
    go_wp2_with fail
    go_loop [9, 10] (fun a i => ∃ k : Nat, k ≤ 12 ∧ i = .int .i64 ((k : Int) + 1) ∧ a = .int .i64 (cum y k)) (fun _ i => (14 - intOf i).toNat)
    case atStart => exact ⟨0, by omega, rfl, rfl⟩
    case round =>
      obtain ⟨k, hk, rfl, rfl⟩ := hrel
      have hc := cum_bd y k
      have hlb := len_bd y ((k : Int) + 1)
      have HS : Hid (cum y (k + 1) = cum y k + len y ((k : Int) + 1)) := Lib.hid rfl
      by_cases hlt : k < 12
      · go_wp2_with (go_at_call 16; refine (length_any _ _ _ HT0.out).mono ?_; rintro e w' ⟨rfl, rfl⟩)
        go_round
        case rel => exact ⟨k + 1, by omega, by go_num, by rw [HS.out]⟩
        case measure => simp [intOf]; omega
      · obtain rfl : k = 12 := by omega
        clear hlt HS hc hlb
        rw [HC.out]
        first | rw [if_pos hl] | rw [if_neg hl]
        go_wp2_with fail
        refine (lives_any _ HT0.out).mono ?_
        rintro e w1 ⟨rfl, hb1⟩
        go_wp2_with fail
        refine (weekday_any _ _ (by omega) (by omega)).mono ?_
        rintro e w2 ⟨rfl, rfl⟩
        go_wp2_with fail
        refine (weekday_any _ _ (by omega) (by omega)).mono ?_
        rintro e w2 ⟨rfl, rfl⟩
        rw [HW.out]
        go_wp2_with fail
        refine (leap_any _ _).mono ?_
        rintro e w2 ⟨rfl, rfl⟩
        go_wp2_with fail
        refine (leap_any _ _).mono ?_
        rintro e w2 ⟨rfl, rfl⟩
        go_wp2_with fail
        go_ret
        exact ⟨ret_bool (by simp [hl]), by go_grown⟩
end Go.Proofs.YtpmgepipcmigpaaDoor
