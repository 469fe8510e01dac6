/- Walks of the laws on package civil: months; weeks. -/
import Derived.Test.YtpmgepipcmigpaaDoorCivK
set_option linter.unusedSimpArgs false
set_option linter.unusedVariables false
namespace Go.Proofs.YtpmgepipcmigpaaDoor
open Go.ChangeShapes Go.WideShapes Go.ChangeAt Go.RowKit Go.Civ Go.Base

theorem wd_bd (n : Int) : 0 ≤ wd n ∧ wd n ≤ 6 := by unfold wd; omega
theorem wd_add (a l : Int) : wd (a + l) = (wd a + l) % 7 := by unfold wd; omega

/-- The month behind: which year, which month. -/
theorem num_next (y m : Int) (h : 1 ≤ m) (h' : m < 12) : num y (m + 1) 1 = num y m 1 + len y m := by
  obtain ⟨n, rfl⟩ : ∃ n : Nat, m = (n : Int) + 1 := ⟨(m - 1).toNat, by omega⟩
  unfold num
  rw [show ((n : Int) + 1 + 1 - 1).toNat = n + 1 by omega, show ((n : Int) + 1 - 1).toNat = n by omega]
  have : cum y (n + 1) = cum y n + len y ((n : Int) + 1) := rfl
  omega
theorem num_turn (y : Int) : num (y + 1) 1 1 = num y 12 1 + len y 12 := by
  unfold num
  have h := ah_succ y
  have : cum y 12 = cum y 11 + len y 12 := rfl
  have e1 : cum (y + 1) ((1 : Int) - 1).toNat = 0 := rfl
  have e2 : ((12 : Int) - 1).toNat = 11 := rfl
  rw [e1, e2]
  omega

set_option maxHeartbeats 1000000 in
theorem law_months (y m : Int) (w : World) (tab : Tab w) :
    Calls Tryd.prog 9 #[.int .i64 y, .int .i64 m] w fun e w' => e = .returned (.bool true) ∧ Below w.heap.size w w' := by
  have HT : Hid (∀ w1, Below w.heap.size w w1 → Tab w1) := Lib.hid (fun w1 h => tab.later h)
  have HT0 := Lib.hid tab
  clear tab
  by_cases h1 : y < 1
  · go_enter Tryd.func9, Tryd.ntmps9
    go_wp2_with (go_at_call 13; refine (lives_any _ HT0.out).mono ?_; rintro e w1 ⟨rfl, hb1⟩)
    go_ret
    exact ⟨rfl, by go_grown⟩
  by_cases h2 : 9998 < y
  · go_enter Tryd.func9, Tryd.ntmps9
    go_wp2_with (go_at_call 13; refine (lives_any _ HT0.out).mono ?_; rintro e w1 ⟨rfl, hb1⟩)
    go_ret
    exact ⟨rfl, by go_grown⟩
  by_cases h3 : m < 1
  · go_enter Tryd.func9, Tryd.ntmps9
    go_wp2_with (go_at_call 13; refine (lives_any _ HT0.out).mono ?_; rintro e w1 ⟨rfl, hb1⟩)
    go_ret
    exact ⟨rfl, by go_grown⟩
  by_cases h4 : 12 < m
  · go_enter Tryd.func9, Tryd.ntmps9
    go_wp2_with (go_at_call 13; refine (lives_any _ HT0.out).mono ?_; rintro e w1 ⟨rfl, hb1⟩)
    go_ret
    exact ⟨rfl, by go_grown⟩
  have hlb := len_bd y m
  have hll := len_lo y m (by omega) (by omega)
  have hO : okd y m 1 := by unfold okd; omega
  have hN := num_bd y m 1 hO
  have HO := Lib.hid hO
  have HX : Hid (¬ okd y m (len y m + 1)) := Lib.hid (by unfold okd; omega)
  have HW := Lib.hid (wd_add (num y m 1) (len y m))
  have hw := wd_bd (num y m 1)
  clear hO
  by_cases h12 : m = 12
  · subst h12
    have HO2 : Hid (okd (y + 1) 1 1) := Lib.hid (by have := len_lo (y + 1) 1 (by omega) (by omega); unfold okd; omega)
    have HN2 := Lib.hid (num_turn y)
    go_enter Tryd.func9, Tryd.ntmps9
    go_wp2_with fail
    refine (number_ok _ _ _ _ HT0.out HO.out).mono ?_
    rintro e w1 ⟨rfl, rfl⟩
    go_wp2_with fail
    refine (number_ok _ _ _ _ HT0.out HO2.out).mono ?_
    rintro e w1 ⟨rfl, rfl⟩
    rw [HN2.out]
    go_wp2_with fail
    refine (length_any _ _ _ HT0.out).mono ?_
    rintro e w1 ⟨rfl, rfl⟩
    go_wp2_with fail
    refine (number_no _ _ _ _ HT0.out HX.out).mono ?_
    rintro e w1 ⟨rfl, rfl⟩
    go_wp2_with fail
    refine (lives_any _ HT0.out).mono ?_
    rintro e w1 ⟨rfl, hb1⟩
    go_wp2_with (first | (go_at_call 16; refine (length_any _ _ _ (HT.out _ hb1)).mono ?_; rintro e w2 ⟨rfl, rfl⟩) | (go_at_call 18; refine (weekday_any _ _ (by omega) (by omega)).mono ?_; rintro e w2 ⟨rfl, rfl⟩; try rw [HW.out]))
    go_ret
    exact ⟨ret_bool (by simp), by go_grown⟩
  · have HO2 : Hid (okd y (m + 1) 1) := Lib.hid (by have := len_lo y (m + 1) (by omega) (by omega); unfold okd; omega)
    have HN2 := Lib.hid (num_next y m (by omega) (by omega))
    go_enter Tryd.func9, Tryd.ntmps9
    go_wp2_with fail
    refine (number_ok _ _ _ _ HT0.out HO.out).mono ?_
    rintro e w1 ⟨rfl, rfl⟩
    go_wp2_with fail
    refine (number_ok _ _ _ _ HT0.out HO2.out).mono ?_
    rintro e w1 ⟨rfl, rfl⟩
    rw [HN2.out]
    go_wp2_with fail
    refine (length_any _ _ _ HT0.out).mono ?_
    rintro e w1 ⟨rfl, rfl⟩
    go_wp2_with fail
    refine (number_no _ _ _ _ HT0.out HX.out).mono ?_
    rintro e w1 ⟨rfl, rfl⟩
    go_wp2_with fail
    refine (lives_any _ HT0.out).mono ?_
    rintro e w1 ⟨rfl, hb1⟩
    go_wp2_with (first | (go_at_call 16; refine (length_any _ _ _ (HT.out _ hb1)).mono ?_; rintro e w2 ⟨rfl, rfl⟩) | (go_at_call 18; refine (weekday_any _ _ (by omega) (by omega)).mono ?_; rintro e w2 ⟨rfl, rfl⟩; try rw [HW.out]))
    go_ret
    exact ⟨ret_bool (by simp), by go_grown⟩

set_option maxHeartbeats 4000000 in
theorem law_weeks (n : Int) (w : World) (tab : Tab w) :
    Calls Tryd.prog 10 #[.int .i64 n] w fun e w' => e = .returned (.bool true) ∧ Below w.heap.size w w' := by
  have HT : Hid (∀ w1, Below w.heap.size w w1 → Tab w1) := Lib.hid (fun w1 h => tab.later h)
  have HT0 := Lib.hid tab
  clear tab
  by_cases h1 : 4611686018427387904 < n
  · go_enter Tryd.func10, Tryd.ntmps10
    go_wp2_with (go_at_call 13; refine (lives_any _ HT0.out).mono ?_; rintro e w1 ⟨rfl, hb1⟩)
    go_ret
    exact ⟨rfl, by go_grown⟩
  by_cases h2 : n < -4611686018427387904
  · go_enter Tryd.func10, Tryd.ntmps10
    go_wp2_with (go_at_call 13; refine (lives_any _ HT0.out).mono ?_; rintro e w1 ⟨rfl, hb1⟩)
    go_ret
    exact ⟨rfl, by go_grown⟩
  have hb := wd_bd n
  have hc : wd n = 0 ∨ wd n = 1 ∨ wd n = 2 ∨ wd n = 3 ∨ wd n = 4 ∨ wd n = 5 ∨ wd n = 6 := by omega
  clear hb
  rcases hc with e | e | e | e | e | e | e
  all_goals
    have e1 := wd_add n 1
    have e2 := wd_add n 2
    have e3 := wd_add n 3
    have e4 := wd_add n 4
    have e5 := wd_add n 5
    have e6 := wd_add n 6
    have e7 := wd_add n 7
    rw [e] at e1 e2 e3 e4 e5 e6 e7
    simp at e1 e2 e3 e4 e5 e6 e7
    go_enter Tryd.func10, Tryd.ntmps10
    go_wp2_with fail
    refine wp_loop_rounds 8 ?_
    iterate 7 (rw [rounds_succ]; go_wp2_with (go_at_call 18; refine (weekday_any _ _ (by omega) (by omega)).mono ?_; rintro e w2 ⟨rfl, rfl⟩))
    rw [rounds_succ]
    go_wp2_with fail
    refine (lives_any _ (HT.out _ ?hb)).mono ?_
    case hb => go_grown
    rintro e w1 ⟨rfl, hb1⟩
    go_wp2_with (go_at_call 18; refine (weekday_any _ _ (by omega) (by omega)).mono ?_; rintro e w2 ⟨rfl, rfl⟩)
    go_ret
    exact ⟨rfl, ((below_alloc _ _).trans (hb1.mono (by simp)))⟩
end Go.Proofs.YtpmgepipcmigpaaDoor
