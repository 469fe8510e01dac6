/- Walks of the laws on package civil: multiples, days, the time of a date, the date of a time. -/
import Derived.Test.YtpmgepipcmigpaaDoorCivH
set_option linter.unusedSimpArgs false
set_option linter.unusedVariables false
namespace Go.Proofs.YtpmgepipcmigpaaDoor
open Go.ChangeShapes Go.WideShapes Go.ChangeAt Go.RowKit Go.Civ Go.Base

theorem law_floors (t s : Int) (w : World) (tab : Tab w) (ht : -9223372036854775808 ≤ t) (ht' : t ≤ 9223372036854775807) (hs' : s ≤ 9223372036854775807) :
    Calls Tryd.prog 6 #[.int .i64 t, .int .i64 s] w fun e w' => e = .returned (.bool true) ∧ Below w.heap.size w w' := by
  have HT := Lib.hid tab
  clear tab
  go_enter Tryd.func6, Tryd.ntmps6
  go_wp2_with fail
  refine (lives_any _ HT.out).mono ?_
  rintro e w1 ⟨rfl, hb1⟩
  go_wp2_with fail
  refine (floor_any _ _ _ ht ht' hs').mono ?_
  rintro e w2 ⟨rfl, rfl⟩
  go_wp2_with fail
  refine (refFloor_any _ _ _ ht ht' hs').mono ?_
  rintro e w2 ⟨rfl, rfl⟩
  go_wp2_with fail
  go_ret
  exact ⟨by simp, by go_grown⟩

theorem law_days (y m d : Int) (w : World) (tab : Tab w) (hd : -9223372036854775808 ≤ d) (hd' : d ≤ 9223372036854775807) :
    Calls Tryd.prog 3 #[.int .i64 y, .int .i64 m, .int .i64 d] w fun e w' => e = .returned (.bool true) ∧ Below w.heap.size w w' := by
  have HT : Hid (∀ w1, Below w.heap.size w w1 → Tab w1) := Lib.hid (fun w1 h => tab.later h)
  have HT0 := Lib.hid tab
  clear tab
  by_cases ho : okd y m d
  all_goals
    have HO := Lib.hid ho
    clear ho
    go_enter Tryd.func3, Tryd.ntmps3
    go_wp2_with fail
    first | refine (number_ok _ _ _ _ HT0.out HO.out).mono ?_ | refine (number_no _ _ _ _ HT0.out HO.out).mono ?_
    rintro e w1 ⟨rfl, rfl⟩
    go_wp2_with fail
    first | refine (refNumber_ok _ _ _ _ HO.out).mono ?_ | refine (refNumber_no _ _ _ _ HO.out).mono ?_
    rintro e w1 ⟨rfl, rfl⟩
    go_wp2_with fail
    refine (lives_any _ HT0.out).mono ?_
    rintro e w1 ⟨rfl, hb1⟩
    go_wp2_with fail
    refine (leap_any _ _).mono ?_
    rintro e w2 ⟨rfl, rfl⟩
    go_wp2_with fail
    refine (refLeap_any _ _).mono ?_
    rintro e w2 ⟨rfl, rfl⟩
    go_wp2_with fail
    refine (length_any _ _ _ (HT.out _ hb1)).mono ?_
    rintro e w2 ⟨rfl, rfl⟩
    go_wp2_with fail
    refine (refLength_any _ _ _).mono ?_
    rintro e w2 ⟨rfl, rfl⟩
    go_wp2_with fail
    refine (weekday_any _ _ hd hd').mono ?_
    rintro e w2 ⟨rfl, rfl⟩
    go_wp2_with fail
    refine (refWeekday_any _ _ hd hd').mono ?_
    rintro e w2 ⟨rfl, rfl⟩
    go_wp2_with fail
    go_ret
    exact ⟨by simp, by go_grown⟩

theorem law_at (y m d h mi s x : Int) (w : World) (tab : Tab w) :
    Calls Tryd.prog 4 #[.agg #[.int .i64 y, .int .i64 m, .int .i64 d, .int .i64 h, .int .i64 mi, .int .i64 s, .int .i64 x]] w fun e w' => e = .returned (.bool true) ∧ Below w.heap.size w w' := by
  have HT : Hid (∀ w1, Below w.heap.size w w1 → Tab w1) := Lib.hid (fun w1 h => tab.later h)
  clear tab
  by_cases ho : okd y m d ∧ okc h mi s
  all_goals
    have HO := Lib.hid ho
    clear ho
    go_enter Tryd.func4, Tryd.ntmps4
    go_wp2_with fail
    first | refine (atTime_ok _ _ _ _ _ _ _ _ (HT.out _ ?hb) HO.out.1 HO.out.2).mono ?_ | refine (atTime_no _ _ _ _ _ _ _ _ (HT.out _ ?hb) HO.out).mono ?_
    case hb => go_grown
    rintro e w1 ⟨rfl, hb1⟩
    have z1 := hb1.size
    simp at z1
    obtain ⟨c1, _⟩ := cells_of_heap (kept_new hb1)
    go_wp2_with fail
    clear c1
    first | refine (refAt_ok _ _ _ _ _ _ _ _ HO.out.1 HO.out.2).mono ?_ | refine (refAt_no _ _ _ _ _ _ _ _ HO.out).mono ?_
    rintro e w2 ⟨rfl, hb2⟩
    have z2 := hb2.size
    have HB : Hid (Below w.heap.size w w2) := Lib.hid (((below_alloc w _).trans (hb1.mono (by simp))).trans (hb2.mono (by omega)))
    clear hb1 hb2
    go_wp2_with fail
    refine (lives_any _ (HT.out _ HB.out)).mono ?_
    rintro e w3 ⟨rfl, hb3⟩
    have HB3 : Hid (Below w.heap.size w w3) := Lib.hid (HB.out.trans (hb3.mono (by omega)))
    clear hb3
    go_wp2_with fail
    go_ret
    exact ⟨by simp, HB3.out⟩
end Go.Proofs.YtpmgepipcmigpaaDoor
