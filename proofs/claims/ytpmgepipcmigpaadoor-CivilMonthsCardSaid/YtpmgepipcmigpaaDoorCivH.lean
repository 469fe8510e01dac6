/- Walks of the laws on package civil: what must come of every program; multiples; days. -/
import Derived.Test.YtpmgepipcmigpaaDoorCivG
set_option linter.unusedSimpArgs false
set_option linter.unusedVariables false
namespace Go.Proofs.YtpmgepipcmigpaaDoor
open Go.ChangeShapes Go.WideShapes Go.ChangeAt Go.RowKit Go.Civ Go.Base

theorem of_feb (w : World) (ht : Tab w) :
    Calls Tryd.prog 22 #[.int .i64 951782400] w fun e w' => e = .returned (.tuple #[.agg #[.int .i64 2000, .int .i64 2, .int .i64 29, .int .i64 0, .int .i64 0, .int .i64 0, .int .i64 2], .int .i64 0]) ∧ Below w.heap.size w w' := by
  have h : At 951782400 11016 2000 1 0 := ⟨by decide, by decide, by decide, by decide, by decide, by decide, by decide, by decide, by decide, by decide⟩
  have := of_at _ _ _ _ _ w ht h
  have e1 : (11016 : Int) + 719162 - ah 2000 - cum 2000 1 + 1 = 29 := by decide
  have e2 : wd 11016 = 2 := by decide
  rw [e1, e2] at this
  exact this
theorem number_first (w : World) (ht : Tab w) :
    Calls Tryd.prog 11 #[.int .i64 1970, .int .i64 1, .int .i64 1] w fun e w' => e = .returned (.tuple #[.int .i64 0, .int .i64 0]) ∧ w = w' := by
  have := number_ok 1970 1 1 w ht ⟨by decide, by decide, by decide, by decide, by decide, by decide⟩
  rw [show num 1970 1 1 = 0 by decide] at this
  exact this
theorem number_none (w : World) (ht : Tab w) :
    Calls Tryd.prog 11 #[.int .i64 1900, .int .i64 2, .int .i64 29] w fun e w' => e = .returned (.tuple #[.int .i64 0, .int .i64 10]) ∧ w = w' :=
  number_no 1900 2 29 w ht (by unfold okd; decide)
theorem leap_2000 (w : World) : Calls Tryd.prog 14 #[.int .i64 2000] w fun e w' => e = .returned (.bool true) ∧ w = w' := by
  have := leap_any 2000 w
  rw [show lp 2000 = true by decide] at this
  exact this
theorem length_2000 (w : World) (ht : Tab w) : Calls Tryd.prog 16 #[.int .i64 2000, .int .i64 2] w fun e w' => e = .returned (.int .i64 29) ∧ w = w' := by
  have := length_any 2000 2 w ht
  rw [show len 2000 2 = 29 by decide] at this
  exact this

/-- WHAT MUST COME OF EVERY PROGRAM. -/
theorem lives_any (w : World) (ht : Tab w) :
    Calls Tryd.prog 13 #[] w fun e w' => e = .returned (.bool true) ∧ Below w.heap.size w w' := by
  have HT : Hid (∀ w1, Below w.heap.size w w1 → Tab w1) := Lib.hid (fun w1 h => ht.later h)
  have HT0 := Lib.hid ht
  clear ht
  go_enter Tryd.func13, Tryd.ntmps13
  go_wp2_with fail
  refine (of_feb _ HT0.out).mono ?_
  rintro e w1 ⟨rfl, hb1⟩
  have z1 := hb1.size
  go_wp2_with fail
  refine (number_first _ (HT.out _ ?hb)).mono ?_
  case hb => go_grown
  rintro e w2 ⟨rfl, rfl⟩
  go_wp2_with fail
  refine (number_none _ (HT.out _ ?hb)).mono ?_
  case hb => go_grown
  rintro e w2 ⟨rfl, rfl⟩
  go_wp2_with fail
  refine (leap_2000 _).mono ?_
  rintro e w2 ⟨rfl, rfl⟩
  go_wp2_with fail
  refine (length_2000 _ (HT.out _ ?hb)).mono ?_
  case hb => go_grown
  rintro e w2 ⟨rfl, rfl⟩
  go_wp2_with fail
  go_ret
  exact ⟨rfl, by go_grown⟩
end Go.Proofs.YtpmgepipcmigpaaDoor
