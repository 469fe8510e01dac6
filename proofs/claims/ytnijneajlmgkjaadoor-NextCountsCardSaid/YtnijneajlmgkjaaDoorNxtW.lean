/- The law's own look at next: the 29th of February. -/
import Derived.Test.YtnijneajlmgkjaaDoorNxtV
set_option linter.unusedSimpArgs false
set_option linter.unusedVariables false
namespace Go.Proofs.YtnijneajlmgkjaaDoor
open Go.ChangeShapes Go.WideShapes Go.ChangeAt Go.RowKit Go.Base Go.Civ Go.Nxt Go.Cro

theorem leapSpec_any (w : World) : Calls Tryd.prog 24 #[] w fun e w' => e = .returned (spV leapS) ∧ Below w.heap.size w w' := by
  unfold leapS
  go_enter Tryd.func24, Tryd.ntmps24
  go_wp2
  have hg := heap_new w (.cells (specC 1 1 536870912 4 127 false true) 24)
  refine bodyPost_ret (results_cell_row rfl _ _ w.heap.size 24 _ (0, 0) _ rfl hg Tryd.underlying24 rfl (by kernel_rfl)) rfl ?_
  exact ⟨rfl, below_alloc w _⟩
theorem fstV_head {L : List Int} {x : Int} (h : L.head? = some x) : fstV L = .tuple #[.int .i64 x, .int .i64 0] := by
  cases L with
  | nil => cases h
  | cons a L => simp at h; subst h; rfl
theorem leap_under : Under 1 24 ∧ Under 1 60 := may_under leap_ok leap_may rfl rfl
theorem leap_after (w : World) (hv : Vars w) : Calls Tryd.prog 9 #[spV leapS, .int .i64 1709251200] w fun e w' => e = .returned (.tuple #[.int .i64 1835395200, .int .i64 0]) ∧ Below w.heap.size w w' := by
  obtain ⟨L, hr, hc⟩ := after_any leapS leap_ok 1 1 rfl rfl leap_under.1 leap_under.2 leap_may 1709251200 (by omega) (by omega)
  have hAt : At 1709251260 19783 2024 2 60 := ⟨by decide, by decide, by decide, by decide, by decide, by decide, by decide, by decide, by decide, by decide⟩
  have e1 : fl 1709251200 60 + 60 = 1709251260 := by decide
  rw [e1] at hr
  have hr2 : Run true leapS 1 1 1709251260 (momL true leapS 1 1 24290 1 1709251200 0 1) := by
    have h1 := fun x => momL_mem (d := true) (s := leapS) leap_under.1 leap_under.2 hAt (by decide) (dd := 1) (by decide) (hh := 0) (by decide) (mm := 1) (by decide) x
    rw [show (2024 : Int) * 12 + (((2 : Nat) : Int) + 1) - 1 = 24290 by decide, show fl 1709251260 86400 = 1709251200 by decide] at h1
    exact ⟨momL_sorted leap_under.1 leap_under.2 _ _ _ _ _ (by decide), h1⟩
  have h := hc w hv
  rw [hr.unique hr2, fstV_head leap_up] at h
  exact h
theorem leap_before (w : World) (hv : Vars w) : Calls Tryd.prog 18 #[spV leapS, .int .i64 1709251200] w fun e w' => e = .returned (.tuple #[.int .i64 1709164800, .int .i64 0]) ∧ Below w.heap.size w w' := by
  obtain ⟨L, hr, hc⟩ := before_any leapS leap_ok 1 1 rfl rfl leap_under.1 leap_under.2 leap_may 1709251200 (by omega) (by omega)
  have hAt : At 1709251140 19782 2024 1 86340 := ⟨by decide, by decide, by decide, by decide, by decide, by decide, by decide, by decide, by decide, by decide⟩
  have e1 : fl (1709251200 - 1) 60 = 1709251140 := by decide
  rw [e1] at hr
  have hr2 : Run false leapS 1 1 1709251140 (momL false leapS 1 1 24289 29 1709164800 23 59) := by
    have h1 := fun x => momL_mem (d := false) (s := leapS) leap_under.1 leap_under.2 hAt (by decide) (dd := 29) (by decide) (hh := 23) (by decide) (mm := 59) (by decide) x
    rw [show (2024 : Int) * 12 + (((1 : Nat) : Int) + 1) - 1 = 24289 by decide, show fl 1709251140 86400 = 1709164800 by decide] at h1
    exact ⟨momL_sorted leap_under.1 leap_under.2 _ _ _ _ _ (by decide), h1⟩
  have h := hc w hv
  rw [hr.unique hr2, fstV_head leap_down] at h
  exact h
theorem leap_cnt (w : World) (hv : Vars w) : Calls Tryd.prog 12 #[spV leapS, .int .i64 0, .int .i64 1709251200] w fun e w' => e = .returned (.int .i64 14) ∧ Below w.heap.size w w' := by
  have A1 : At (bndB 0) 0 1970 0 0 := ⟨by decide, by decide, by decide, by decide, by decide, by decide, by decide, by decide, by decide, by decide⟩
  have A2 : At (bndB 1709251200) 19783 (1970 + ((54 : Nat) : Int)) 2 0 := ⟨by decide, by decide, by decide, by decide, by decide, by decide, by decide, by decide, by decide, by decide⟩
  have h := count_ok leapS leap_ok leap_may 1 1 rfl rfl (by decide) (by decide) 0 1709251200 (by decide) 0 1970 0 1 0 0 0 A1 (by decide) (by decide) (by decide) 19783 54 2 1 0 0 0 A2 (by decide) (by decide) (by decide) w hv
  have e : countR leapS 1 1 1970 0 1 0 0 (0 % 60) 54 (1970 + ((54 : Nat) : Int)) 2 1 0 0 (0 % 60) = 14 := leap_count
  rw [e] at h
  exact h
theorem leap_dys (w : World) (hv : Vars w) : Calls Tryd.prog 14 #[spV leapS, .int .i64 2024] w fun e w' => e = .returned (.int .i64 1) ∧ Below w.heap.size w w' := by
  have h := nxtDays_any leapS leap_ok 2024 w hv
  rw [leap_days] at h
  exact h

set_option maxHeartbeats 1000000 in
theorem lives_any (w : World) (hv : Vars w) : Calls Tryd.prog 10 #[] w fun e w' => e = .returned (.bool true) ∧ Below w.heap.size w w' := by
  have HV := Lib.hid (fun (w' : World) (hb : Below w.heap.size w w') => hv.later hb)
  have H0 := Lib.hid (Below.refl w.heap.size w)
  clear hv
  have t1 : True := trivial
  have t2 : True := trivial
  have t3 : True := trivial
  go_enter Tryd.func10, Tryd.ntmps10
  go_wp2_with (first
    | (clear t1; go_at_call 24; refine (leapSpec_any _).mono ?_; rintro e w1 ⟨rfl, hb1⟩; have HB1 := Lib.hid hb1; clear hb1)
    | (go_at_call 9; refine (leap_after _ (HV.out _ HB1.out)).mono ?_; rintro e w2 ⟨rfl, hb2⟩; have HB2 := Lib.hid (HB1.out.trans (hb2.mono HB1.out.size)); clear hb2)
    | (clear t2; go_at_call 24; refine (leapSpec_any _).mono ?_; rintro e w3 ⟨rfl, hb3⟩; have HB3 := Lib.hid (HB2.out.trans (hb3.mono HB2.out.size)); clear hb3)
    | (go_at_call 18; refine (leap_before _ (HV.out _ HB3.out)).mono ?_; rintro e w4 ⟨rfl, hb4⟩; have HB4 := Lib.hid (HB3.out.trans (hb4.mono HB3.out.size)); clear hb4)
    | (clear t3; go_at_call 24; refine (leapSpec_any _).mono ?_; rintro e w5 ⟨rfl, hb5⟩; have HB5 := Lib.hid (HB4.out.trans (hb5.mono HB4.out.size)); clear hb5)
    | (go_at_call 12; refine (leap_cnt _ (HV.out _ HB5.out)).mono ?_; rintro e w6 ⟨rfl, hb6⟩; have HB6 := Lib.hid (HB5.out.trans (hb6.mono HB5.out.size)); clear hb6)
    | (go_at_call 24; refine (leapSpec_any _).mono ?_; rintro e w7 ⟨rfl, hb7⟩; have HB7 := Lib.hid (HB6.out.trans (hb7.mono HB6.out.size)); clear hb7)
    | (go_at_call 14; refine (leap_dys _ (HV.out _ HB7.out)).mono ?_; rintro e w8 ⟨rfl, hb8⟩; have HB8 := Lib.hid (HB7.out.trans (hb8.mono HB7.out.size)); clear hb8))
  go_ret
  exact ⟨rfl, HB8.out⟩
end Go.Proofs.YtnijneajlmgkjaaDoor
