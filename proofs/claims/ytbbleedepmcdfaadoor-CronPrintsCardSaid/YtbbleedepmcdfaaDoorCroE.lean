/- Walks of package cron: the values of an item; all values of a field. -/
import Derived.Test.YtbbleedepmcdfaaDoorCroD
set_option linter.unusedSimpArgs false
set_option linter.unusedVariables false
namespace Go.Proofs.YtbbleedepmcdfaaDoor
open Go.ChangeShapes Go.WideShapes Go.ChangeAt Go.RowKit Go.Base Go.Cro

theorem size_drewN (w : World) (n : Nat) : (w.drewN n).heap.size = w.heap.size := rfl

structure ScOk (s : Sc) : Prop where
  l0 : 0 ≤ s.least
  l1 : s.least ≤ 1
  m0 : 1 ≤ s.most
  m1 : s.most ≤ 59
  d1 : s.said ≤ 59
theorem scOk (k : Nat) : ScOk (scB k) := by
  unfold scB; split <;> exact ⟨by decide, by decide, by decide, by decide, by decide⟩

set_option maxHeartbeats 400000 in
theorem itVals_any (it : It) (s : Sc) (w : World) (hs : ScOk s) (hw : withinB it s = true) (h1 : 0 ≤ it.step) (h2 : it.step ≤ 99) :
    Calls Tryd.prog 43 #[itV it, scV s] w fun e w' => e = .returned (.int .u64 (itValsB it s)) ∧ Below w.heap.size w w' := by
  obtain ⟨star, first, last, alone, step, stepped⟩ := it
  obtain ⟨s0, s1, s2, s3, s4⟩ := hs
  simp only at h1 h2
  have hst : 1 ≤ step := by
    by_cases h : step = 0
    · subst h; simp [withinB] at hw
    · omega
  have hin : star = true ∨ (s.least ≤ first ∧ last ≤ s.said ∧ first ≤ last) := by
    simp only [withinB, Bool.and_eq_true, Bool.or_eq_true, decide_eq_true_eq] at hw
    rcases hw.2 with h | h
    · exact .inl h
    · exact .inr ⟨h.1.1, h.1.2, h.2⟩
  clear hw
  simp only [itV, scV]
  have hV := fun a b w x y z => values_any s a b step w x y hst h2 s0 s1 s3 (by omega) z
  have HV := Lib.hid hV
  clear hV
  cases star
  · obtain ⟨i1, i2, i3⟩ : s.least ≤ first ∧ last ≤ s.said ∧ first ≤ last := by simpa using hin
    clear hin
    cases alone
    · have H : Hid (itValsB ⟨false, first, last, false, step, stepped⟩ s = valsB s first last step) := Lib.hid (by simp [itValsB])
      rw [H.out]
      go_enter Tryd.func43, Tryd.ntmps43
      go_wp2_with fail
      go_quiet (fail)
      go_wp2_with (go_at_call 47; refine (HV.out _ _ _ (by omega) (by omega) (by omega)).mono ?_; rintro e w' ⟨rfl, hb⟩)
      go_ret
      exact ⟨rfl, (below_drewN (((below_alloc w _).alloc (by simp) _)) _).trans (hb.mono (by simp; omega))⟩
    · cases stepped
      · have H : Hid (itValsB ⟨false, first, last, true, step, false⟩ s = valsB s first last step) := Lib.hid (by simp [itValsB])
        rw [H.out]
        go_enter Tryd.func43, Tryd.ntmps43
        go_wp2_with fail
        go_quiet (fail)
        go_wp2_with (go_at_call 47; refine (HV.out _ _ _ (by omega) (by omega) (by omega)).mono ?_; rintro e w' ⟨rfl, hb⟩)
        go_ret
        exact ⟨rfl, (below_drewN (((below_alloc w _).alloc (by simp) _)) _).trans (hb.mono (by simp; omega))⟩
      · have H : Hid (itValsB ⟨false, first, last, true, step, true⟩ s = valsB s first (max first s.most) step) := Lib.hid (by simp [itValsB])
        rw [H.out]
        go_enter Tryd.func43, Tryd.ntmps43
        go_wp2_with fail
        go_quiet (fail)
        go_wp2_with (go_at_call 47; refine (HV.out _ _ _ (by omega) (by omega) (by omega)).mono ?_; rintro e w' ⟨rfl, hb⟩)
        go_ret
        exact ⟨rfl, (below_drewN (((below_alloc w _).alloc (by simp) _)) _).trans (hb.mono (by simp; omega))⟩
  · have H : Hid (itValsB ⟨true, first, last, alone, step, stepped⟩ s = valsB s s.least s.most step) := Lib.hid (by simp [itValsB])
    rw [H.out]
    clear hin
    go_enter Tryd.func43, Tryd.ntmps43
    go_wp2_with fail
    go_quiet (fail)
    go_wp2_with fail
    go_quiet (fail)
    cases alone
    all_goals
      go_wp2_with (go_at_call 47; refine (HV.out _ _ _ (by omega) (by omega) (by omega)).mono ?_; rintro e w' ⟨rfl, hb⟩)
      go_ret
      exact ⟨rfl, (below_drewN (((below_alloc w _).alloc (by simp) _)) _).trans (hb.mono (by simp; omega))⟩
end Go.Proofs.YtbbleedepmcdfaaDoor
