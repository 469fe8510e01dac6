/- Walks of package civil and of its answers by definition: multiples below a time. -/
import Derived.Test.YtpmgepipcmigpaaDoorCivC
set_option linter.unusedSimpArgs false
set_option linter.unusedVariables false
namespace Go.Proofs.YtpmgepipcmigpaaDoor
open Go.ChangeShapes Go.WideShapes Go.ChangeAt Go.RowKit Go.Civ Go.Base

theorem emod_neg (t s : Int) (hs : 1 ≤ s) (ht : t < 0) : -s < t.tmod s ∧ t.tmod s ≤ 0 ∧ (t.tmod s = 0 → t % s = 0) ∧ (t.tmod s < 0 → t % s = t.tmod s + s) := by
  have e := Int.tmod_eq_emod (a := t) (b := s)
  have a := Int.emod_nonneg t (show s ≠ 0 by omega)
  have b := Int.emod_lt_of_pos t (show 0 < s by omega)
  by_cases h0 : 0 ≤ t ∨ s ∣ t
  · rw [if_pos h0] at e
    rcases h0 with h0 | h0
    · omega
    · have := Int.emod_eq_zero_of_dvd h0; omega
  · rw [if_neg h0] at e
    have : (s.natAbs : Int) = s := by omega
    have : t % s ≠ 0 := fun h => h0 (.inr (Int.dvd_of_emod_eq_zero h))
    omega

theorem emod_le (t s : Int) (hs : 1 ≤ s) (ht : 0 ≤ t) : t % s ≤ t := by
  have a := Int.mul_ediv_add_emod t s
  have b := Int.mul_nonneg (show 0 ≤ s by omega) (Int.ediv_nonneg ht (show 0 ≤ s by omega))
  omega

theorem floor_any (t s : Int) (w : World) (ht : -9223372036854775808 ≤ t) (ht' : t ≤ 9223372036854775807) (hs' : s ≤ 9223372036854775807) :
    Calls Tryd.prog 24 #[.int .i64 t, .int .i64 s] w fun e w' => e = .returned (.int .i64 (fl t s)) ∧ w = w' := by
  by_cases hs : s < 1
  · have H : Hid (fl t s = t) := Lib.hid (by unfold fl; rw [if_pos hs])
    go_enter Tryd.func24, Tryd.ntmps24
    go_wp2
    go_ret
    exact ⟨ret_int H.out.symm, rfl⟩
  have hs1 : 1 ≤ s := by omega
  by_cases h0 : 0 ≤ t
  · have a := Int.emod_nonneg t (show s ≠ 0 by omega)
    have b := emod_le t s hs1 h0
    have H : Hid (fl t s = t - t % s) := Lib.hid (by unfold fl; rw [if_neg hs, if_neg (by omega)])
    go_enter Tryd.func24, Tryd.ntmps24
    go_wp2
    go_ret
    exact ⟨ret_int H.out.symm, rfl⟩
  obtain ⟨b1, b2, b3, b4⟩ := emod_neg t s hs1 (by omega)
  by_cases hq : t.tmod s = 0
  · have H : Hid (fl t s = t) := Lib.hid (by unfold fl; rw [if_neg hs, b3 hq, if_neg (by omega)]; omega)
    clear b3 b4
    go_enter Tryd.func24, Tryd.ntmps24
    go_wp2
    go_ret
    exact ⟨ret_int (by rw [H.out]; try omega), rfl⟩
  have hq' : t.tmod s < 0 := by omega
  have e := b4 hq'
  clear b3 b4
  by_cases hf : t - (t.tmod s + s) < -9223372036854775808
  · have H : Hid (fl t s = t) := Lib.hid (by unfold fl; rw [if_neg hs, e, if_pos hf])
    have hw : t < wrap64 (t - (t.tmod s + s)) := by simp only [wrap64]; omega
    clear e
    go_enter Tryd.func24, Tryd.ntmps24
    go_wp2
    go_ret
    exact ⟨ret_int H.out.symm, rfl⟩
  · have H : Hid (fl t s = t - (t.tmod s + s)) := Lib.hid (by unfold fl; rw [if_neg hs, e, if_neg hf])
    clear e
    go_enter Tryd.func24, Tryd.ntmps24
    go_wp2
    go_ret
    exact ⟨ret_int H.out.symm, rfl⟩
theorem refFloor_any (t s : Int) (w : World) (ht : -9223372036854775808 ≤ t) (ht' : t ≤ 9223372036854775807) (hs' : s ≤ 9223372036854775807) :
    Calls Tryd.prog 25 #[.int .i64 t, .int .i64 s] w fun e w' => e = .returned (.int .i64 (fl t s)) ∧ w = w' := by
  by_cases hs : s < 1
  · have H : Hid (fl t s = t) := Lib.hid (by unfold fl; rw [if_pos hs])
    go_enter Tryd.func25, Tryd.ntmps25
    go_wp2
    go_ret
    exact ⟨ret_int H.out.symm, rfl⟩
  have hs1 : 1 ≤ s := by omega
  by_cases h0 : 0 ≤ t
  · have a := Int.emod_nonneg t (show s ≠ 0 by omega)
    have b := emod_le t s hs1 h0
    have H : Hid (fl t s = t - t % s) := Lib.hid (by unfold fl; rw [if_neg hs, if_neg (by omega)])
    go_enter Tryd.func25, Tryd.ntmps25
    go_wp2
    go_ret
    exact ⟨ret_int H.out.symm, rfl⟩
  obtain ⟨b1, b2, b3, b4⟩ := emod_neg t s hs1 (by omega)
  by_cases hq : t.tmod s = 0
  · have H : Hid (fl t s = t) := Lib.hid (by unfold fl; rw [if_neg hs, b3 hq, if_neg (by omega)]; omega)
    clear b3 b4
    go_enter Tryd.func25, Tryd.ntmps25
    go_wp2
    go_ret
    exact ⟨ret_int (by rw [H.out]; try omega), rfl⟩
  have hq' : t.tmod s < 0 := by omega
  have e := b4 hq'
  clear b3 b4
  by_cases hf : t - (t.tmod s + s) < -9223372036854775808
  · have H : Hid (fl t s = t) := Lib.hid (by unfold fl; rw [if_neg hs, e, if_pos hf])
    have hw : t < -9223372036854775808 + (t.tmod s + s) := by omega
    clear e
    go_enter Tryd.func25, Tryd.ntmps25
    go_wp2
    go_ret
    exact ⟨ret_int H.out.symm, rfl⟩
  · have H : Hid (fl t s = t - (t.tmod s + s)) := Lib.hid (by unfold fl; rw [if_neg hs, e, if_neg hf])
    have hw : ¬ t < -9223372036854775808 + (t.tmod s + s) := by omega
    clear e
    go_enter Tryd.func25, Tryd.ntmps25
    go_wp2
    go_ret
    exact ⟨ret_int H.out.symm, rfl⟩
end Go.Proofs.YtpmgepipcmigpaaDoor
