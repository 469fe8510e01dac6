/- Walks of the laws on package civil: the date of a time; years; months; weeks. -/
import Derived.Test.YtpmgepipcmigpaaDoorCivI
set_option linter.unusedSimpArgs false
set_option linter.unusedVariables false
namespace Go.Proofs.YtpmgepipcmigpaaDoor
open Go.ChangeShapes Go.WideShapes Go.ChangeAt Go.RowKit Go.Civ Go.Base

theorem At.okd {t n y : Int} {k : Nat} {s : Int} (h : At t n y k s) : okd y ((k : Int) + 1) (n + 719162 - ah y - cum y k + 1) := by
  obtain ⟨lo, hi, day, s0, s1, y0, y1, k1, dlo, dhi⟩ := h
  have : cum y (k + 1) = cum y k + len y ((k : Int) + 1) := rfl
  unfold Civ.okd; omega
theorem At.okc {t n y : Int} {k : Nat} {s : Int} (h : At t n y k s) : okc (s / 3600) (s % 3600 / 60) (s % 60) := by
  obtain ⟨lo, hi, day, s0, s1, y0, y1, k1, dlo, dhi⟩ := h
  unfold Proofs.YtpmgepipcmigpaaDoor.okc; omega
theorem At.num {t n y : Int} {k : Nat} {s : Int} (h : At t n y k s) : num y ((k : Int) + 1) (n + 719162 - ah y - cum y k + 1) = n := by
  unfold Civ.num; rw [show ((k : Int) + 1 - 1).toNat = k by omega]; omega
theorem At.back {t n y : Int} {k : Nat} {s : Int} (h : At t n y k s) : n * 86400 + s / 3600 * 3600 + s % 3600 / 60 * 60 + s % 60 = t := by
  obtain ⟨lo, hi, day, s0, s1, y0, y1, k1, dlo, dhi⟩ := h
  omega

theorem law_of_no (t : Int) (w : World) (tab : Tab w) (h : t < -62135596800 ∨ 253402300799 < t) :
    Calls Tryd.prog 5 #[.int .i64 t] w fun e w' => e = .returned (.bool true) ∧ Below w.heap.size w w' := by
  have HT : Hid (∀ w1, Below w.heap.size w w1 → Tab w1) := Lib.hid (fun w1 h => tab.later h)
  have HH := Lib.hid h
  clear tab h
  go_enter Tryd.func5, Tryd.ntmps5
  go_wp2_with fail
  refine (of_no _ _ HH.out).mono ?_
  rintro e w1 ⟨rfl, hb1⟩
  have z1 := hb1.size
  go_wp2_with fail
  refine (refOf_no _ _ HH.out).mono ?_
  rintro e w2 ⟨rfl, hb2⟩
  have z2 := hb2.size
  simp at z2
  have HR1 := Lib.hid (kept_new hb2)
  have HB2 : Hid (Below w.heap.size w w2) := Lib.hid ((hb1.trans ((below_alloc w1 _).mono z1)).trans (hb2.mono (by simp; omega)))
  clear hb1 hb2
  go_wp2_with fail
  refine (lives_any _ (HT.out _ ?hb)).mono ?_
  case hb => exact HB2.out.trans ((below_alloc w2 _).mono (by omega))
  rintro e w3 ⟨rfl, hb3⟩
  obtain ⟨c2, _⟩ := cells_of_heap (kept_new hb3)
  obtain ⟨c1, _⟩ := cells_of_heap ((hb3.block w1.heap.size (by simp; omega)).trans (heap_old _ (by omega) HR1.out))
  have HB3 : Hid (Below w.heap.size w w3) := Lib.hid ((HB2.out.trans ((below_alloc w2 _).mono (by omega))).trans (hb3.mono (by simp; omega)))
  clear hb3
  go_wp2_with fail
  go_ret
  exact ⟨by simp, HB3.out⟩

set_option maxHeartbeats 1000000 in
theorem law_of_at (t n y : Int) (k : Nat) (s : Int) (w : World) (tab : Tab w) (h : At t n y k s) :
    Calls Tryd.prog 5 #[.int .i64 t] w fun e w' => e = .returned (.bool true) ∧ Below w.heap.size w w' := by
  have HT : Hid (∀ w1, Below w.heap.size w w1 → Tab w1) := Lib.hid (fun w1 h => tab.later h)
  have HT0 := Lib.hid tab
  have HH := Lib.hid h
  clear tab h
  go_enter Tryd.func5, Tryd.ntmps5
  go_wp2_with fail
  refine (of_at _ _ _ _ _ _ HT0.out HH.out).mono ?_
  rintro e w1 ⟨rfl, hb1⟩
  have z1 := hb1.size
  go_wp2_with fail
  refine (refOf_at _ _ _ _ _ _ HH.out).mono ?_
  rintro e w2 ⟨rfl, hb2⟩
  have z2 := hb2.size
  simp at z2
  have HR1 := Lib.hid (kept_new hb2)
  have HB2 : Hid (Below w.heap.size w w2) := Lib.hid ((hb1.trans ((below_alloc w1 _).mono z1)).trans (hb2.mono (by simp; omega)))
  clear hb1 hb2
  go_wp2_with fail
  refine (lives_any _ (HT.out _ ?hb)).mono ?_
  case hb => exact HB2.out.trans ((below_alloc w2 _).mono (by omega))
  rintro e w3 ⟨rfl, hb3⟩
  have z3 := hb3.size
  simp at z3
  obtain ⟨c2, _⟩ := cells_of_heap (kept_new hb3)
  obtain ⟨c1, _⟩ := cells_of_heap ((hb3.block w1.heap.size (by simp; omega)).trans (heap_old _ (by omega) HR1.out))
  have HB3 : Hid (Below w.heap.size w w3) := Lib.hid ((HB2.out.trans ((below_alloc w2 _).mono (by omega))).trans (hb3.mono (by simp; omega)))
  clear hb3
  go_wp2_with fail
  clear c1 c2
  refine (atTime_ok _ _ _ _ _ _ _ _ (HT.out _ HB3.out) HH.out.okd HH.out.okc).mono ?_
  rintro e w4 ⟨rfl, hb4⟩
  rw [HH.out.num, HH.out.back]
  have HB4 : Hid (Below w.heap.size w w4) := Lib.hid (HB3.out.trans (hb4.mono (by omega)))
  clear hb4
  go_wp2_with fail
  go_ret
  exact ⟨by simp, HB4.out⟩

theorem law_of (t : Int) (w : World) (tab : Tab w) :
    Calls Tryd.prog 5 #[.int .i64 t] w fun e w' => e = .returned (.bool true) ∧ Below w.heap.size w w' := by
  by_cases h : t < -62135596800 ∨ 253402300799 < t
  · exact law_of_no t w tab h
  · obtain ⟨n, y, k, s, H⟩ := at_of t (by omega) (by omega)
    exact law_of_at t n y k s w tab H
end Go.Proofs.YtpmgepipcmigpaaDoor
