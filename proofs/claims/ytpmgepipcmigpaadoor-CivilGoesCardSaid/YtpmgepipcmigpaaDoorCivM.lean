/- Walk of the law on package civil that dates go on: the next second, the next day. -/
import Derived.Test.YtpmgepipcmigpaaDoorCivL
import Derived.WalkSmall
set_option linter.unusedSimpArgs false
set_option linter.unusedVariables false
namespace Go.Proofs.YtpmgepipcmigpaaDoor
open Go.ChangeShapes Go.WideShapes Go.ChangeAt Go.RowKit Go.Civ Go.Base

set_option maxRecDepth 100000 in
theorem law_goes_no (t : Int) (w : World) (tab : Tab w) (h : t < -62135596800 ∨ 253402214399 ≤ t) :
    Calls Tryd.prog 7 #[.int .i64 t] w fun e w' => e = .returned (.bool true) ∧ Below w.heap.size w w' := by
  have HT0 := Lib.hid tab
  clear tab
  rcases h with h | h
  all_goals
    go_enter Tryd.func7, Tryd.ntmps7
    go_wp2_with (go_at_call 13; refine (lives_any _ HT0.out).mono ?_; rintro e w1 ⟨rfl, hb1⟩)
    go_ret
    exact ⟨rfl, by go_grown⟩

/-- What a call of Of answers. -/
def OfIs (t a b c d e f g : Int) : Prop := ∀ w, Tab w → Calls Tryd.prog 22 #[.int .i64 t] w fun x w' => x = .returned (.tuple #[.agg #[.int .i64 a, .int .i64 b, .int .i64 c, .int .i64 d, .int .i64 e, .int .i64 f, .int .i64 g], .int .i64 0]) ∧ Below w.heap.size w w'
theorem ofIs {t n y : Int} {k : Nat} {s : Int} (h : At t n y k s) : OfIs t y ((k : Int) + 1) (n + 719162 - ah y - cum y k + 1) (s / 3600) (s % 3600 / 60) (s % 60) (wd n) :=
  fun w ht => of_at t n y k s w ht h
theorem length_quiet (y m : Int) (w : World) (ht : Tab w) :
    Calls Tryd.prog 16 #[.int .i64 y, .int .i64 m] w fun e w' => e = .returned (.int .i64 (len y m)) ∧ w' = w := (length_any y m w ht).mono fun _ _ h => ⟨h.1, h.2.symm⟩

set_option maxRecDepth 100000 in
set_option maxHeartbeats 1000000 in
theorem goes_A (t ay am ad aH aM aS aW cy cm cd yb mb wb : Int) (w : World) (tab : Tab w) (lo : -62135596800 ≤ t) (hi : t < 253402214399)
    (hd : 1 ≤ ad ∧ ad ≤ 31) (hm : 1 ≤ am ∧ am ≤ 12) (hH : 0 ≤ aH ∧ aH ≤ 23) (hM : 0 ≤ aM ∧ aM ≤ 59) (hS : 0 ≤ aS ∧ aS ≤ 59) (hW : 0 ≤ aW ∧ aW ≤ 6) (h : aS < 59)
    (ca : OfIs t (ay) (am) (ad) (aH) (aM) (aS) (aW)) (cb : OfIs (t + 1) (ay) (am) (ad) (aH) (aM) (aS + 1) (aW)) (cc : OfIs (t + 86400) (cy) (cm) (cd) (aH) (aM) (aS) ((aW + 1) % 7)) :
    Calls Tryd.prog 7 #[.int .i64 t] w fun e w' => e = .returned (.bool true) ∧ Below w.heap.size w w' := by
  have HT : Hid (∀ w1, Below w.heap.size w w1 → Tab w1) := Lib.hid (fun w1 h => tab.later h)
  have HT0 := Lib.hid tab
  clear tab
  obtain ⟨hd1, hd2⟩ := hd
  obtain ⟨hm1, hm2⟩ := hm
  obtain ⟨hH1, hH2⟩ := hH
  obtain ⟨hM1, hM2⟩ := hM
  obtain ⟨hS1, hS2⟩ := hS
  obtain ⟨hW1, hW2⟩ := hW
  go_enter Tryd.func7, Tryd.ntmps7
  go_wp2_with fail
  refine (ca _ HT0.out).mono ?_
  rintro e w1 ⟨rfl, hb1⟩
  have z1 := hb1.size
  go_wp2_with fail
  refine (cb _ (HT.out _ ?hb)).mono ?_
  case hb => go_grown
  rintro e w2 ⟨rfl, hb2⟩
  have z2 := hb2.size
  simp at z2
  have HR1 := Lib.hid (kept_new hb2)
  have HB2 : Hid (Below w.heap.size w w2) := Lib.hid ((hb1.trans ((below_alloc w1 _).mono z1)).trans (hb2.mono (by simp; omega)))
  clear hb1 hb2
  go_wp2_with fail
  refine (cc _ (HT.out _ ?hb)).mono ?_
  case hb => exact HB2.out.trans ((below_alloc w2 _).mono (by omega))
  rintro e w3 ⟨rfl, hb3⟩
  have z3 := hb3.size
  simp at z3
  have HR2 := Lib.hid (kept_new hb3)
  have HR12 := Lib.hid ((hb3.block w1.heap.size (by simp; omega)).trans (heap_old _ (by omega) HR1.out))
  have HB3 : Hid (Below w.heap.size w w3) := Lib.hid ((HB2.out.trans ((below_alloc w2 _).mono (by omega))).trans (hb3.mono (by simp; omega)))
  clear hb3 HR1 HB2
  go_wp2_with fail
  refine (lives_any _ (HT.out _ ?hb)).mono ?_
  case hb => exact HB3.out.trans ((below_alloc w3 _).mono (by omega))
  rintro e w4 ⟨rfl, hb4⟩
  have z4 := hb4.size
  simp at z4
  have r3 := kept_new hb4
  have r2 := (hb4.block w2.heap.size (by simp; omega)).trans (heap_old _ (by omega) HR2.out)
  have r1 := (hb4.block w1.heap.size (by simp; omega)).trans (heap_old _ (by omega) HR12.out)
  obtain ⟨c1, f1⟩ := cells_of_heap r1
  obtain ⟨c2, _⟩ := cells_of_heap r2
  obtain ⟨c3, _⟩ := cells_of_heap r3
  have HB4 : Hid (Below w.heap.size w w4) := Lib.hid ((HB3.out.trans ((below_alloc w3 _).mono (by omega))).trans (hb4.mono (by simp; omega)))
  clear r1 r2 r3 hb4 HR2 HR12 HB3
  have n12 : w1.heap.size ≠ w2.heap.size := by omega
  go_wp2_with fail
  go_ret
  exact ⟨ret_bool (by simp), HB4.out.setCell (by simpa using z1) _⟩

set_option maxRecDepth 100000 in
set_option maxHeartbeats 1000000 in
theorem goes_B (t ay am ad aH aM aS aW cy cm cd yb mb wb : Int) (w : World) (tab : Tab w) (lo : -62135596800 ≤ t) (hi : t < 253402214399)
    (hd : 1 ≤ ad ∧ ad ≤ 31) (hm : 1 ≤ am ∧ am ≤ 12) (hH : 0 ≤ aH ∧ aH ≤ 23) (hM : 0 ≤ aM ∧ aM ≤ 59) (hS : 0 ≤ aS ∧ aS ≤ 59) (hW : 0 ≤ aW ∧ aW ≤ 6) (h : aM < 59)
    (ca : OfIs t (ay) (am) (ad) (aH) (aM) (59) (aW)) (cb : OfIs (t + 1) (ay) (am) (ad) (aH) (aM + 1) (0) (aW)) (cc : OfIs (t + 86400) (cy) (cm) (cd) (aH) (aM) (59) ((aW + 1) % 7)) :
    Calls Tryd.prog 7 #[.int .i64 t] w fun e w' => e = .returned (.bool true) ∧ Below w.heap.size w w' := by
  have HT : Hid (∀ w1, Below w.heap.size w w1 → Tab w1) := Lib.hid (fun w1 h => tab.later h)
  have HT0 := Lib.hid tab
  clear tab
  obtain ⟨hd1, hd2⟩ := hd
  obtain ⟨hm1, hm2⟩ := hm
  obtain ⟨hH1, hH2⟩ := hH
  obtain ⟨hM1, hM2⟩ := hM
  obtain ⟨hS1, hS2⟩ := hS
  obtain ⟨hW1, hW2⟩ := hW
  go_enter Tryd.func7, Tryd.ntmps7
  go_wp2_with fail
  refine (ca _ HT0.out).mono ?_
  rintro e w1 ⟨rfl, hb1⟩
  have z1 := hb1.size
  go_wp2_with fail
  refine (cb _ (HT.out _ ?hb)).mono ?_
  case hb => go_grown
  rintro e w2 ⟨rfl, hb2⟩
  have z2 := hb2.size
  simp at z2
  have HR1 := Lib.hid (kept_new hb2)
  have HB2 : Hid (Below w.heap.size w w2) := Lib.hid ((hb1.trans ((below_alloc w1 _).mono z1)).trans (hb2.mono (by simp; omega)))
  clear hb1 hb2
  go_wp2_with fail
  refine (cc _ (HT.out _ ?hb)).mono ?_
  case hb => exact HB2.out.trans ((below_alloc w2 _).mono (by omega))
  rintro e w3 ⟨rfl, hb3⟩
  have z3 := hb3.size
  simp at z3
  have HR2 := Lib.hid (kept_new hb3)
  have HR12 := Lib.hid ((hb3.block w1.heap.size (by simp; omega)).trans (heap_old _ (by omega) HR1.out))
  have HB3 : Hid (Below w.heap.size w w3) := Lib.hid ((HB2.out.trans ((below_alloc w2 _).mono (by omega))).trans (hb3.mono (by simp; omega)))
  clear hb3 HR1 HB2
  go_wp2_with fail
  refine (lives_any _ (HT.out _ ?hb)).mono ?_
  case hb => exact HB3.out.trans ((below_alloc w3 _).mono (by omega))
  rintro e w4 ⟨rfl, hb4⟩
  have z4 := hb4.size
  simp at z4
  have r3 := kept_new hb4
  have r2 := (hb4.block w2.heap.size (by simp; omega)).trans (heap_old _ (by omega) HR2.out)
  have r1 := (hb4.block w1.heap.size (by simp; omega)).trans (heap_old _ (by omega) HR12.out)
  obtain ⟨c1, f1⟩ := cells_of_heap r1
  obtain ⟨c2, _⟩ := cells_of_heap r2
  obtain ⟨c3, _⟩ := cells_of_heap r3
  have HB4 : Hid (Below w.heap.size w w4) := Lib.hid ((HB3.out.trans ((below_alloc w3 _).mono (by omega))).trans (hb4.mono (by simp; omega)))
  clear r1 r2 r3 hb4 HR2 HR12 HB3
  go_wp2_with fail
  go_ret
  exact ⟨ret_bool (by simp), HB4.out⟩

set_option maxRecDepth 100000 in
set_option maxHeartbeats 1000000 in
theorem goes_C (t ay am ad aH aM aS aW cy cm cd yb mb wb : Int) (w : World) (tab : Tab w) (lo : -62135596800 ≤ t) (hi : t < 253402214399)
    (hd : 1 ≤ ad ∧ ad ≤ 31) (hm : 1 ≤ am ∧ am ≤ 12) (hH : 0 ≤ aH ∧ aH ≤ 23) (hM : 0 ≤ aM ∧ aM ≤ 59) (hS : 0 ≤ aS ∧ aS ≤ 59) (hW : 0 ≤ aW ∧ aW ≤ 6) (h : aH < 23)
    (ca : OfIs t (ay) (am) (ad) (aH) (59) (59) (aW)) (cb : OfIs (t + 1) (ay) (am) (ad) (aH + 1) (0) (0) (aW)) (cc : OfIs (t + 86400) (cy) (cm) (cd) (aH) (59) (59) ((aW + 1) % 7)) :
    Calls Tryd.prog 7 #[.int .i64 t] w fun e w' => e = .returned (.bool true) ∧ Below w.heap.size w w' := by
  have HT : Hid (∀ w1, Below w.heap.size w w1 → Tab w1) := Lib.hid (fun w1 h => tab.later h)
  have HT0 := Lib.hid tab
  clear tab
  obtain ⟨hd1, hd2⟩ := hd
  obtain ⟨hm1, hm2⟩ := hm
  obtain ⟨hH1, hH2⟩ := hH
  obtain ⟨hM1, hM2⟩ := hM
  obtain ⟨hS1, hS2⟩ := hS
  obtain ⟨hW1, hW2⟩ := hW
  go_enter Tryd.func7, Tryd.ntmps7
  go_wp2_with fail
  refine (ca _ HT0.out).mono ?_
  rintro e w1 ⟨rfl, hb1⟩
  have z1 := hb1.size
  go_wp2_with fail
  refine (cb _ (HT.out _ ?hb)).mono ?_
  case hb => go_grown
  rintro e w2 ⟨rfl, hb2⟩
  have z2 := hb2.size
  simp at z2
  have HR1 := Lib.hid (kept_new hb2)
  have HB2 : Hid (Below w.heap.size w w2) := Lib.hid ((hb1.trans ((below_alloc w1 _).mono z1)).trans (hb2.mono (by simp; omega)))
  clear hb1 hb2
  go_wp2_with fail
  refine (cc _ (HT.out _ ?hb)).mono ?_
  case hb => exact HB2.out.trans ((below_alloc w2 _).mono (by omega))
  rintro e w3 ⟨rfl, hb3⟩
  have z3 := hb3.size
  simp at z3
  have HR2 := Lib.hid (kept_new hb3)
  have HR12 := Lib.hid ((hb3.block w1.heap.size (by simp; omega)).trans (heap_old _ (by omega) HR1.out))
  have HB3 : Hid (Below w.heap.size w w3) := Lib.hid ((HB2.out.trans ((below_alloc w2 _).mono (by omega))).trans (hb3.mono (by simp; omega)))
  clear hb3 HR1 HB2
  go_wp2_with fail
  refine (lives_any _ (HT.out _ ?hb)).mono ?_
  case hb => exact HB3.out.trans ((below_alloc w3 _).mono (by omega))
  rintro e w4 ⟨rfl, hb4⟩
  have z4 := hb4.size
  simp at z4
  have r3 := kept_new hb4
  have r2 := (hb4.block w2.heap.size (by simp; omega)).trans (heap_old _ (by omega) HR2.out)
  have r1 := (hb4.block w1.heap.size (by simp; omega)).trans (heap_old _ (by omega) HR12.out)
  obtain ⟨c1, f1⟩ := cells_of_heap r1
  obtain ⟨c2, _⟩ := cells_of_heap r2
  obtain ⟨c3, _⟩ := cells_of_heap r3
  have HB4 : Hid (Below w.heap.size w w4) := Lib.hid ((HB3.out.trans ((below_alloc w3 _).mono (by omega))).trans (hb4.mono (by simp; omega)))
  clear r1 r2 r3 hb4 HR2 HR12 HB3
  go_wp2_with fail
  go_ret
  exact ⟨ret_bool (by simp), HB4.out⟩

set_option maxRecDepth 100000 in
set_option maxHeartbeats 1000000 in
theorem goes_D (t ay am ad aH aM aS aW cy cm cd yb mb wb : Int) (w : World) (tab : Tab w) (lo : -62135596800 ≤ t) (hi : t < 253402214399)
    (hd : 1 ≤ ad ∧ ad ≤ 31) (hm : 1 ≤ am ∧ am ≤ 12) (hH : 0 ≤ aH ∧ aH ≤ 23) (hM : 0 ≤ aM ∧ aM ≤ 59) (hS : 0 ≤ aS ∧ aS ≤ 59) (hW : 0 ≤ aW ∧ aW ≤ 6) (h : ad < len ay am)
    (ca : OfIs t (ay) (am) (ad) (23) (59) (59) (aW)) (cb : OfIs (t + 1) (yb) (am) (ad + 1) (0) (0) (0) (wb)) (cc : OfIs (t + 86400) (cy) (cm) (cd) (23) (59) (59) ((aW + 1) % 7)) :
    Calls Tryd.prog 7 #[.int .i64 t] w fun e w' => e = .returned (.bool true) ∧ Below w.heap.size w w' := by
  have HT : Hid (∀ w1, Below w.heap.size w w1 → Tab w1) := Lib.hid (fun w1 h => tab.later h)
  have HT0 := Lib.hid tab
  clear tab
  obtain ⟨hd1, hd2⟩ := hd
  obtain ⟨hm1, hm2⟩ := hm
  obtain ⟨hH1, hH2⟩ := hH
  obtain ⟨hM1, hM2⟩ := hM
  obtain ⟨hS1, hS2⟩ := hS
  obtain ⟨hW1, hW2⟩ := hW
  go_enter Tryd.func7, Tryd.ntmps7
  go_wp2_with fail
  refine (ca _ HT0.out).mono ?_
  rintro e w1 ⟨rfl, hb1⟩
  have z1 := hb1.size
  go_wp2_with fail
  refine (cb _ (HT.out _ ?hb)).mono ?_
  case hb => go_grown
  rintro e w2 ⟨rfl, hb2⟩
  have z2 := hb2.size
  simp at z2
  have HR1 := Lib.hid (kept_new hb2)
  have HB2 : Hid (Below w.heap.size w w2) := Lib.hid ((hb1.trans ((below_alloc w1 _).mono z1)).trans (hb2.mono (by simp; omega)))
  clear hb1 hb2
  go_wp2_with fail
  refine (cc _ (HT.out _ ?hb)).mono ?_
  case hb => exact HB2.out.trans ((below_alloc w2 _).mono (by omega))
  rintro e w3 ⟨rfl, hb3⟩
  have z3 := hb3.size
  simp at z3
  have HR2 := Lib.hid (kept_new hb3)
  have HR12 := Lib.hid ((hb3.block w1.heap.size (by simp; omega)).trans (heap_old _ (by omega) HR1.out))
  have HB3 : Hid (Below w.heap.size w w3) := Lib.hid ((HB2.out.trans ((below_alloc w2 _).mono (by omega))).trans (hb3.mono (by simp; omega)))
  clear hb3 HR1 HB2
  go_wp2_with fail
  refine (lives_any _ (HT.out _ ?hb)).mono ?_
  case hb => exact HB3.out.trans ((below_alloc w3 _).mono (by omega))
  rintro e w4 ⟨rfl, hb4⟩
  have z4 := hb4.size
  simp at z4
  have r3 := kept_new hb4
  have r2 := (hb4.block w2.heap.size (by simp; omega)).trans (heap_old _ (by omega) HR2.out)
  have r1 := (hb4.block w1.heap.size (by simp; omega)).trans (heap_old _ (by omega) HR12.out)
  obtain ⟨c1, f1⟩ := cells_of_heap r1
  obtain ⟨c2, _⟩ := cells_of_heap r2
  obtain ⟨c3, _⟩ := cells_of_heap r3
  have HB4 : Hid (Below w.heap.size w w4) := Lib.hid ((HB3.out.trans ((below_alloc w3 _).mono (by omega))).trans (hb4.mono (by simp; omega)))
  clear r1 r2 r3 hb4 HR2 HR12 HB3
  go_wp2_with fail
  have HTD := Lib.hid (HT.out _ HB4.out)
  go_quiet ((go_at_call 16; exact Calls.quiet_of_same (length_quiet _ _ _ HTD.out)))
  go_wp2_with fail
  go_ret
  exact ⟨ret_bool (by first | (simp; done) | (simp; omega)), below_drewN HB4.out _⟩

set_option maxRecDepth 100000 in
set_option maxHeartbeats 1000000 in
theorem goes_E (t ay am ad aH aM aS aW cy cm cd yb mb wb : Int) (w : World) (tab : Tab w) (lo : -62135596800 ≤ t) (hi : t < 253402214399)
    (hd : 1 ≤ ad ∧ ad ≤ 31) (hm : 1 ≤ am ∧ am ≤ 12) (hH : 0 ≤ aH ∧ aH ≤ 23) (hM : 0 ≤ aM ∧ aM ≤ 59) (hS : 0 ≤ aS ∧ aS ≤ 59) (hW : 0 ≤ aW ∧ aW ≤ 6) (h : ¬ ad < len ay am) (h12 : am < 12) (e12 : am % 12 = am)
    (ca : OfIs t (ay) (am) (ad) (23) (59) (59) (aW)) (cb : OfIs (t + 1) (ay) (am + 1) (1) (0) (0) (0) (wb)) (cc : OfIs (t + 86400) (cy) (cm) (cd) (23) (59) (59) ((aW + 1) % 7)) :
    Calls Tryd.prog 7 #[.int .i64 t] w fun e w' => e = .returned (.bool true) ∧ Below w.heap.size w w' := by
  have HT : Hid (∀ w1, Below w.heap.size w w1 → Tab w1) := Lib.hid (fun w1 h => tab.later h)
  have HT0 := Lib.hid tab
  clear tab
  obtain ⟨hd1, hd2⟩ := hd
  obtain ⟨hm1, hm2⟩ := hm
  obtain ⟨hH1, hH2⟩ := hH
  obtain ⟨hM1, hM2⟩ := hM
  obtain ⟨hS1, hS2⟩ := hS
  obtain ⟨hW1, hW2⟩ := hW
  go_enter Tryd.func7, Tryd.ntmps7
  go_wp2_with fail
  refine (ca _ HT0.out).mono ?_
  rintro e w1 ⟨rfl, hb1⟩
  have z1 := hb1.size
  go_wp2_with fail
  refine (cb _ (HT.out _ ?hb)).mono ?_
  case hb => go_grown
  rintro e w2 ⟨rfl, hb2⟩
  have z2 := hb2.size
  simp at z2
  have HR1 := Lib.hid (kept_new hb2)
  have HB2 : Hid (Below w.heap.size w w2) := Lib.hid ((hb1.trans ((below_alloc w1 _).mono z1)).trans (hb2.mono (by simp; omega)))
  clear hb1 hb2
  go_wp2_with fail
  refine (cc _ (HT.out _ ?hb)).mono ?_
  case hb => exact HB2.out.trans ((below_alloc w2 _).mono (by omega))
  rintro e w3 ⟨rfl, hb3⟩
  have z3 := hb3.size
  simp at z3
  have HR2 := Lib.hid (kept_new hb3)
  have HR12 := Lib.hid ((hb3.block w1.heap.size (by simp; omega)).trans (heap_old _ (by omega) HR1.out))
  have HB3 : Hid (Below w.heap.size w w3) := Lib.hid ((HB2.out.trans ((below_alloc w2 _).mono (by omega))).trans (hb3.mono (by simp; omega)))
  clear hb3 HR1 HB2
  go_wp2_with fail
  refine (lives_any _ (HT.out _ ?hb)).mono ?_
  case hb => exact HB3.out.trans ((below_alloc w3 _).mono (by omega))
  rintro e w4 ⟨rfl, hb4⟩
  have z4 := hb4.size
  simp at z4
  have r3 := kept_new hb4
  have r2 := (hb4.block w2.heap.size (by simp; omega)).trans (heap_old _ (by omega) HR2.out)
  have r1 := (hb4.block w1.heap.size (by simp; omega)).trans (heap_old _ (by omega) HR12.out)
  obtain ⟨c1, f1⟩ := cells_of_heap r1
  obtain ⟨c2, _⟩ := cells_of_heap r2
  obtain ⟨c3, _⟩ := cells_of_heap r3
  have HB4 : Hid (Below w.heap.size w w4) := Lib.hid ((HB3.out.trans ((below_alloc w3 _).mono (by omega))).trans (hb4.mono (by simp; omega)))
  clear r1 r2 r3 hb4 HR2 HR12 HB3
  go_wp2_with fail
  have HTD := Lib.hid (HT.out _ HB4.out)
  go_quiet ((go_at_call 16; exact Calls.quiet_of_same (length_quiet _ _ _ HTD.out)))
  go_wp2_with fail
  go_ret
  exact ⟨ret_bool (by first | (simp; done) | (simp; omega)), below_drewN HB4.out _⟩

set_option maxRecDepth 100000 in
set_option maxHeartbeats 1000000 in
theorem goes_F (t ay am ad aH aM aS aW cy cm cd yb mb wb : Int) (w : World) (tab : Tab w) (lo : -62135596800 ≤ t) (hi : t < 253402214399)
    (hd : 1 ≤ ad ∧ ad ≤ 31) (hm : 1 ≤ am ∧ am ≤ 12) (hH : 0 ≤ aH ∧ aH ≤ 23) (hM : 0 ≤ aM ∧ aM ≤ 59) (hS : 0 ≤ aS ∧ aS ≤ 59) (hW : 0 ≤ aW ∧ aW ≤ 6) (h : ¬ ad < len ay 12)
    (ca : OfIs t (ay) (12) (ad) (23) (59) (59) (aW)) (cb : OfIs (t + 1) (ay + 1) (1) (1) (0) (0) (0) (wb)) (cc : OfIs (t + 86400) (cy) (cm) (cd) (23) (59) (59) ((aW + 1) % 7)) :
    Calls Tryd.prog 7 #[.int .i64 t] w fun e w' => e = .returned (.bool true) ∧ Below w.heap.size w w' := by
  have HT : Hid (∀ w1, Below w.heap.size w w1 → Tab w1) := Lib.hid (fun w1 h => tab.later h)
  have HT0 := Lib.hid tab
  clear tab
  obtain ⟨hd1, hd2⟩ := hd
  obtain ⟨hm1, hm2⟩ := hm
  obtain ⟨hH1, hH2⟩ := hH
  obtain ⟨hM1, hM2⟩ := hM
  obtain ⟨hS1, hS2⟩ := hS
  obtain ⟨hW1, hW2⟩ := hW
  go_enter Tryd.func7, Tryd.ntmps7
  go_wp2_with fail
  refine (ca _ HT0.out).mono ?_
  rintro e w1 ⟨rfl, hb1⟩
  have z1 := hb1.size
  go_wp2_with fail
  refine (cb _ (HT.out _ ?hb)).mono ?_
  case hb => go_grown
  rintro e w2 ⟨rfl, hb2⟩
  have z2 := hb2.size
  simp at z2
  have HR1 := Lib.hid (kept_new hb2)
  have HB2 : Hid (Below w.heap.size w w2) := Lib.hid ((hb1.trans ((below_alloc w1 _).mono z1)).trans (hb2.mono (by simp; omega)))
  clear hb1 hb2
  go_wp2_with fail
  refine (cc _ (HT.out _ ?hb)).mono ?_
  case hb => exact HB2.out.trans ((below_alloc w2 _).mono (by omega))
  rintro e w3 ⟨rfl, hb3⟩
  have z3 := hb3.size
  simp at z3
  have HR2 := Lib.hid (kept_new hb3)
  have HR12 := Lib.hid ((hb3.block w1.heap.size (by simp; omega)).trans (heap_old _ (by omega) HR1.out))
  have HB3 : Hid (Below w.heap.size w w3) := Lib.hid ((HB2.out.trans ((below_alloc w2 _).mono (by omega))).trans (hb3.mono (by simp; omega)))
  clear hb3 HR1 HB2
  go_wp2_with fail
  refine (lives_any _ (HT.out _ ?hb)).mono ?_
  case hb => exact HB3.out.trans ((below_alloc w3 _).mono (by omega))
  rintro e w4 ⟨rfl, hb4⟩
  have z4 := hb4.size
  simp at z4
  have r3 := kept_new hb4
  have r2 := (hb4.block w2.heap.size (by simp; omega)).trans (heap_old _ (by omega) HR2.out)
  have r1 := (hb4.block w1.heap.size (by simp; omega)).trans (heap_old _ (by omega) HR12.out)
  obtain ⟨c1, f1⟩ := cells_of_heap r1
  obtain ⟨c2, _⟩ := cells_of_heap r2
  obtain ⟨c3, _⟩ := cells_of_heap r3
  have HB4 : Hid (Below w.heap.size w w4) := Lib.hid ((HB3.out.trans ((below_alloc w3 _).mono (by omega))).trans (hb4.mono (by simp; omega)))
  clear r1 r2 r3 hb4 HR2 HR12 HB3
  go_wp2_with fail
  have HTD := Lib.hid (HT.out _ HB4.out)
  go_quiet ((go_at_call 16; exact Calls.quiet_of_same (length_quiet _ _ _ HTD.out)))
  go_wp2_with fail
  go_ret
  exact ⟨ret_bool (by first | (simp; done) | (simp; omega)), below_drewN HB4.out _⟩

theorem law_goes (t : Int) (w : World) (tab : Tab w) :
    Calls Tryd.prog 7 #[.int .i64 t] w fun e w' => e = .returned (.bool true) ∧ Below w.heap.size w w' := by
  by_cases hlo : t < -62135596800
  · exact law_goes_no t w tab (.inl hlo)
  by_cases hhi : 253402214399 ≤ t
  · exact law_goes_no t w tab (.inr hhi)
  obtain ⟨n, y, k, s, H⟩ := at_of t (by omega) (by omega)
  obtain ⟨lo, hi, day, s0, s1, y0, y1, k1, dlo, dhi⟩ := H
  obtain ⟨y', k', y0', y1', k1', dlo', dhi'⟩ := date_of (n + 1) (by omega) (by omega)
  have H : At t n y k s := ⟨lo, hi, day, s0, s1, y0, y1, k1, dlo, dhi⟩
  have HC : At (t + 86400) (n + 1) y' k' s := ⟨by omega, by omega, by omega, s0, s1, y0', y1', k1', dlo', dhi'⟩
  have cs : cum y (k + 1) = cum y k + len y ((k : Int) + 1) := rfl
  have hl := len_bd y ((k : Int) + 1)
  have hw := wd_bd n
  have hwn : wd (n + 1) = (wd n + 1) % 7 := wd_add n 1
  have ca := ofIs H
  have cc := ofIs HC
  rw [hwn] at cc
  have hd : 1 ≤ n + 719162 - ah y - cum y k + 1 ∧ n + 719162 - ah y - cum y k + 1 ≤ 31 := by omega
  by_cases hA : s % 60 < 59
  · have HB : At (t + 1) n y k (s + 1) := ⟨by omega, by omega, by omega, by omega, by omega, y0, y1, k1, dlo, dhi⟩
    have cb := ofIs HB
    rw [show (s + 1) / 3600 = s / 3600 by omega, show (s + 1) % 3600 / 60 = s % 3600 / 60 by omega, show (s + 1) % 60 = s % 60 + 1 by omega] at cb
    exact goes_A t _ _ _ _ _ _ _ _ _ _ 0 0 0 w tab (by omega) (by omega) hd (by omega) (by omega) (by omega) (by omega) hw hA ca cb cc
  have e59 : s % 60 = 59 := by omega
  rw [e59] at ca cc
  by_cases hB : s % 3600 / 60 < 59
  · have HB : At (t + 1) n y k (s + 1) := ⟨by omega, by omega, by omega, by omega, by omega, y0, y1, k1, dlo, dhi⟩
    have cb := ofIs HB
    rw [show (s + 1) / 3600 = s / 3600 by omega, show (s + 1) % 3600 / 60 = s % 3600 / 60 + 1 by omega, show (s + 1) % 60 = 0 by omega] at cb
    exact goes_B t _ _ _ _ _ 0 _ _ _ _ 0 0 0 w tab (by omega) (by omega) hd (by omega) (by omega) (by omega) (by omega) hw hB ca cb cc
  have m59 : s % 3600 / 60 = 59 := by omega
  rw [m59] at ca cc
  by_cases hC : s / 3600 < 23
  · have HB : At (t + 1) n y k (s + 1) := ⟨by omega, by omega, by omega, by omega, by omega, y0, y1, k1, dlo, dhi⟩
    have cb := ofIs HB
    rw [show (s + 1) / 3600 = s / 3600 + 1 by omega, show (s + 1) % 3600 / 60 = 0 by omega, show (s + 1) % 60 = 0 by omega] at cb
    exact goes_C t _ _ _ _ 0 0 _ _ _ _ 0 0 0 w tab (by omega) (by omega) hd (by omega) (by omega) (by omega) (by omega) hw hC ca cb cc
  have e23 : s / 3600 = 23 := by omega
  have hs : s = 86399 := by omega
  rw [e23] at ca cc
  have z1 : (0 : Int) / 3600 = 0 := by decide
  have z2 : (0 : Int) % 3600 / 60 = 0 := by decide
  have z3 : (0 : Int) % 60 = 0 := by decide
  by_cases hD : n + 719162 - ah y - cum y k + 1 < len y ((k : Int) + 1)
  · have HB : At (t + 1) (n + 1) y k 0 := ⟨by omega, by omega, by omega, by omega, by omega, y0, y1, k1, by omega, by omega⟩
    have cb := ofIs HB
    rw [z1, z2, z3, show n + 1 + 719162 - ah y - cum y k + 1 = n + 719162 - ah y - cum y k + 1 + 1 by omega] at cb
    exact goes_D t _ _ _ 0 0 0 _ _ _ _ _ 0 _ w tab (by omega) (by omega) hd (by omega) (by omega) (by omega) (by omega) hw hD ca cb cc
  by_cases hE : k < 11
  · have c2 : cum y (k + 1 + 1) = cum y (k + 1) + len y (((k + 1 : Nat) : Int) + 1) := rfl
    have l2 := len_lo y (((k + 1 : Nat) : Int) + 1) (by omega) (by omega)
    have HB : At (t + 1) (n + 1) y (k + 1) 0 := ⟨by omega, by omega, by omega, by omega, by omega, y0, y1, by omega, by omega, by omega⟩
    have cb := ofIs HB
    rw [z1, z2, z3, show n + 1 + 719162 - ah y - cum y (k + 1) + 1 = 1 by omega, show ((k + 1 : Nat) : Int) + 1 = (k : Int) + 1 + 1 by omega] at cb
    exact goes_E t _ _ _ 0 0 0 _ _ _ _ 0 0 _ w tab (by omega) (by omega) hd (by omega) (by omega) (by omega) (by omega) hw hD (by omega) (by omega) ca cb cc
  · obtain rfl : k = 11 := by omega
    have hy := ah_succ y
    have c12 : cum y 12 = cum y (11 + 1) := rfl
    have c0 : cum (y + 1) 0 = 0 := rfl
    have c1 : cum (y + 1) (0 + 1) = 0 + len (y + 1) ((0 : Nat) + 1 : Int) := rfl
    have l1 := len_lo (y + 1) ((0 : Nat) + 1 : Int) (by omega) (by omega)
    have hy9 : y + 1 ≤ 9999 := by
      by_cases e : y = 9999
      · subst e; have : ah (9999 + 1) = 3652059 := by decide
        omega
      · omega
    have HB : At (t + 1) (n + 1) (y + 1) 0 0 := ⟨by omega, by omega, by omega, by omega, by omega, by omega, hy9, by omega, by omega, by omega⟩
    have cb := ofIs HB
    rw [z1, z2, z3, show n + 1 + 719162 - ah (y + 1) - cum (y + 1) 0 + 1 = 1 by omega, show ((0 : Nat) : Int) + 1 = 1 by omega] at cb
    rw [show ((11 : Nat) : Int) + 1 = 12 by omega] at ca hD
    exact goes_F t _ 12 _ 0 0 0 _ _ _ _ 0 0 _ w tab (by omega) (by omega) hd (by omega) (by omega) (by omega) (by omega) hw hD ca cb cc
end Go.Proofs.YtpmgepipcmigpaaDoor
