/- Walk of package cron: an item of a field. -/
import Derived.Test.YtbbleedepmcdfaaDoorCroF
set_option linter.unusedSimpArgs false
set_option linter.unusedVariables false
namespace Go.Proofs.YtbbleedepmcdfaaDoor
open Go.ChangeShapes Go.WideShapes Go.ChangeAt Go.RowKit Go.Base Go.Cro


/-- A reader at work: whatever was laid since w. -/
def Rdm (pa pb : Addr) (w : World) (x : Bytes) (r : Option Int) : Prop := ∀ w', Below w.heap.size w w' → Calls Tryd.prog 57 #[.string ⟨x.toArray⟩, .pointer (some pa), .pointer (some pb)] w' fun e w2 => e = .returned (opt r) ∧ w' = w2

set_option maxHeartbeats 1000000 in
theorem star_Am (pa pb : Addr) (l sp af : Bytes) (w : World) (hl : l.length ≤ maxLen) (hst : cutB 47 l = (sp, af, false)) (hs : sp = [42]) :
    Calls Tryd.prog 41 #[.string ⟨l.toArray⟩, .func (.func 57) #[] #[.pointer (some pa), .pointer (some pb)]] w fun e w' => e = .returned (.tuple #[.agg #[.bool true, .int .i64 0, .int .i64 0, .bool false, .int .i64 1, .bool false], .bool true]) ∧ Below w.heap.size w w' := by
  have H1 := cut_is l sp af false 47 hl hst
  subst hs
  clear hst hl
  go_enter Tryd.func41, Tryd.ntmps41
  go_wp2_with fail
  refine (H1.out _).mono ?_
  rintro e w1 ⟨rfl, n1, rfl⟩
  go_wp2_with fail
  exact bodyPost_ret (v := .tuple #[.agg #[.bool true, .int .i64 0, .int .i64 0, .bool false, .int .i64 1, .bool false], .bool true]) (by simp [results, Tryd.results41, go_sem]) rfl ⟨rfl, (by repeat' (first | (with_reducible exact Below.refl _ _) | (with_reducible assumption) | (with_reducible refine Below.alloc ?_ ?_ _) | (with_reducible refine below_drewN ?_ _) | (with_reducible refine Below.drew ?_) | (with_reducible refine Below.setCell ?_ ?_ _) | (with_reducible exact Nat.le_refl _) | (simp [size_drewN]; done) | (simp [size_drewN]; omega)))⟩

set_option maxHeartbeats 1000000 in
theorem lownot_Am (pa pb : Addr) (l sp af : Bytes) (w : World) (hl : l.length ≤ maxLen) (hst : cutB 47 l = (sp, af, false)) (hs : sp ≠ [42]) (lo hi : Bytes) (hs2 : cutB 45 sp = (lo, hi, true)) (hr : Rdm pa pb w lo none) :
    Calls Tryd.prog 41 #[.string ⟨l.toArray⟩, .func (.func 57) #[] #[.pointer (some pa), .pointer (some pb)]] w fun e w' => e = .returned (.tuple #[.agg #[.bool false, .int .i64 0, .int .i64 0, .bool false, .int .i64 0, .bool false], .bool false]) ∧ Below w.heap.size w w' := by
  have H1 := cut_is l sp af false 47 hl hst
  have hsp : sp.length ≤ maxLen := by have := cutB_len 47 l; rw [hst] at this; simp only at this; omega
  have H3 := cut_is sp lo hi true 45 hsp hs2
  have hns : (sp == [42]) = false := by simpa using hs
  clear hst hl hs hs2 hsp
  have HR : Hid (∀ w1, Below w.heap.size w w1 → Calls Tryd.prog 57 #[.string ⟨lo.toArray⟩, .pointer (some pa), .pointer (some pb)] w1 fun e w2 => e = .returned (.tuple #[.int .i64 0, .bool false]) ∧ w1 = w2) := Lib.hid hr
  clear hr
  go_enter Tryd.func41, Tryd.ntmps41
  go_wp2_with fail
  refine (H1.out _).mono ?_
  rintro e w1 ⟨rfl, n1, rfl⟩
  go_wp2_with fail
  refine (H3.out _).mono ?_
  rintro e w1 ⟨rfl, n3, rfl⟩
  go_wp2_with fail
  refine (HR.out _ ?hb).mono ?_
  case hb => exact (by repeat' (first | (with_reducible exact Below.refl _ _) | (with_reducible assumption) | (with_reducible refine Below.alloc ?_ ?_ _) | (with_reducible refine below_drewN ?_ _) | (with_reducible refine Below.drew ?_) | (with_reducible refine Below.setCell ?_ ?_ _) | (with_reducible exact Nat.le_refl _) | (simp [size_drewN]; done) | (simp [size_drewN]; omega)))
  rintro e w1 ⟨rfl, rfl⟩
  go_wp2_with fail
  exact bodyPost_ret (v := .tuple #[.agg #[.bool false, .int .i64 0, .int .i64 0, .bool false, .int .i64 0, .bool false], .bool false]) (by simp [results, Tryd.results41, go_sem]) rfl ⟨rfl, (by repeat' (first | (with_reducible exact Below.refl _ _) | (with_reducible assumption) | (with_reducible refine Below.alloc ?_ ?_ _) | (with_reducible refine below_drewN ?_ _) | (with_reducible refine Below.drew ?_) | (with_reducible refine Below.setCell ?_ ?_ _) | (with_reducible exact Nat.le_refl _) | (simp [size_drewN]; done) | (simp [size_drewN]; omega)))⟩

set_option maxHeartbeats 1000000 in
theorem lownof_Am (pa pb : Addr) (l sp af : Bytes) (w : World) (hl : l.length ≤ maxLen) (hst : cutB 47 l = (sp, af, false)) (hs : sp ≠ [42]) (lo hi : Bytes) (hs2 : cutB 45 sp = (lo, hi, false)) (hr : Rdm pa pb w lo none) :
    Calls Tryd.prog 41 #[.string ⟨l.toArray⟩, .func (.func 57) #[] #[.pointer (some pa), .pointer (some pb)]] w fun e w' => e = .returned (.tuple #[.agg #[.bool false, .int .i64 0, .int .i64 0, .bool false, .int .i64 0, .bool false], .bool false]) ∧ Below w.heap.size w w' := by
  have H1 := cut_is l sp af false 47 hl hst
  have hsp : sp.length ≤ maxLen := by have := cutB_len 47 l; rw [hst] at this; simp only at this; omega
  have H3 := cut_is sp lo hi false 45 hsp hs2
  have hns : (sp == [42]) = false := by simpa using hs
  clear hst hl hs hs2 hsp
  have HR : Hid (∀ w1, Below w.heap.size w w1 → Calls Tryd.prog 57 #[.string ⟨lo.toArray⟩, .pointer (some pa), .pointer (some pb)] w1 fun e w2 => e = .returned (.tuple #[.int .i64 0, .bool false]) ∧ w1 = w2) := Lib.hid hr
  clear hr
  go_enter Tryd.func41, Tryd.ntmps41
  go_wp2_with fail
  refine (H1.out _).mono ?_
  rintro e w1 ⟨rfl, n1, rfl⟩
  go_wp2_with fail
  refine (H3.out _).mono ?_
  rintro e w1 ⟨rfl, n3, rfl⟩
  go_wp2_with fail
  refine (HR.out _ ?hb).mono ?_
  case hb => exact (by repeat' (first | (with_reducible exact Below.refl _ _) | (with_reducible assumption) | (with_reducible refine Below.alloc ?_ ?_ _) | (with_reducible refine below_drewN ?_ _) | (with_reducible refine Below.drew ?_) | (with_reducible refine Below.setCell ?_ ?_ _) | (with_reducible exact Nat.le_refl _) | (simp [size_drewN]; done) | (simp [size_drewN]; omega)))
  rintro e w1 ⟨rfl, rfl⟩
  go_wp2_with fail
  exact bodyPost_ret (v := .tuple #[.agg #[.bool false, .int .i64 0, .int .i64 0, .bool false, .int .i64 0, .bool false], .bool false]) (by simp [results, Tryd.results41, go_sem]) rfl ⟨rfl, (by repeat' (first | (with_reducible exact Below.refl _ _) | (with_reducible assumption) | (with_reducible refine Below.alloc ?_ ?_ _) | (with_reducible refine below_drewN ?_ _) | (with_reducible refine Below.drew ?_) | (with_reducible refine Below.setCell ?_ ?_ _) | (with_reducible exact Nat.le_refl _) | (simp [size_drewN]; done) | (simp [size_drewN]; omega)))⟩

set_option maxHeartbeats 1000000 in
theorem one_Am (pa pb : Addr) (l sp af : Bytes) (w : World) (hl : l.length ≤ maxLen) (hst : cutB 47 l = (sp, af, false)) (hs : sp ≠ [42]) (lo hi : Bytes) (hs2 : cutB 45 sp = (lo, hi, false)) (f : Int) (hr : Rdm pa pb w lo (some f)) :
    Calls Tryd.prog 41 #[.string ⟨l.toArray⟩, .func (.func 57) #[] #[.pointer (some pa), .pointer (some pb)]] w fun e w' => e = .returned (.tuple #[.agg #[.bool false, .int .i64 f, .int .i64 f, .bool true, .int .i64 1, .bool false], .bool true]) ∧ Below w.heap.size w w' := by
  have H1 := cut_is l sp af false 47 hl hst
  have hsp : sp.length ≤ maxLen := by have := cutB_len 47 l; rw [hst] at this; simp only at this; omega
  have H3 := cut_is sp lo hi false 45 hsp hs2
  have hns : (sp == [42]) = false := by simpa using hs
  clear hst hl hs hs2 hsp
  have HR : Hid (∀ w1, Below w.heap.size w w1 → Calls Tryd.prog 57 #[.string ⟨lo.toArray⟩, .pointer (some pa), .pointer (some pb)] w1 fun e w2 => e = .returned (.tuple #[.int .i64 f, .bool true]) ∧ w1 = w2) := Lib.hid hr
  clear hr
  go_enter Tryd.func41, Tryd.ntmps41
  go_wp2_with fail
  refine (H1.out _).mono ?_
  rintro e w1 ⟨rfl, n1, rfl⟩
  go_wp2_with fail
  refine (H3.out _).mono ?_
  rintro e w1 ⟨rfl, n3, rfl⟩
  go_wp2_with fail
  refine (HR.out _ ?hb).mono ?_
  case hb => exact (by repeat' (first | (with_reducible exact Below.refl _ _) | (with_reducible assumption) | (with_reducible refine Below.alloc ?_ ?_ _) | (with_reducible refine below_drewN ?_ _) | (with_reducible refine Below.drew ?_) | (with_reducible refine Below.setCell ?_ ?_ _) | (with_reducible exact Nat.le_refl _) | (simp [size_drewN]; done) | (simp [size_drewN]; omega)))
  rintro e w1 ⟨rfl, rfl⟩
  go_wp2_with fail
  exact bodyPost_ret (v := .tuple #[.agg #[.bool false, .int .i64 f, .int .i64 f, .bool true, .int .i64 1, .bool false], .bool true]) (by simp [results, Tryd.results41, go_sem]) rfl ⟨rfl, (by repeat' (first | (with_reducible exact Below.refl _ _) | (with_reducible assumption) | (with_reducible refine Below.alloc ?_ ?_ _) | (with_reducible refine below_drewN ?_ _) | (with_reducible refine Below.drew ?_) | (with_reducible refine Below.setCell ?_ ?_ _) | (with_reducible exact Nat.le_refl _) | (simp [size_drewN]; done) | (simp [size_drewN]; omega)))⟩

set_option maxHeartbeats 1000000 in
theorem highno_Am (pa pb : Addr) (l sp af : Bytes) (w : World) (hl : l.length ≤ maxLen) (hst : cutB 47 l = (sp, af, false)) (hs : sp ≠ [42]) (lo hi : Bytes) (hs2 : cutB 45 sp = (lo, hi, true)) (f : Int) (hr : Rdm pa pb w lo (some f)) (hr2 : Rdm pa pb w hi none) :
    Calls Tryd.prog 41 #[.string ⟨l.toArray⟩, .func (.func 57) #[] #[.pointer (some pa), .pointer (some pb)]] w fun e w' => e = .returned (.tuple #[.agg #[.bool false, .int .i64 0, .int .i64 0, .bool false, .int .i64 0, .bool false], .bool false]) ∧ Below w.heap.size w w' := by
  have H1 := cut_is l sp af false 47 hl hst
  have hsp : sp.length ≤ maxLen := by have := cutB_len 47 l; rw [hst] at this; simp only at this; omega
  have H3 := cut_is sp lo hi true 45 hsp hs2
  have hns : (sp == [42]) = false := by simpa using hs
  clear hst hl hs hs2 hsp
  have HR : Hid (∀ w1, Below w.heap.size w w1 → Calls Tryd.prog 57 #[.string ⟨lo.toArray⟩, .pointer (some pa), .pointer (some pb)] w1 fun e w2 => e = .returned (.tuple #[.int .i64 f, .bool true]) ∧ w1 = w2) := Lib.hid hr
  clear hr
  have HR2 : Hid (∀ w1, Below w.heap.size w w1 → Calls Tryd.prog 57 #[.string ⟨hi.toArray⟩, .pointer (some pa), .pointer (some pb)] w1 fun e w2 => e = .returned (.tuple #[.int .i64 0, .bool false]) ∧ w1 = w2) := Lib.hid hr2
  clear hr2
  go_enter Tryd.func41, Tryd.ntmps41
  go_wp2_with fail
  refine (H1.out _).mono ?_
  rintro e w1 ⟨rfl, n1, rfl⟩
  go_wp2_with fail
  refine (H3.out _).mono ?_
  rintro e w1 ⟨rfl, n3, rfl⟩
  go_wp2_with fail
  refine (HR.out _ ?hb).mono ?_
  case hb => exact (by repeat' (first | (with_reducible exact Below.refl _ _) | (with_reducible assumption) | (with_reducible refine Below.alloc ?_ ?_ _) | (with_reducible refine below_drewN ?_ _) | (with_reducible refine Below.drew ?_) | (with_reducible refine Below.setCell ?_ ?_ _) | (with_reducible exact Nat.le_refl _) | (simp [size_drewN]; done) | (simp [size_drewN]; omega)))
  rintro e w1 ⟨rfl, rfl⟩
  go_wp2_with fail
  refine (HR2.out _ ?hb).mono ?_
  case hb => exact (by repeat' (first | (with_reducible exact Below.refl _ _) | (with_reducible assumption) | (with_reducible refine Below.alloc ?_ ?_ _) | (with_reducible refine below_drewN ?_ _) | (with_reducible refine Below.drew ?_) | (with_reducible refine Below.setCell ?_ ?_ _) | (with_reducible exact Nat.le_refl _) | (simp [size_drewN]; done) | (simp [size_drewN]; omega)))
  rintro e w1 ⟨rfl, rfl⟩
  go_wp2_with fail
  exact bodyPost_ret (v := .tuple #[.agg #[.bool false, .int .i64 0, .int .i64 0, .bool false, .int .i64 0, .bool false], .bool false]) (by simp [results, Tryd.results41, go_sem]) rfl ⟨rfl, (by repeat' (first | (with_reducible exact Below.refl _ _) | (with_reducible assumption) | (with_reducible refine Below.alloc ?_ ?_ _) | (with_reducible refine below_drewN ?_ _) | (with_reducible refine Below.drew ?_) | (with_reducible refine Below.setCell ?_ ?_ _) | (with_reducible exact Nat.le_refl _) | (simp [size_drewN]; done) | (simp [size_drewN]; omega)))⟩

set_option maxHeartbeats 1000000 in
theorem two_Am (pa pb : Addr) (l sp af : Bytes) (w : World) (hl : l.length ≤ maxLen) (hst : cutB 47 l = (sp, af, false)) (hs : sp ≠ [42]) (lo hi : Bytes) (hs2 : cutB 45 sp = (lo, hi, true)) (f : Int) (hr : Rdm pa pb w lo (some f)) (t : Int) (hr2 : Rdm pa pb w hi (some t)) :
    Calls Tryd.prog 41 #[.string ⟨l.toArray⟩, .func (.func 57) #[] #[.pointer (some pa), .pointer (some pb)]] w fun e w' => e = .returned (.tuple #[.agg #[.bool false, .int .i64 f, .int .i64 t, .bool false, .int .i64 1, .bool false], .bool true]) ∧ Below w.heap.size w w' := by
  have H1 := cut_is l sp af false 47 hl hst
  have hsp : sp.length ≤ maxLen := by have := cutB_len 47 l; rw [hst] at this; simp only at this; omega
  have H3 := cut_is sp lo hi true 45 hsp hs2
  have hns : (sp == [42]) = false := by simpa using hs
  clear hst hl hs hs2 hsp
  have HR : Hid (∀ w1, Below w.heap.size w w1 → Calls Tryd.prog 57 #[.string ⟨lo.toArray⟩, .pointer (some pa), .pointer (some pb)] w1 fun e w2 => e = .returned (.tuple #[.int .i64 f, .bool true]) ∧ w1 = w2) := Lib.hid hr
  clear hr
  have HR2 : Hid (∀ w1, Below w.heap.size w w1 → Calls Tryd.prog 57 #[.string ⟨hi.toArray⟩, .pointer (some pa), .pointer (some pb)] w1 fun e w2 => e = .returned (.tuple #[.int .i64 t, .bool true]) ∧ w1 = w2) := Lib.hid hr2
  clear hr2
  go_enter Tryd.func41, Tryd.ntmps41
  go_wp2_with fail
  refine (H1.out _).mono ?_
  rintro e w1 ⟨rfl, n1, rfl⟩
  go_wp2_with fail
  refine (H3.out _).mono ?_
  rintro e w1 ⟨rfl, n3, rfl⟩
  go_wp2_with fail
  refine (HR.out _ ?hb).mono ?_
  case hb => exact (by repeat' (first | (with_reducible exact Below.refl _ _) | (with_reducible assumption) | (with_reducible refine Below.alloc ?_ ?_ _) | (with_reducible refine below_drewN ?_ _) | (with_reducible refine Below.drew ?_) | (with_reducible refine Below.setCell ?_ ?_ _) | (with_reducible exact Nat.le_refl _) | (simp [size_drewN]; done) | (simp [size_drewN]; omega)))
  rintro e w1 ⟨rfl, rfl⟩
  go_wp2_with fail
  refine (HR2.out _ ?hb).mono ?_
  case hb => exact (by repeat' (first | (with_reducible exact Below.refl _ _) | (with_reducible assumption) | (with_reducible refine Below.alloc ?_ ?_ _) | (with_reducible refine below_drewN ?_ _) | (with_reducible refine Below.drew ?_) | (with_reducible refine Below.setCell ?_ ?_ _) | (with_reducible exact Nat.le_refl _) | (simp [size_drewN]; done) | (simp [size_drewN]; omega)))
  rintro e w1 ⟨rfl, rfl⟩
  go_wp2_with fail
  exact bodyPost_ret (v := .tuple #[.agg #[.bool false, .int .i64 f, .int .i64 t, .bool false, .int .i64 1, .bool false], .bool true]) (by simp [results, Tryd.results41, go_sem]) rfl ⟨rfl, (by repeat' (first | (with_reducible exact Below.refl _ _) | (with_reducible assumption) | (with_reducible refine Below.alloc ?_ ?_ _) | (with_reducible refine below_drewN ?_ _) | (with_reducible refine Below.drew ?_) | (with_reducible refine Below.setCell ?_ ?_ _) | (with_reducible exact Nat.le_refl _) | (simp [size_drewN]; done) | (simp [size_drewN]; omega)))⟩

set_option maxHeartbeats 1000000 in
theorem star_Bm (pa pb : Addr) (l sp af : Bytes) (n : Int) (w : World) (hl : l.length ≤ maxLen) (hst : cutB 47 l = (sp, af, true)) (hstep : stepB af = some n) (hs : sp = [42]) :
    Calls Tryd.prog 41 #[.string ⟨l.toArray⟩, .func (.func 57) #[] #[.pointer (some pa), .pointer (some pb)]] w fun e w' => e = .returned (.tuple #[.agg #[.bool true, .int .i64 0, .int .i64 0, .bool false, .int .i64 n, .bool true], .bool true]) ∧ Below w.heap.size w w' := by
  have H1 := cut_is l sp af true 47 hl hst
  have haf : af.length ≤ maxLen := by have := cutB_len 47 l; rw [hst] at this; simp only at this; omega
  have H2 := step_is af n haf hstep
  clear haf hstep
  subst hs
  clear hst hl
  go_enter Tryd.func41, Tryd.ntmps41
  go_wp2_with fail
  refine (H1.out _).mono ?_
  rintro e w1 ⟨rfl, n1, rfl⟩
  go_wp2_with fail
  refine (H2.out _).mono ?_
  rintro e w1 ⟨rfl, rfl⟩
  go_wp2_with fail
  exact bodyPost_ret (v := .tuple #[.agg #[.bool true, .int .i64 0, .int .i64 0, .bool false, .int .i64 n, .bool true], .bool true]) (by simp [results, Tryd.results41, go_sem]) rfl ⟨rfl, (by repeat' (first | (with_reducible exact Below.refl _ _) | (with_reducible assumption) | (with_reducible refine Below.alloc ?_ ?_ _) | (with_reducible refine below_drewN ?_ _) | (with_reducible refine Below.drew ?_) | (with_reducible refine Below.setCell ?_ ?_ _) | (with_reducible exact Nat.le_refl _) | (simp [size_drewN]; done) | (simp [size_drewN]; omega)))⟩

set_option maxHeartbeats 1000000 in
theorem lownot_Bm (pa pb : Addr) (l sp af : Bytes) (n : Int) (w : World) (hl : l.length ≤ maxLen) (hst : cutB 47 l = (sp, af, true)) (hstep : stepB af = some n) (hs : sp ≠ [42]) (lo hi : Bytes) (hs2 : cutB 45 sp = (lo, hi, true)) (hr : Rdm pa pb w lo none) :
    Calls Tryd.prog 41 #[.string ⟨l.toArray⟩, .func (.func 57) #[] #[.pointer (some pa), .pointer (some pb)]] w fun e w' => e = .returned (.tuple #[.agg #[.bool false, .int .i64 0, .int .i64 0, .bool false, .int .i64 0, .bool false], .bool false]) ∧ Below w.heap.size w w' := by
  have H1 := cut_is l sp af true 47 hl hst
  have haf : af.length ≤ maxLen := by have := cutB_len 47 l; rw [hst] at this; simp only at this; omega
  have H2 := step_is af n haf hstep
  clear haf hstep
  have hsp : sp.length ≤ maxLen := by have := cutB_len 47 l; rw [hst] at this; simp only at this; omega
  have H3 := cut_is sp lo hi true 45 hsp hs2
  have hns : (sp == [42]) = false := by simpa using hs
  clear hst hl hs hs2 hsp
  have HR : Hid (∀ w1, Below w.heap.size w w1 → Calls Tryd.prog 57 #[.string ⟨lo.toArray⟩, .pointer (some pa), .pointer (some pb)] w1 fun e w2 => e = .returned (.tuple #[.int .i64 0, .bool false]) ∧ w1 = w2) := Lib.hid hr
  clear hr
  go_enter Tryd.func41, Tryd.ntmps41
  go_wp2_with fail
  refine (H1.out _).mono ?_
  rintro e w1 ⟨rfl, n1, rfl⟩
  go_wp2_with fail
  refine (H2.out _).mono ?_
  rintro e w1 ⟨rfl, rfl⟩
  go_wp2_with fail
  refine (H3.out _).mono ?_
  rintro e w1 ⟨rfl, n3, rfl⟩
  go_wp2_with fail
  refine (HR.out _ ?hb).mono ?_
  case hb => exact (by repeat' (first | (with_reducible exact Below.refl _ _) | (with_reducible assumption) | (with_reducible refine Below.alloc ?_ ?_ _) | (with_reducible refine below_drewN ?_ _) | (with_reducible refine Below.drew ?_) | (with_reducible refine Below.setCell ?_ ?_ _) | (with_reducible exact Nat.le_refl _) | (simp [size_drewN]; done) | (simp [size_drewN]; omega)))
  rintro e w1 ⟨rfl, rfl⟩
  go_wp2_with fail
  exact bodyPost_ret (v := .tuple #[.agg #[.bool false, .int .i64 0, .int .i64 0, .bool false, .int .i64 0, .bool false], .bool false]) (by simp [results, Tryd.results41, go_sem]) rfl ⟨rfl, (by repeat' (first | (with_reducible exact Below.refl _ _) | (with_reducible assumption) | (with_reducible refine Below.alloc ?_ ?_ _) | (with_reducible refine below_drewN ?_ _) | (with_reducible refine Below.drew ?_) | (with_reducible refine Below.setCell ?_ ?_ _) | (with_reducible exact Nat.le_refl _) | (simp [size_drewN]; done) | (simp [size_drewN]; omega)))⟩

set_option maxHeartbeats 1000000 in
theorem lownof_Bm (pa pb : Addr) (l sp af : Bytes) (n : Int) (w : World) (hl : l.length ≤ maxLen) (hst : cutB 47 l = (sp, af, true)) (hstep : stepB af = some n) (hs : sp ≠ [42]) (lo hi : Bytes) (hs2 : cutB 45 sp = (lo, hi, false)) (hr : Rdm pa pb w lo none) :
    Calls Tryd.prog 41 #[.string ⟨l.toArray⟩, .func (.func 57) #[] #[.pointer (some pa), .pointer (some pb)]] w fun e w' => e = .returned (.tuple #[.agg #[.bool false, .int .i64 0, .int .i64 0, .bool false, .int .i64 0, .bool false], .bool false]) ∧ Below w.heap.size w w' := by
  have H1 := cut_is l sp af true 47 hl hst
  have haf : af.length ≤ maxLen := by have := cutB_len 47 l; rw [hst] at this; simp only at this; omega
  have H2 := step_is af n haf hstep
  clear haf hstep
  have hsp : sp.length ≤ maxLen := by have := cutB_len 47 l; rw [hst] at this; simp only at this; omega
  have H3 := cut_is sp lo hi false 45 hsp hs2
  have hns : (sp == [42]) = false := by simpa using hs
  clear hst hl hs hs2 hsp
  have HR : Hid (∀ w1, Below w.heap.size w w1 → Calls Tryd.prog 57 #[.string ⟨lo.toArray⟩, .pointer (some pa), .pointer (some pb)] w1 fun e w2 => e = .returned (.tuple #[.int .i64 0, .bool false]) ∧ w1 = w2) := Lib.hid hr
  clear hr
  go_enter Tryd.func41, Tryd.ntmps41
  go_wp2_with fail
  refine (H1.out _).mono ?_
  rintro e w1 ⟨rfl, n1, rfl⟩
  go_wp2_with fail
  refine (H2.out _).mono ?_
  rintro e w1 ⟨rfl, rfl⟩
  go_wp2_with fail
  refine (H3.out _).mono ?_
  rintro e w1 ⟨rfl, n3, rfl⟩
  go_wp2_with fail
  refine (HR.out _ ?hb).mono ?_
  case hb => exact (by repeat' (first | (with_reducible exact Below.refl _ _) | (with_reducible assumption) | (with_reducible refine Below.alloc ?_ ?_ _) | (with_reducible refine below_drewN ?_ _) | (with_reducible refine Below.drew ?_) | (with_reducible refine Below.setCell ?_ ?_ _) | (with_reducible exact Nat.le_refl _) | (simp [size_drewN]; done) | (simp [size_drewN]; omega)))
  rintro e w1 ⟨rfl, rfl⟩
  go_wp2_with fail
  exact bodyPost_ret (v := .tuple #[.agg #[.bool false, .int .i64 0, .int .i64 0, .bool false, .int .i64 0, .bool false], .bool false]) (by simp [results, Tryd.results41, go_sem]) rfl ⟨rfl, (by repeat' (first | (with_reducible exact Below.refl _ _) | (with_reducible assumption) | (with_reducible refine Below.alloc ?_ ?_ _) | (with_reducible refine below_drewN ?_ _) | (with_reducible refine Below.drew ?_) | (with_reducible refine Below.setCell ?_ ?_ _) | (with_reducible exact Nat.le_refl _) | (simp [size_drewN]; done) | (simp [size_drewN]; omega)))⟩

set_option maxHeartbeats 1000000 in
theorem one_Bm (pa pb : Addr) (l sp af : Bytes) (n : Int) (w : World) (hl : l.length ≤ maxLen) (hst : cutB 47 l = (sp, af, true)) (hstep : stepB af = some n) (hs : sp ≠ [42]) (lo hi : Bytes) (hs2 : cutB 45 sp = (lo, hi, false)) (f : Int) (hr : Rdm pa pb w lo (some f)) :
    Calls Tryd.prog 41 #[.string ⟨l.toArray⟩, .func (.func 57) #[] #[.pointer (some pa), .pointer (some pb)]] w fun e w' => e = .returned (.tuple #[.agg #[.bool false, .int .i64 f, .int .i64 f, .bool true, .int .i64 n, .bool true], .bool true]) ∧ Below w.heap.size w w' := by
  have H1 := cut_is l sp af true 47 hl hst
  have haf : af.length ≤ maxLen := by have := cutB_len 47 l; rw [hst] at this; simp only at this; omega
  have H2 := step_is af n haf hstep
  clear haf hstep
  have hsp : sp.length ≤ maxLen := by have := cutB_len 47 l; rw [hst] at this; simp only at this; omega
  have H3 := cut_is sp lo hi false 45 hsp hs2
  have hns : (sp == [42]) = false := by simpa using hs
  clear hst hl hs hs2 hsp
  have HR : Hid (∀ w1, Below w.heap.size w w1 → Calls Tryd.prog 57 #[.string ⟨lo.toArray⟩, .pointer (some pa), .pointer (some pb)] w1 fun e w2 => e = .returned (.tuple #[.int .i64 f, .bool true]) ∧ w1 = w2) := Lib.hid hr
  clear hr
  go_enter Tryd.func41, Tryd.ntmps41
  go_wp2_with fail
  refine (H1.out _).mono ?_
  rintro e w1 ⟨rfl, n1, rfl⟩
  go_wp2_with fail
  refine (H2.out _).mono ?_
  rintro e w1 ⟨rfl, rfl⟩
  go_wp2_with fail
  refine (H3.out _).mono ?_
  rintro e w1 ⟨rfl, n3, rfl⟩
  go_wp2_with fail
  refine (HR.out _ ?hb).mono ?_
  case hb => exact (by repeat' (first | (with_reducible exact Below.refl _ _) | (with_reducible assumption) | (with_reducible refine Below.alloc ?_ ?_ _) | (with_reducible refine below_drewN ?_ _) | (with_reducible refine Below.drew ?_) | (with_reducible refine Below.setCell ?_ ?_ _) | (with_reducible exact Nat.le_refl _) | (simp [size_drewN]; done) | (simp [size_drewN]; omega)))
  rintro e w1 ⟨rfl, rfl⟩
  go_wp2_with fail
  exact bodyPost_ret (v := .tuple #[.agg #[.bool false, .int .i64 f, .int .i64 f, .bool true, .int .i64 n, .bool true], .bool true]) (by simp [results, Tryd.results41, go_sem]) rfl ⟨rfl, (by repeat' (first | (with_reducible exact Below.refl _ _) | (with_reducible assumption) | (with_reducible refine Below.alloc ?_ ?_ _) | (with_reducible refine below_drewN ?_ _) | (with_reducible refine Below.drew ?_) | (with_reducible refine Below.setCell ?_ ?_ _) | (with_reducible exact Nat.le_refl _) | (simp [size_drewN]; done) | (simp [size_drewN]; omega)))⟩

set_option maxHeartbeats 1000000 in
theorem highno_Bm (pa pb : Addr) (l sp af : Bytes) (n : Int) (w : World) (hl : l.length ≤ maxLen) (hst : cutB 47 l = (sp, af, true)) (hstep : stepB af = some n) (hs : sp ≠ [42]) (lo hi : Bytes) (hs2 : cutB 45 sp = (lo, hi, true)) (f : Int) (hr : Rdm pa pb w lo (some f)) (hr2 : Rdm pa pb w hi none) :
    Calls Tryd.prog 41 #[.string ⟨l.toArray⟩, .func (.func 57) #[] #[.pointer (some pa), .pointer (some pb)]] w fun e w' => e = .returned (.tuple #[.agg #[.bool false, .int .i64 0, .int .i64 0, .bool false, .int .i64 0, .bool false], .bool false]) ∧ Below w.heap.size w w' := by
  have H1 := cut_is l sp af true 47 hl hst
  have haf : af.length ≤ maxLen := by have := cutB_len 47 l; rw [hst] at this; simp only at this; omega
  have H2 := step_is af n haf hstep
  clear haf hstep
  have hsp : sp.length ≤ maxLen := by have := cutB_len 47 l; rw [hst] at this; simp only at this; omega
  have H3 := cut_is sp lo hi true 45 hsp hs2
  have hns : (sp == [42]) = false := by simpa using hs
  clear hst hl hs hs2 hsp
  have HR : Hid (∀ w1, Below w.heap.size w w1 → Calls Tryd.prog 57 #[.string ⟨lo.toArray⟩, .pointer (some pa), .pointer (some pb)] w1 fun e w2 => e = .returned (.tuple #[.int .i64 f, .bool true]) ∧ w1 = w2) := Lib.hid hr
  clear hr
  have HR2 : Hid (∀ w1, Below w.heap.size w w1 → Calls Tryd.prog 57 #[.string ⟨hi.toArray⟩, .pointer (some pa), .pointer (some pb)] w1 fun e w2 => e = .returned (.tuple #[.int .i64 0, .bool false]) ∧ w1 = w2) := Lib.hid hr2
  clear hr2
  go_enter Tryd.func41, Tryd.ntmps41
  go_wp2_with fail
  refine (H1.out _).mono ?_
  rintro e w1 ⟨rfl, n1, rfl⟩
  go_wp2_with fail
  refine (H2.out _).mono ?_
  rintro e w1 ⟨rfl, rfl⟩
  go_wp2_with fail
  refine (H3.out _).mono ?_
  rintro e w1 ⟨rfl, n3, rfl⟩
  go_wp2_with fail
  refine (HR.out _ ?hb).mono ?_
  case hb => exact (by repeat' (first | (with_reducible exact Below.refl _ _) | (with_reducible assumption) | (with_reducible refine Below.alloc ?_ ?_ _) | (with_reducible refine below_drewN ?_ _) | (with_reducible refine Below.drew ?_) | (with_reducible refine Below.setCell ?_ ?_ _) | (with_reducible exact Nat.le_refl _) | (simp [size_drewN]; done) | (simp [size_drewN]; omega)))
  rintro e w1 ⟨rfl, rfl⟩
  go_wp2_with fail
  refine (HR2.out _ ?hb).mono ?_
  case hb => exact (by repeat' (first | (with_reducible exact Below.refl _ _) | (with_reducible assumption) | (with_reducible refine Below.alloc ?_ ?_ _) | (with_reducible refine below_drewN ?_ _) | (with_reducible refine Below.drew ?_) | (with_reducible refine Below.setCell ?_ ?_ _) | (with_reducible exact Nat.le_refl _) | (simp [size_drewN]; done) | (simp [size_drewN]; omega)))
  rintro e w1 ⟨rfl, rfl⟩
  go_wp2_with fail
  exact bodyPost_ret (v := .tuple #[.agg #[.bool false, .int .i64 0, .int .i64 0, .bool false, .int .i64 0, .bool false], .bool false]) (by simp [results, Tryd.results41, go_sem]) rfl ⟨rfl, (by repeat' (first | (with_reducible exact Below.refl _ _) | (with_reducible assumption) | (with_reducible refine Below.alloc ?_ ?_ _) | (with_reducible refine below_drewN ?_ _) | (with_reducible refine Below.drew ?_) | (with_reducible refine Below.setCell ?_ ?_ _) | (with_reducible exact Nat.le_refl _) | (simp [size_drewN]; done) | (simp [size_drewN]; omega)))⟩

set_option maxHeartbeats 1000000 in
theorem two_Bm (pa pb : Addr) (l sp af : Bytes) (n : Int) (w : World) (hl : l.length ≤ maxLen) (hst : cutB 47 l = (sp, af, true)) (hstep : stepB af = some n) (hs : sp ≠ [42]) (lo hi : Bytes) (hs2 : cutB 45 sp = (lo, hi, true)) (f : Int) (hr : Rdm pa pb w lo (some f)) (t : Int) (hr2 : Rdm pa pb w hi (some t)) :
    Calls Tryd.prog 41 #[.string ⟨l.toArray⟩, .func (.func 57) #[] #[.pointer (some pa), .pointer (some pb)]] w fun e w' => e = .returned (.tuple #[.agg #[.bool false, .int .i64 f, .int .i64 t, .bool false, .int .i64 n, .bool true], .bool true]) ∧ Below w.heap.size w w' := by
  have H1 := cut_is l sp af true 47 hl hst
  have haf : af.length ≤ maxLen := by have := cutB_len 47 l; rw [hst] at this; simp only at this; omega
  have H2 := step_is af n haf hstep
  clear haf hstep
  have hsp : sp.length ≤ maxLen := by have := cutB_len 47 l; rw [hst] at this; simp only at this; omega
  have H3 := cut_is sp lo hi true 45 hsp hs2
  have hns : (sp == [42]) = false := by simpa using hs
  clear hst hl hs hs2 hsp
  have HR : Hid (∀ w1, Below w.heap.size w w1 → Calls Tryd.prog 57 #[.string ⟨lo.toArray⟩, .pointer (some pa), .pointer (some pb)] w1 fun e w2 => e = .returned (.tuple #[.int .i64 f, .bool true]) ∧ w1 = w2) := Lib.hid hr
  clear hr
  have HR2 : Hid (∀ w1, Below w.heap.size w w1 → Calls Tryd.prog 57 #[.string ⟨hi.toArray⟩, .pointer (some pa), .pointer (some pb)] w1 fun e w2 => e = .returned (.tuple #[.int .i64 t, .bool true]) ∧ w1 = w2) := Lib.hid hr2
  clear hr2
  go_enter Tryd.func41, Tryd.ntmps41
  go_wp2_with fail
  refine (H1.out _).mono ?_
  rintro e w1 ⟨rfl, n1, rfl⟩
  go_wp2_with fail
  refine (H2.out _).mono ?_
  rintro e w1 ⟨rfl, rfl⟩
  go_wp2_with fail
  refine (H3.out _).mono ?_
  rintro e w1 ⟨rfl, n3, rfl⟩
  go_wp2_with fail
  refine (HR.out _ ?hb).mono ?_
  case hb => exact (by repeat' (first | (with_reducible exact Below.refl _ _) | (with_reducible assumption) | (with_reducible refine Below.alloc ?_ ?_ _) | (with_reducible refine below_drewN ?_ _) | (with_reducible refine Below.drew ?_) | (with_reducible refine Below.setCell ?_ ?_ _) | (with_reducible exact Nat.le_refl _) | (simp [size_drewN]; done) | (simp [size_drewN]; omega)))
  rintro e w1 ⟨rfl, rfl⟩
  go_wp2_with fail
  refine (HR2.out _ ?hb).mono ?_
  case hb => exact (by repeat' (first | (with_reducible exact Below.refl _ _) | (with_reducible assumption) | (with_reducible refine Below.alloc ?_ ?_ _) | (with_reducible refine below_drewN ?_ _) | (with_reducible refine Below.drew ?_) | (with_reducible refine Below.setCell ?_ ?_ _) | (with_reducible exact Nat.le_refl _) | (simp [size_drewN]; done) | (simp [size_drewN]; omega)))
  rintro e w1 ⟨rfl, rfl⟩
  go_wp2_with fail
  exact bodyPost_ret (v := .tuple #[.agg #[.bool false, .int .i64 f, .int .i64 t, .bool false, .int .i64 n, .bool true], .bool true]) (by simp [results, Tryd.results41, go_sem]) rfl ⟨rfl, (by repeat' (first | (with_reducible exact Below.refl _ _) | (with_reducible assumption) | (with_reducible refine Below.alloc ?_ ?_ _) | (with_reducible refine below_drewN ?_ _) | (with_reducible refine Below.drew ?_) | (with_reducible refine Below.setCell ?_ ?_ _) | (with_reducible exact Nat.le_refl _) | (simp [size_drewN]; done) | (simp [size_drewN]; omega)))⟩

set_option maxHeartbeats 1000000 in
theorem stepno_m (pa pb : Addr) (l sp af : Bytes) (w : World) (hl : l.length ≤ maxLen) (hst : cutB 47 l = (sp, af, true)) (hstep : stepB af = none) :
    Calls Tryd.prog 41 #[.string ⟨l.toArray⟩, .func (.func 57) #[] #[.pointer (some pa), .pointer (some pb)]] w fun e w' => e = .returned (.tuple #[.agg #[.bool false, .int .i64 0, .int .i64 0, .bool false, .int .i64 0, .bool false], .bool false]) ∧ Below w.heap.size w w' := by
  have H1 := cut_is l sp af true 47 hl hst
  have haf : af.length ≤ maxLen := by have := cutB_len 47 l; rw [hst] at this; simp only at this; omega
  have H2 := step_not af haf hstep
  clear haf hstep hst hl
  go_enter Tryd.func41, Tryd.ntmps41
  go_wp2_with fail
  refine (H1.out _).mono ?_
  rintro e w1 ⟨rfl, n1, rfl⟩
  go_wp2_with fail
  refine (H2.out _).mono ?_
  rintro e w1 ⟨rfl, rfl⟩
  go_wp2_with fail
  exact bodyPost_ret (v := .tuple #[.agg #[.bool false, .int .i64 0, .int .i64 0, .bool false, .int .i64 0, .bool false], .bool false]) (by simp [results, Tryd.results41, go_sem]) rfl ⟨rfl, (by repeat' (first | (with_reducible exact Below.refl _ _) | (with_reducible assumption) | (with_reducible refine Below.alloc ?_ ?_ _) | (with_reducible refine below_drewN ?_ _) | (with_reducible refine Below.drew ?_) | (with_reducible refine Below.setCell ?_ ?_ _) | (with_reducible exact Nat.le_refl _) | (simp [size_drewN]; done) | (simp [size_drewN]; omega)))⟩
end Go.Proofs.YtbbleedepmcdfaaDoor
