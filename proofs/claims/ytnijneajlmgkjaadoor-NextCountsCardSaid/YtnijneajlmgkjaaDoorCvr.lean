/- Walks of civil's answers by definition. -/
import Derived.Test.YtnijneajlmgkjaaDoorCvd
set_option linter.unusedSimpArgs false
set_option linter.unusedVariables false
namespace Go.Proofs.YtnijneajlmgkjaaDoor
open Go.ChangeShapes Go.WideShapes Go.ChangeAt Go.RowKit Go.Civ Go.Base

theorem refLeap_any (y : Int) (w : World) :
    Calls Tryd.prog 75 #[.int .i64 y] w fun e w' => e = .returned (.bool (lp y)) ∧ w = w' := by
  by_cases h4 : (y.tmod 4 == 0) = true <;> by_cases h100 : (y.tmod 100 != 0) = true <;> by_cases h400 : (y.tmod 400 == 0) = true
  all_goals
    have H : Hid (lp y = ((y.tmod 4 == 0) && ((y.tmod 100 != 0) || (y.tmod 400 == 0)))) := Lib.hid rfl
    go_enter Tryd.func75, Tryd.ntmps75
    go_wp2
    go_ret
    exact ⟨ret_bool (by rw [H.out]; simp [*]), rfl⟩

theorem refLength_any (y m : Int) (w : World) :
    Calls Tryd.prog 59 #[.int .i64 y, .int .i64 m] w fun e w' => e = .returned (.int .i64 (len y m)) ∧ w = w' := by
  by_cases hlo : m < 1 ∨ 12 < m
  · have H := Lib.hid (len_out y m hlo)
    rcases hlo with hlo | hlo
    all_goals
      go_enter Tryd.func59, Tryd.ntmps59
      go_wp2_with fail
      go_ret
      exact ⟨ret_int H.out.symm, rfl⟩
  · obtain ⟨k, hk, rfl⟩ : ∃ k : Nat, k < 12 ∧ m = (k : Int) + 1 := ⟨(m - 1).toNat, by omega, by omega⟩
    clear hlo
    by_cases hl : lp y = true
    · have HL := Lib.hid hl
      rcases k with _ | _ | _ | _ | _ | _ | _ | _ | _ | _ | _ | _ | k
      all_goals first | (exfalso; omega) | skip
      all_goals
        clear hk
        go_enter Tryd.func59, Tryd.ntmps59
        go_wp2_with (go_at_call 75; refine (refLeap_any _ _).mono ?_; rintro e w' ⟨rfl, rfl⟩)
        go_ret
        exact ⟨ret_int (by simp [len, HL.out]), rfl⟩
    · have hl' : lp y = false := by simpa using hl
      have HL := Lib.hid hl'
      clear hl
      rcases k with _ | _ | _ | _ | _ | _ | _ | _ | _ | _ | _ | _ | k
      all_goals first | (exfalso; omega) | skip
      all_goals
        clear hk
        go_enter Tryd.func59, Tryd.ntmps59
        go_wp2_with (go_at_call 75; refine (refLeap_any _ _).mono ?_; rintro e w' ⟨rfl, rfl⟩)
        go_ret
        exact ⟨ret_int (by simp [len, HL.out]), rfl⟩

theorem refWeekday_any (n : Int) (w : World) (h : -9223372036854775808 ≤ n) (h' : n ≤ 9223372036854775807) :
    Calls Tryd.prog 61 #[.int .i64 n] w fun e w' => e = .returned (.int .i64 (wd n)) ∧ w = w' := by
  obtain ⟨h1, h2, h3⟩ := tmod_wd n h h'
  have H := Lib.hid h1
  clear h1
  by_cases hn : n.tmod 7 < 0
  all_goals
    go_enter Tryd.func61, Tryd.ntmps61
    go_wp2
    go_ret
    exact ⟨ret_int (by rw [← H.out]; try omega), rfl⟩

theorem ahead_any (y : Int) (w : World) (h : 1 ≤ y) (h' : y ≤ 10001) :
    Calls Tryd.prog 60 #[.int .i64 y] w fun e w' => e = .returned (.int .i64 (ah y)) ∧ w = w' := by
  have H : Hid (ah y = 365 * (y - 1) + (y - 1) / 4 - (y - 1) / 100 + (y - 1) / 400) := Lib.hid rfl
  go_enter Tryd.func60, Tryd.ntmps60
  go_wp2
  go_ret
  exact ⟨ret_int (by rw [H.out]), rfl⟩

theorem refNumber_no (y m d : Int) (w : World) (h : ¬ okd y m d) :
    Calls Tryd.prog 38 #[.int .i64 y, .int .i64 m, .int .i64 d] w fun e w' => e = .returned (.tuple #[.int .i64 0, .int .i64 10]) ∧ w = w' := by
  by_cases h1 : y < 1
  · clear h
    go_enter Tryd.func38, Tryd.ntmps38
    go_wp2_with fail
    go_ret2
    exact ⟨rfl, rfl⟩
  by_cases h2 : 9999 < y
  · clear h
    go_enter Tryd.func38, Tryd.ntmps38
    go_wp2_with fail
    go_ret2
    exact ⟨rfl, rfl⟩
  by_cases hm1 : m < 1
  · clear h
    go_enter Tryd.func38, Tryd.ntmps38
    go_wp2_with fail
    go_ret2
    exact ⟨rfl, rfl⟩
  by_cases hm2 : 12 < m
  · clear h
    go_enter Tryd.func38, Tryd.ntmps38
    go_wp2_with fail
    go_ret2
    exact ⟨rfl, rfl⟩
  by_cases h3 : d < 1
  · clear h
    go_enter Tryd.func38, Tryd.ntmps38
    go_wp2_with fail
    go_ret2
    exact ⟨rfl, rfl⟩
  have h4 : len y m < d := by unfold okd at h; omega
  clear h
  go_enter Tryd.func38, Tryd.ntmps38
  go_wp2_with (go_at_call 59; refine (refLength_any _ _ _).mono ?_; rintro e w' ⟨rfl, rfl⟩)
  go_ret2
  exact ⟨rfl, rfl⟩

theorem refNumber_ok (y m d : Int) (w : World) (h : okd y m d) :
    Calls Tryd.prog 38 #[.int .i64 y, .int .i64 m, .int .i64 d] w fun e w' => e = .returned (.tuple #[.int .i64 (num y m d), .int .i64 0]) ∧ w = w' := by
  obtain ⟨h1, h2, h3, h4, h5, h6⟩ := h
  obtain ⟨n, hn, rfl⟩ : ∃ n : Nat, n < 12 ∧ m = (n : Int) + 1 := ⟨(m - 1).toNat, by omega, by omega⟩
  have hl := len_bd y ((n : Int) + 1)
  have ha := ah_bd y (by omega) (by omega)
  have hb := ah_bd 1970 (by omega) (by omega)
  have H : Hid (num y ((n : Int) + 1) d = ah y - ah 1970 + cum y n + d - 1) := Lib.hid (by unfold num; rw [show ((n : Int) + 1 - 1).toNat = n by omega, show ah 1970 = 719162 by decide])
  go_enter Tryd.func38, Tryd.ntmps38
  go_wp2_with (first | (go_at_call 59; refine (refLength_any _ _ _).mono ?_; rintro e w' ⟨rfl, rfl⟩) | (go_at_call 60; refine (ahead_any _ _ (by omega) (by omega)).mono ?_; rintro e w' ⟨rfl, rfl⟩))
  go_loop [8, 9] (fun a i => ∃ k : Nat, k ≤ n ∧ i = .int .i64 ((k : Int) + 1) ∧ a = .int .i64 (ah y - ah 1970 + cum y k)) (fun _ i => (13 - intOf i).toNat)
  case atStart => exact ⟨0, by omega, rfl, by simp [cum]⟩
  case round =>
    obtain ⟨k, hk, rfl, rfl⟩ := hrel
    have hc := cum_bd y k
    have hl' := len_bd y ((k : Int) + 1)
    have HC : Hid (cum y (k + 1) = cum y k + len y ((k : Int) + 1)) := Lib.hid rfl
    by_cases hlt : k < n
    · go_wp2_with (go_at_call 59; refine (refLength_any _ _ _).mono ?_; rintro e w' ⟨rfl, rfl⟩)
      go_round
      case rel => exact ⟨k + 1, by omega, by go_num, by rw [HC.out]; go_num⟩
      case measure => simp [intOf]; omega
    · obtain rfl : n = k := by omega
      go_wp2_with fail
      go_ret2
      exact ⟨ret_tup (by rw [H.out]; try omega), rfl⟩

theorem refFloor_any (t s : Int) (w : World) (ht : -9223372036854775808 ≤ t) (ht' : t ≤ 9223372036854775807) (hs' : s ≤ 9223372036854775807) :
    Calls Tryd.prog 33 #[.int .i64 t, .int .i64 s] w fun e w' => e = .returned (.int .i64 (fl t s)) ∧ w = w' := by
  by_cases hs : s < 1
  · have H : Hid (fl t s = t) := Lib.hid (by unfold fl; rw [if_pos hs])
    go_enter Tryd.func33, Tryd.ntmps33
    go_wp2
    go_ret
    exact ⟨ret_int H.out.symm, rfl⟩
  have hs1 : 1 ≤ s := by omega
  by_cases h0 : 0 ≤ t
  · have a := Int.emod_nonneg t (show s ≠ 0 by omega)
    have b := emod_le t s hs1 h0
    have H : Hid (fl t s = t - t % s) := Lib.hid (by unfold fl; rw [if_neg hs, if_neg (by omega)])
    go_enter Tryd.func33, Tryd.ntmps33
    go_wp2
    go_ret
    exact ⟨ret_int H.out.symm, rfl⟩
  obtain ⟨b1, b2, b3, b4⟩ := emod_neg t s hs1 (by omega)
  by_cases hq : t.tmod s = 0
  · have H : Hid (fl t s = t) := Lib.hid (by unfold fl; rw [if_neg hs, b3 hq, if_neg (by omega)]; omega)
    clear b3 b4
    go_enter Tryd.func33, Tryd.ntmps33
    go_wp2
    go_ret
    exact ⟨ret_int (by rw [H.out]; try omega), rfl⟩
  have hq' : t.tmod s < 0 := by omega
  have e := b4 hq'
  clear b3 b4
  by_cases hf : t - (t.tmod s + s) < -9223372036854775808
  · have H : Hid (fl t s = t) := Lib.hid (by unfold fl; rw [if_neg hs, e, if_pos hf])
    have hw : t < -9223372036854775808 + (t.tmod s + s) := by omega
    clear e
    go_enter Tryd.func33, Tryd.ntmps33
    go_wp2
    go_ret
    exact ⟨ret_int H.out.symm, rfl⟩
  · have H : Hid (fl t s = t - (t.tmod s + s)) := Lib.hid (by unfold fl; rw [if_neg hs, e, if_neg hf])
    have hw : ¬ t < -9223372036854775808 + (t.tmod s + s) := by omega
    clear e
    go_enter Tryd.func33, Tryd.ntmps33
    go_wp2
    go_ret
    exact ⟨ret_int H.out.symm, rfl⟩

theorem refOf_no (t : Int) (w : World) (h : t < -62135596800 ∨ 253402300799 < t) :
    Calls Tryd.prog 39 #[.int .i64 t] w fun e w' => e = .returned (.tuple #[.agg #[.int .i64 0, .int .i64 0, .int .i64 0, .int .i64 0, .int .i64 0, .int .i64 0, .int .i64 0], .int .i64 10]) ∧ Below w.heap.size w w' := by
  rcases h with h | h
  all_goals
    go_enter Tryd.func39, Tryd.ntmps39
    go_wp2
    exact bodyPost_ret (v := .tuple #[.agg #[.int .i64 0, .int .i64 0, .int .i64 0, .int .i64 0, .int .i64 0, .int .i64 0, .int .i64 0], .int .i64 10]) (by simp [results, Tryd.results39, go_sem]) rfl ⟨rfl, by go_grown⟩

def Between (y : Int) (a b : Value) : Prop := ∃ l h : Int, 1 ≤ l ∧ l ≤ y ∧ y ≤ h ∧ h ≤ 9999 ∧ a = .int .i64 l ∧ b = .int .i64 h

set_option maxHeartbeats 1000000 in
theorem refOf_at (t n y : Int) (k : Nat) (s : Int) (w : World) (H : At t n y k s) :
    Calls Tryd.prog 39 #[.int .i64 t] w fun e w' => e = .returned (.tuple #[.agg #[.int .i64 y, .int .i64 ((k : Int) + 1), .int .i64 (n + 719162 - ah y - cum y k + 1), .int .i64 (s / 3600), .int .i64 (s % 3600 / 60), .int .i64 (s % 60), .int .i64 (wd n)], .int .i64 0]) ∧ Below w.heap.size w w' := by
  obtain ⟨lo, hi, day, s0, s1, y0, y1, k1, dlo, dhi⟩ := H
  have ha := ah_bd y (by omega) (by omega)
  have hc := cum_bd y k
  have hcy : cum y (k + 1) ≤ cum y 12 := cum_mono y _ _ (by omega)
  have hs := ah_succ y
  have hyl : ah y ≤ n + 719162 := by omega
  have hyh : n + 719162 < ah (y + 1) := by omega
  have hn0 : 0 ≤ n + 719162 := by omega
  have hn1 : n + 719162 ≤ 3652058 := by omega
  have q1 : (t + 62135596800) / 86400 = n + 719162 := by omega
  have q2 : (t + 62135596800) % 86400 = s := by omega
  have q3 : s / 60 % 60 = s % 3600 / 60 := by omega
  have q4 : ah 1970 = 719162 := by decide
  have Q1 := Lib.hid q1
  have Q2 := Lib.hid q2
  clear hs hcy day q1 q2
  go_enter Tryd.func39, Tryd.ntmps39
  go_wp2_with fail
  rw [Q1.out, Q2.out]
  go_loop [6, 7] (Between y) (fun a b => (intOf b - intOf a).toNat)
  case atStart => exact ⟨1, 9999, by omega, by omega, by omega, by omega, rfl, rfl⟩
  case round =>
    obtain ⟨l, h, l1, l2, l3, l4, rfl, rfl⟩ := hrel
    by_cases hlt : l < h
    · have m1 : l + 1 ≤ (l + h + 1) / 2 := by omega
      have m2 : (l + h + 1) / 2 ≤ h := by omega
      by_cases hle : ah ((l + h + 1) / 2) ≤ n + 719162
      · have hmy := year_lo hle hyh
        go_wp2_with (go_at_call 60; refine (ahead_any _ _ (by omega) (by omega)).mono ?_; rintro e w' ⟨rfl, rfl⟩)
        go_round
        case rel => exact ⟨(l + h + 1) / 2, h, by omega, by omega, by omega, by omega, rfl, rfl⟩
        case measure => simp [intOf]; omega
      · have hmy := year_lo (a := (l + h + 1) / 2) (y := y) (n := n + 719162) hyl (by omega)
        go_wp2_with (go_at_call 60; refine (ahead_any _ _ (by omega) (by omega)).mono ?_; rintro e w' ⟨rfl, rfl⟩)
        go_round
        case rel => exact ⟨l, (l + h + 1) / 2 - 1, by omega, by omega, by omega, by omega, rfl, rfl⟩
        case measure => simp [intOf]; omega
    · obtain rfl : l = y := by omega
      clear l1 l2 l3 l4
      go_wp2_with (go_at_call 60; refine (ahead_any _ _ (by omega) (by omega)).mono ?_; rintro e w' ⟨rfl, rfl⟩)
      clear hlt
      go_loopw [10] (fun a wr => ∃ j : Nat, j ≤ k ∧ a = .int .i64 (n + 719162 - ah l - cum l j) ∧ wr = (w.alloc (.cells #[.int .i64 0, .int .i64 0, .int .i64 0, .int .i64 0, .int .i64 0, .int .i64 0, .int .i64 0] 43)).alloc (.cells #[.int .i64 l, .int .i64 ((j : Int) + 1), .int .i64 0, .int .i64 (s / 3600), .int .i64 (s % 3600 / 60), .int .i64 (s % 60), .int .i64 0] 43)) (fun a _ => (intOf a).toNat)
      case atStart => exact ⟨0, by omega, by simp [cum], rfl⟩
      case round =>
        obtain ⟨j, hj, rfl, rfl⟩ := hrel
        have hcj := cum_bd l j
        have hlj := len_lo l ((j : Int) + 1) (by omega) (by omega)
        have hlj' := len_bd l ((j : Int) + 1)
        have HC : Hid (cum l (j + 1) = cum l j + len l ((j : Int) + 1)) := Lib.hid rfl
        by_cases hjk : j < k
        · have hm := cum_mono l (j + 1) k hjk
          have hgt : len l ((j : Int) + 1) ≤ n + 719162 - ah l - cum l j := by have := HC.out; omega
          go_wp2_with (go_at_call 59; refine (refLength_any _ _ _).mono ?_; rintro e w' ⟨rfl, rfl⟩)
          go_roundw
          case rel => exact ⟨j + 1, by omega, by rw [HC.out]; go_num, by simp⟩
          case measure => simp [intOf]; omega
        · obtain rfl : j = k := by omega
          have hgt : ¬ len l ((j : Int) + 1) ≤ n + 719162 - ah l - cum l j := by have := HC.out; omega
          go_wp2_with (first | (refine wpList_store_new rfl 43 (.tmp 2) (.tmp 76) rfl w.heap.size #[.int .i64 l, .int .i64 ((j : Int) + 1), .int .i64 (n + 719162 - ah l - cum l j + 1), .int .i64 (s / 3600), .int .i64 (s % 3600 / 60), .int .i64 (s % 60), .int .i64 (wd n)] rfl rfl 43 #[.int .i64 0, .int .i64 0, .int .i64 0, .int .i64 0, .int .i64 0, .int .i64 0, .int .i64 0] (heap_old _ (by simp) (heap_new _ _)) (by kernel_rfl) rfl rfl ?_) | (go_at_call 59; refine (refLength_any _ _ _).mono ?_; rintro e w' ⟨rfl, rfl⟩) | (go_at_call 60; refine (ahead_any _ _ (by omega) (by omega)).mono ?_; rintro e w' ⟨rfl, rfl⟩; rw [q4]) | (go_at_call 61; refine (refWeekday_any _ _ (by omega) (by omega)).mono ?_; rintro e w' ⟨rfl, rfl⟩))
          intro w2 s2 b2 r2 o2
          obtain ⟨c2, f2⟩ := cells_of_heap r2
          have B2 := Lib.hid (b2 w.heap.size w (((Below.refl _ _).alloc (Nat.le_refl _) _).alloc (by simp) _) (Nat.le_refl _))
          clear s2 b2 r2 o2 f2
          go_wp2
          exact bodyPost_ret (v := .tuple #[.agg #[.int .i64 l, .int .i64 ((j : Int) + 1), .int .i64 (n + 719162 - ah l - cum l j + 1), .int .i64 (s / 3600), .int .i64 (s % 3600 / 60), .int .i64 (s % 60), .int .i64 (wd n)], .int .i64 0]) (by simp [results, Tryd.results39, go_sem, c2]) rfl ⟨rfl, B2.out⟩
end Go.Proofs.YtnijneajlmgkjaaDoor
