/- Walks of package civil: days' numbers; how dates and numbers go together. -/
import Derived.Test.YtnijneajlmgkjaaDoorCvc
set_option linter.unusedSimpArgs false
set_option linter.unusedVariables false
namespace Go.Proofs.YtnijneajlmgkjaaDoor
open Go.ChangeShapes Go.WideShapes Go.ChangeAt Go.RowKit Go.Civ Go.Base

def okc (h mi s : Int) : Prop := 0 ≤ h ∧ h < 24 ∧ 0 ≤ mi ∧ mi < 60 ∧ 0 ≤ s ∧ s < 60

theorem number_no (y m d : Int) (w : World) (ht : Tab w) (h : ¬ okd y m d) :
    Calls Tryd.prog 72 #[.int .i64 y, .int .i64 m, .int .i64 d] w fun e w' => e = .returned (.tuple #[.int .i64 0, .int .i64 10]) ∧ w = w' := by
  by_cases h1 : y < 1
  · clear h
    go_enter Tryd.func72, Tryd.ntmps72
    go_wp2_with fail
    go_ret2
    exact ⟨rfl, rfl⟩
  by_cases h2 : 9999 < y
  · clear h
    go_enter Tryd.func72, Tryd.ntmps72
    go_wp2_with fail
    go_ret2
    exact ⟨rfl, rfl⟩
  by_cases h3 : d < 1
  · clear h
    go_enter Tryd.func72, Tryd.ntmps72
    go_wp2_with fail
    go_ret2
    exact ⟨rfl, rfl⟩
  have h4 : len y m < d := by
    by_cases hm : m < 1 ∨ 12 < m
    · rw [len_out y m hm]; omega
    · unfold okd at h; omega
  have HT := Lib.hid ht
  clear h ht
  go_enter Tryd.func72, Tryd.ntmps72
  go_wp2_with (go_at_call 70; refine (length_any _ _ _ HT.out).mono ?_; rintro e w' ⟨rfl, rfl⟩)
  go_ret2
  exact ⟨rfl, rfl⟩

theorem number_ok (y m d : Int) (w : World) (ht : Tab w) (h : okd y m d) :
    Calls Tryd.prog 72 #[.int .i64 y, .int .i64 m, .int .i64 d] w fun e w' => e = .returned (.tuple #[.int .i64 (num y m d), .int .i64 0]) ∧ w = w' := by
  obtain ⟨h1, h2, h3, h4, h5, h6⟩ := h
  obtain ⟨n, hn, rfl⟩ : ∃ n : Nat, n < 12 ∧ m = (n : Int) + 1 := ⟨(m - 1).toNat, by omega, by omega⟩
  have hl := len_bd y ((n : Int) + 1)
  have ha := ah_bd y (by omega) (by omega)
  have H : Hid (num y ((n : Int) + 1) d = ah y - 719162 + cum y n + d - 1) := Lib.hid (by unfold num; rw [show ((n : Int) + 1 - 1).toNat = n by omega])
  have HT := Lib.hid ht
  clear ht
  go_enter Tryd.func72, Tryd.ntmps72
  go_wp2_with (first | (go_at_call 70; refine (length_any _ _ _ HT.out).mono ?_; rintro e w' ⟨rfl, rfl⟩) | (go_at_call 69; refine (newYear_any _ _ (by omega) (by omega)).mono ?_; rintro e w' ⟨rfl, rfl⟩))
  go_loop [8, 9] (fun a i => ∃ k : Nat, k ≤ n ∧ i = .int .i64 ((k : Int) + 1) ∧ a = .int .i64 (ah y - 719162 + d - 1 + cum y k)) (fun _ i => (13 - intOf i).toNat)
  case atStart => exact ⟨0, by omega, rfl, by simp [cum]⟩
  case round =>
    obtain ⟨k, hk, rfl, rfl⟩ := hrel
    have hc := cum_bd y k
    have hl' := len_bd y ((k : Int) + 1)
    have HC : Hid (cum y (k + 1) = cum y k + len y ((k : Int) + 1)) := Lib.hid rfl
    by_cases hlt : k < n
    · go_wp2_with (go_at_call 70; refine (length_any _ _ _ HT.out).mono ?_; rintro e w' ⟨rfl, rfl⟩)
      go_round
      case rel => exact ⟨k + 1, by omega, by go_num, by rw [HC.out]; go_num⟩
      case measure => simp [intOf]; omega
    · obtain rfl : n = k := by omega
      go_wp2_with fail
      go_ret2
      exact ⟨ret_tup (by rw [H.out]; omega), rfl⟩

theorem At.okd {t n y : Int} {k : Nat} {s : Int} (h : At t n y k s) : okd y ((k : Int) + 1) (n + 719162 - ah y - cum y k + 1) := by
  obtain ⟨lo, hi, day, s0, s1, y0, y1, k1, dlo, dhi⟩ := h
  have : cum y (k + 1) = cum y k + len y ((k : Int) + 1) := rfl
  unfold Civ.okd; omega

theorem At.okc {t n y : Int} {k : Nat} {s : Int} (h : At t n y k s) : okc (s / 3600) (s % 3600 / 60) (s % 60) := by
  obtain ⟨lo, hi, day, s0, s1, y0, y1, k1, dlo, dhi⟩ := h
  unfold Proofs.YtnijneajlmgkjaaDoor.okc; omega

theorem At.num {t n y : Int} {k : Nat} {s : Int} (h : At t n y k s) : num y ((k : Int) + 1) (n + 719162 - ah y - cum y k + 1) = n := by
  unfold Civ.num; rw [show ((k : Int) + 1 - 1).toNat = k by omega]; omega

theorem At.back {t n y : Int} {k : Nat} {s : Int} (h : At t n y k s) : n * 86400 + s / 3600 * 3600 + s % 3600 / 60 * 60 + s % 60 = t := by
  obtain ⟨lo, hi, day, s0, s1, y0, y1, k1, dlo, dhi⟩ := h
  omega

theorem lp_400 (y : Int) : lp (y + 400) = lp y := by
  rw [Bool.eq_iff_iff, lp_iff, lp_iff]; omega

theorem len_400 (y m : Int) : len (y + 400) m = len y m := by unfold len; rw [lp_400]

theorem cum_400 (y : Int) (n : Nat) : cum (y + 400) n = cum y n := by
  induction n with
  | zero => rfl
  | succ n ih => simp only [cum, ih, len_400]

theorem num_400 (y m d : Int) : num (y + 400) m d = num y m d + 146097 := by
  unfold num; rw [cum_400]; unfold ah; omega

theorem wd_400 (n : Int) : wd (n + 146097) = wd n := by unfold wd; omega

theorem wd_bd (n : Int) : 0 ≤ wd n ∧ wd n ≤ 6 := by unfold wd; omega

theorem wd_add (a l : Int) : wd (a + l) = (wd a + l) % 7 := by unfold wd; omega

/-- The month behind: which year, which month. -/
theorem num_next (y m : Int) (h : 1 ≤ m) (h' : m < 12) : num y (m + 1) 1 = num y m 1 + len y m := by
  obtain ⟨n, rfl⟩ : ∃ n : Nat, m = (n : Int) + 1 := ⟨(m - 1).toNat, by omega⟩
  unfold num
  rw [show ((n : Int) + 1 + 1 - 1).toNat = n + 1 by omega, show ((n : Int) + 1 - 1).toNat = n by omega]
  have : cum y (n + 1) = cum y n + len y ((n : Int) + 1) := rfl
  omega

theorem num_turn (y : Int) : num (y + 1) 1 1 = num y 12 1 + len y 12 := by
  unfold num
  have h := ah_succ y
  have : cum y 12 = cum y 11 + len y 12 := rfl
  have e1 : cum (y + 1) ((1 : Int) - 1).toNat = 0 := rfl
  have e2 : ((12 : Int) - 1).toNat = 11 := rfl
  rw [e1, e2]
  omega
end Go.Proofs.YtnijneajlmgkjaaDoor
