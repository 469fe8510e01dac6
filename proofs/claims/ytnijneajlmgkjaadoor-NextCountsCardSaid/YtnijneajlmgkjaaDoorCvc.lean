/- Walks of package civil, its own functions alone: leap years, lengths, weekdays, days, multiples, the date of a time. -/
import Derived.Test.YtnijneajlmgkjaaDoorCivA
import Derived.Test.YtnijneajlmgkjaaDoorBase
import Derived.Test.YtnijneajlmgkjaaDoorRows
import Derived.WalkKit
import Derived.Handy
import Derived.ProofKit
import Derived.Deep.QuietTactic
import Derived.BigQuiet
import Derived.Lib.Hide
import Derived.Outline
import Derived.Deep.Cut
set_option linter.unusedSimpArgs false
set_option linter.unusedVariables false
namespace Go.Proofs.YtnijneajlmgkjaaDoor
open Go.ChangeShapes Go.WideShapes Go.ChangeAt Go.RowKit Go.Civ Go.Base

theorem leap_any (y : Int) (w : World) :
    Calls Tryd.prog 77 #[.int .i64 y] w fun e w' => e = .returned (.bool (lp y)) ∧ w = w' := by
  by_cases h4 : (y.tmod 4 == 0) = true <;> by_cases h100 : (y.tmod 100 != 0) = true <;> by_cases h400 : (y.tmod 400 == 0) = true
  all_goals
    have H : Hid (lp y = ((y.tmod 4 == 0) && ((y.tmod 100 != 0) || (y.tmod 400 == 0)))) := Lib.hid rfl
    go_enter Tryd.func77, Tryd.ntmps77
    go_wp2
    go_ret
    exact ⟨ret_bool (by rw [H.out]; simp [*]), rfl⟩

/-- The table of the months' lengths lies in its variable. -/
def Tab (w : World) : Prop := ∀ k : Nat, k < 12 → w.cell? ⟨2, k, none⟩ = some (.int .i64 (([31, 28, 31, 30, 31, 30, 31, 31, 30, 31, 30, 31] : List Int).getD k 0))

theorem length_any (y m : Int) (w : World) (ht : Tab w) :
    Calls Tryd.prog 70 #[.int .i64 y, .int .i64 m] w fun e w' => e = .returned (.int .i64 (len y m)) ∧ w = w' := by
  by_cases hlo : m < 1
  · have H := Lib.hid (len_out y m (.inl hlo))
    go_enter Tryd.func70, Tryd.ntmps70
    go_wp2
    go_ret
    exact ⟨ret_int H.out.symm, rfl⟩
  by_cases hhi : 12 < m
  · have H := Lib.hid (len_out y m (.inr hhi))
    go_enter Tryd.func70, Tryd.ntmps70
    go_wp2
    go_ret
    exact ⟨ret_int H.out.symm, rfl⟩
  by_cases h2 : m = 2
  · subst h2
    by_cases hl : lp y = true
    · have H : Hid (len y 2 = 29) := Lib.hid (by simp [len, hl])
      clear ht
      go_enter Tryd.func70, Tryd.ntmps70
      go_wp2_with (go_at_call 77; refine (leap_any _ _).mono ?_; rintro e w' ⟨rfl, rfl⟩)
      go_ret
      exact ⟨ret_int H.out.symm, rfl⟩
    · have H : Hid (len y 2 = 28) := Lib.hid (by simp [len, hl])
      have hl' : lp y = false := by simpa using hl
      have hc := ht 1 (by omega)
      simp only [List.getD_cons_succ, List.getD_cons_zero] at hc
      clear ht hl
      go_enter Tryd.func70, Tryd.ntmps70
      go_wp2_with (go_at_call 77; refine (leap_any _ _).mono ?_; rintro e w' ⟨rfl, rfl⟩)
      go_ret
      exact ⟨ret_int H.out.symm, rfl⟩
  · obtain ⟨k, hk, rfl⟩ : ∃ k : Nat, k < 12 ∧ m = (k : Int) + 1 := ⟨(m - 1).toNat, by omega, by omega⟩
    have hc := ht k hk
    have e : ([31, 28, 31, 30, 31, 30, 31, 31, 30, 31, 30, 31] : List Int).getD k 0 = len y ((k : Int) + 1) := by
      rcases k with _ | _ | _ | _ | _ | _ | _ | _ | _ | _ | _ | _ | k
      all_goals first | (exfalso; omega) | simp [len]
    rw [e] at hc
    clear ht e
    go_enter Tryd.func70, Tryd.ntmps70
    go_wp2_with fail
    go_ret
    exact ⟨rfl, rfl⟩

theorem tmod_wd (n : Int) (h : -9223372036854775808 ≤ n) (h' : n ≤ 9223372036854775807) : (n.tmod 7 + 7 + 4) % 7 = wd n ∧ -7 < n.tmod 7 ∧ n.tmod 7 < 7 := by
  unfold wd
  have e := Int.tmod_eq_emod (a := n) (b := 7)
  by_cases h0 : 0 ≤ n ∨ (7 : Int) ∣ n
  · rw [if_pos h0] at e; omega
  · rw [if_neg h0] at e; simp at e; omega

theorem weekday_any (n : Int) (w : World) (h : -9223372036854775808 ≤ n) (h' : n ≤ 9223372036854775807) :
    Calls Tryd.prog 71 #[.int .i64 n] w fun e w' => e = .returned (.int .i64 (wd n)) ∧ w = w' := by
  obtain ⟨h1, h2, h3⟩ := tmod_wd n h h'
  have H := Lib.hid h1
  clear h1
  go_enter Tryd.func71, Tryd.ntmps71
  go_wp2
  go_ret
  exact ⟨ret_int H.out, rfl⟩

theorem newYear_any (y : Int) (w : World) (h : 1 ≤ y) (h' : y ≤ 10001) :
    Calls Tryd.prog 69 #[.int .i64 y] w fun e w' => e = .returned (.int .i64 (ah y - 719162)) ∧ w = w' := by
  have H : Hid (ah y = 365 * (y - 1) + (y - 1) / 4 - (y - 1) / 100 + (y - 1) / 400) := Lib.hid rfl
  go_enter Tryd.func69, Tryd.ntmps69
  go_wp2
  go_ret
  exact ⟨ret_int (by rw [H.out]; omega), rfl⟩

theorem emod_neg (t s : Int) (hs : 1 ≤ s) (ht : t < 0) : -s < t.tmod s ∧ t.tmod s ≤ 0 ∧ (t.tmod s = 0 → t % s = 0) ∧ (t.tmod s < 0 → t % s = t.tmod s + s) := by
  have e := Int.tmod_eq_emod (a := t) (b := s)
  have a := Int.emod_nonneg t (show s ≠ 0 by omega)
  have b := Int.emod_lt_of_pos t (show 0 < s by omega)
  by_cases h0 : 0 ≤ t ∨ s ∣ t
  · rw [if_pos h0] at e
    rcases h0 with h0 | h0
    · omega
    · have := Int.emod_eq_zero_of_dvd h0; omega
  · rw [if_neg h0] at e
    have : (s.natAbs : Int) = s := by omega
    have : t % s ≠ 0 := fun h => h0 (.inr (Int.dvd_of_emod_eq_zero h))
    omega

theorem emod_le (t s : Int) (hs : 1 ≤ s) (ht : 0 ≤ t) : t % s ≤ t := by
  have a := Int.mul_ediv_add_emod t s
  have b := Int.mul_nonneg (show 0 ≤ s by omega) (Int.ediv_nonneg ht (show 0 ≤ s by omega))
  omega

theorem floor_any (t s : Int) (w : World) (ht : -9223372036854775808 ≤ t) (ht' : t ≤ 9223372036854775807) (hs' : s ≤ 9223372036854775807) :
    Calls Tryd.prog 23 #[.int .i64 t, .int .i64 s] w fun e w' => e = .returned (.int .i64 (fl t s)) ∧ w = w' := by
  by_cases hs : s < 1
  · have H : Hid (fl t s = t) := Lib.hid (by unfold fl; rw [if_pos hs])
    go_enter Tryd.func23, Tryd.ntmps23
    go_wp2
    go_ret
    exact ⟨ret_int H.out.symm, rfl⟩
  have hs1 : 1 ≤ s := by omega
  by_cases h0 : 0 ≤ t
  · have a := Int.emod_nonneg t (show s ≠ 0 by omega)
    have b := emod_le t s hs1 h0
    have H : Hid (fl t s = t - t % s) := Lib.hid (by unfold fl; rw [if_neg hs, if_neg (by omega)])
    go_enter Tryd.func23, Tryd.ntmps23
    go_wp2
    go_ret
    exact ⟨ret_int H.out.symm, rfl⟩
  obtain ⟨b1, b2, b3, b4⟩ := emod_neg t s hs1 (by omega)
  by_cases hq : t.tmod s = 0
  · have H : Hid (fl t s = t) := Lib.hid (by unfold fl; rw [if_neg hs, b3 hq, if_neg (by omega)]; omega)
    clear b3 b4
    go_enter Tryd.func23, Tryd.ntmps23
    go_wp2
    go_ret
    exact ⟨ret_int (by rw [H.out]; try omega), rfl⟩
  have hq' : t.tmod s < 0 := by omega
  have e := b4 hq'
  clear b3 b4
  by_cases hf : t - (t.tmod s + s) < -9223372036854775808
  · have H : Hid (fl t s = t) := Lib.hid (by unfold fl; rw [if_neg hs, e, if_pos hf])
    have hw : t < wrap64 (t - (t.tmod s + s)) := by simp only [wrap64]; omega
    clear e
    go_enter Tryd.func23, Tryd.ntmps23
    go_wp2
    go_ret
    exact ⟨ret_int H.out.symm, rfl⟩
  · have H : Hid (fl t s = t - (t.tmod s + s)) := Lib.hid (by unfold fl; rw [if_neg hs, e, if_neg hf])
    clear e
    go_enter Tryd.func23, Tryd.ntmps23
    go_wp2
    go_ret
    exact ⟨ret_int H.out.symm, rfl⟩

theorem Tab.later {w w' : World} (h : Tab w) (hb : Below w.heap.size w w') : Tab w' := fun k hk => by
  have c := h k hk
  have l := World.block_lt_of_cell? w _ c
  rw [hb.cell l]; exact c

theorem Tab.alloc {w : World} (h : Tab w) (o : Obj) : Tab (w.alloc o) := h.later (below_alloc w o)

theorem year_lo {a y n : Int} (h : ah y ≤ n) (h' : n < ah a) : y + 1 ≤ a := by
  by_cases e : a ≤ y
  · have := ah_mono a y e; omega
  · omega

theorem dayOf_at (n y : Int) (k : Nat) (w : World) (ht : Tab w) (h1 : 1 ≤ y) (h2 : y ≤ 9999) (hk : k < 12) (lo : ah y + cum y k ≤ n + 719162) (hi : n + 719162 < ah y + cum y (k + 1)) :
    Calls Tryd.prog 50 #[.int .i64 n] w fun e w' => e = .returned (.agg #[.int .i64 y, .int .i64 ((k : Int) + 1), .int .i64 (n + 719162 - ah y - cum y k + 1), .int .i64 0, .int .i64 0, .int .i64 0, .int .i64 (wd n)]) ∧ Below w.heap.size w w' := by
  have ha := ah_bd y (by omega) (by omega)
  have hc := cum_bd y k
  have hc' := cum_bd y (k + 1)
  have hcy : cum y (k + 1) ≤ cum y 12 := cum_mono y _ _ (by omega)
  have hs := ah_succ y
  have hyl : ah y ≤ n + 719162 := by omega
  have hyh : n + 719162 < ah (y + 1) := by omega
  have hn0 : 0 ≤ n + 719162 := by omega
  have hn1 : n + 719162 ≤ 3652058 := by have := ah_mono (y + 1) 10000 (by omega); have e : ah 10000 = 3652059 := by decide
                                        omega
  clear hs hcy
  have HT := Lib.hid (ht.alloc (.cells #[.int .i64 0, .int .i64 0, .int .i64 0, .int .i64 0, .int .i64 0, .int .i64 0, .int .i64 0] 43))
  clear ht
  go_enter Tryd.func50, Tryd.ntmps50
  go_wp2
  go_loop [3] (fun t => ∃ a : Int, 1 ≤ a ∧ a ≤ 10000 ∧ t = .int .i64 a) (fun t => (intOf t).toNat)
  case atStart => exact ⟨_, by omega, by omega, rfl⟩
  case round =>
    obtain ⟨a, a1, a2, rfl⟩ := hrel
    have hab := ah_bd a a1 (by omega)
    by_cases hlt : n + 719162 < ah a
    · have hya := year_lo hyl hlt
      go_wp2_with (go_at_call 69; refine (newYear_any _ _ (by omega) (by omega)).mono ?_; rintro e w' ⟨rfl, rfl⟩)
      go_round
      case rel => exact ⟨a - 1, by omega, by omega, rfl⟩
      case measure => simp [intOf]; omega
    · have hay := year_lo (a := y + 1) (y := a) (n := n + 719162) (by omega) (by omega)
      go_wp2_with (go_at_call 69; refine (newYear_any _ _ (by omega) (by omega)).mono ?_; rintro e w' ⟨rfl, rfl⟩)
      clear hlt hab
      go_loop [3] (fun t => ∃ b : Int, 1 ≤ b ∧ b ≤ y ∧ t = .int .i64 b) (fun t => (10000 - intOf t).toNat)
      case atStart => exact ⟨_, by omega, by omega, rfl⟩
      case round =>
        clear hay a1 a2
        obtain ⟨b, b1, b2, rfl⟩ := hrel
        have hbb := ah_bd (b + 1) (by omega) (by omega)
        by_cases hle : ah (b + 1) ≤ n + 719162
        · have hby := year_lo hle hyh
          go_wp2_with (go_at_call 69; refine (newYear_any _ _ (by omega) (by omega)).mono ?_; rintro e w' ⟨rfl, rfl⟩)
          go_round
          case rel => exact ⟨b + 1, by omega, by omega, rfl⟩
          case measure => simp [intOf]; omega
        · have hby := year_lo (a := b + 1) (y := y) (n := n + 719162) hyl (by omega)
          obtain rfl : b = y := by omega
          clear hby b1 b2
          go_wp2_with (go_at_call 69; refine (newYear_any _ _ (by omega) (by omega)).mono ?_; rintro e w' ⟨rfl, rfl⟩)
          clear hle hbb
          go_loop [5, 4] (fun d m => ∃ j : Nat, j ≤ k ∧ m = .int .i64 ((j : Int) + 1) ∧ d = .int .i64 (n + 719162 - ah b - cum b j + 1)) (fun _ m => (13 - intOf m).toNat)
          case atStart => exact ⟨0, by omega, rfl, by simp [cum]; omega⟩
          case round =>
            obtain ⟨j, hj, rfl, rfl⟩ := hrel
            have hcj := cum_bd b j
            have hlj := len_bd b ((j : Int) + 1)
            have HC : Hid (cum b (j + 1) = cum b j + len b ((j : Int) + 1)) := Lib.hid rfl
            by_cases hjk : j < k
            · have hm := cum_mono b (j + 1) k hjk
              have hgt : len b ((j : Int) + 1) < n + 719162 - ah b - cum b j + 1 := by have := HC.out; omega
              go_wp2_with (go_at_call 70; refine (length_any _ _ _ HT.out).mono ?_; rintro e w' ⟨rfl, rfl⟩)
              go_round
              case rel => exact ⟨j + 1, by omega, by go_num, by rw [HC.out]; go_num⟩
              case measure => simp [intOf]; omega
            · obtain rfl : j = k := by omega
              have hgt : ¬ len b ((j : Int) + 1) < n + 719162 - ah b - cum b j + 1 := by have := HC.out; omega
              go_wp2_with (first | (go_at_call 70; refine (length_any _ _ _ HT.out).mono ?_; rintro e w' ⟨rfl, rfl⟩) | (go_at_call 71; refine (weekday_any _ _ (by omega) (by omega)).mono ?_; rintro e w' ⟨rfl, rfl⟩))
              exact bodyPost_ret (v := .agg #[.int .i64 b, .int .i64 ((j : Int) + 1), .int .i64 (n + 719162 - ah b - cum b j + 1), .int .i64 0, .int .i64 0, .int .i64 0, .int .i64 (wd n)]) (by simp [results, Tryd.results50, go_sem]) rfl ⟨rfl, by go_grown⟩

theorem of_no (t : Int) (w : World) (h : t < -62135596800 ∨ 253402300799 < t) :
    Calls Tryd.prog 25 #[.int .i64 t] w fun e w' => e = .returned (.tuple #[.agg #[.int .i64 0, .int .i64 0, .int .i64 0, .int .i64 0, .int .i64 0, .int .i64 0, .int .i64 0], .int .i64 10]) ∧ Below w.heap.size w w' := by
  rcases h with h | h
  all_goals
    go_enter Tryd.func25, Tryd.ntmps25
    go_wp2
    exact bodyPost_ret (v := .tuple #[.agg #[.int .i64 0, .int .i64 0, .int .i64 0, .int .i64 0, .int .i64 0, .int .i64 0, .int .i64 0], .int .i64 10]) (by simp [results, Tryd.results25, go_sem]) rfl ⟨rfl, by go_grown⟩

/-- A second of a day: which day, which date, which second of the day. -/
structure At (t n y : Int) (k : Nat) (s : Int) : Prop where
  lo : -62135596800 ≤ t
  hi : t ≤ 253402300799
  day : t = 86400 * n + s
  s0 : 0 ≤ s
  s1 : s < 86400
  y0 : 1 ≤ y
  y1 : y ≤ 9999
  k1 : k < 12
  dlo : ah y + cum y k ≤ n + 719162
  dhi : n + 719162 < ah y + cum y (k + 1)

theorem at_of (t : Int) (lo : -62135596800 ≤ t) (hi : t ≤ 253402300799) : ∃ n y k s, At t n y k s := by
  obtain ⟨y, k, a, b, c, d, e⟩ := date_of (t / 86400) (by omega) (by omega)
  exact ⟨t / 86400, y, k, t % 86400, lo, hi, by omega, by omega, by omega, a, b, c, d, e⟩

set_option maxHeartbeats 1000000 in
theorem of_at (t n y : Int) (k : Nat) (s : Int) (w : World) (ht : Tab w) (H : At t n y k s) :
    Calls Tryd.prog 25 #[.int .i64 t] w fun e w' => e = .returned (.tuple #[.agg #[.int .i64 y, .int .i64 ((k : Int) + 1), .int .i64 (n + 719162 - ah y - cum y k + 1), .int .i64 (s / 3600), .int .i64 (s % 3600 / 60), .int .i64 (s % 60), .int .i64 (wd n)], .int .i64 0]) ∧ Below w.heap.size w w' := by
  obtain ⟨lo, hi, day, s0, s1, y0, y1, k1, dlo, dhi⟩ := H
  have hf : fl t 86400 = 86400 * n := by unfold fl; rw [if_neg (by omega), if_neg (by omega)]; omega
  have hnl : -719162 ≤ n := by omega
  have hnh : n ≤ 2932896 := by omega
  have HT := Lib.hid (ht.alloc (.cells #[.int .i64 0, .int .i64 0, .int .i64 0, .int .i64 0, .int .i64 0, .int .i64 0, .int .i64 0] 43))
  have HD := Lib.hid day
  have hday : t - 86400 * n = s := by omega
  have hq : (86400 * n).tdiv 86400 = n := by rw [Int.mul_tdiv_cancel_left _ (by omega)]
  clear ht day
  go_enter Tryd.func25, Tryd.ntmps25
  go_wp2_with (first | (go_at_call 23; refine (floor_any _ _ _ (by omega) (by omega) (by omega)).mono ?_; rintro e w' ⟨rfl, rfl⟩; rw [hf]))
  refine (dayOf_at n y k _ HT.out y0 y1 k1 dlo dhi).mono ?_
  rintro e w1 ⟨rfl, hb1⟩
  have hr1 : w1.heap[w.heap.size]? = some (.cells #[.int .i64 0, .int .i64 0, .int .i64 0, .int .i64 0, .int .i64 0, .int .i64 0, .int .i64 0] 43 (0, 0)) := by
    rw [hb1.block _ (by simp)]; exact heap_new _ _
  have z1 : w.heap.size < w1.heap.size := by have := hb1.size; simp at this; omega
  have hb0 := Lib.hid ((below_alloc w (.cells #[.int .i64 0, .int .i64 0, .int .i64 0, .int .i64 0, .int .i64 0, .int .i64 0, .int .i64 0] 43)).trans (hb1.mono (by simp)))
  have HR := Lib.hid hr1
  clear hb1 hr1
  go_wp2_with (refine wpList_store_new rfl 43 (.tmp 2) (.tmp 32) rfl w.heap.size #[.int .i64 y, .int .i64 ((k : Int) + 1), .int .i64 (n + 719162 - ah y - cum y k + 1), .int .i64 (s / 3600), .int .i64 (s % 3600 / 60), .int .i64 (s % 60), .int .i64 (wd n)] rfl rfl 43 #[.int .i64 0, .int .i64 0, .int .i64 0, .int .i64 0, .int .i64 0, .int .i64 0, .int .i64 0] (heap_old _ z1 HR.out) (by kernel_rfl) rfl rfl ?_)
  intro w2 s2 b2 r2 o2
  obtain ⟨c2, f2⟩ := cells_of_heap r2
  have B2 := Lib.hid (b2 w.heap.size w (hb0.out.alloc (Nat.le_of_lt z1) _) (Nat.le_refl _))
  clear s2 b2 r2 o2 f2
  go_wp2
  exact bodyPost_ret (v := .tuple #[.agg #[.int .i64 y, .int .i64 ((k : Int) + 1), .int .i64 (n + 719162 - ah y - cum y k + 1), .int .i64 (s / 3600), .int .i64 (s % 3600 / 60), .int .i64 (s % 60), .int .i64 (wd n)], .int .i64 0]) (by simp [results, Tryd.results25, go_sem, c2]) rfl ⟨rfl, B2.out⟩
end Go.Proofs.YtnijneajlmgkjaaDoor
