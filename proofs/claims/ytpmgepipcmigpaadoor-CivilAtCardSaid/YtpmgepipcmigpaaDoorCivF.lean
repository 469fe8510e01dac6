/- Walk of the answer by definition: the date of a time. -/
import Derived.Test.YtpmgepipcmigpaaDoorCivE
set_option linter.unusedSimpArgs false
set_option linter.unusedVariables false
namespace Go.Proofs.YtpmgepipcmigpaaDoor
open Go.ChangeShapes Go.WideShapes Go.ChangeAt Go.RowKit Go.Civ Go.Base

def Between (y : Int) (a b : Value) : Prop := ∃ l h : Int, 1 ≤ l ∧ l ≤ y ∧ y ≤ h ∧ h ≤ 9999 ∧ a = .int .i64 l ∧ b = .int .i64 h

set_option maxHeartbeats 1000000 in
theorem refOf_at (t n y : Int) (k : Nat) (s : Int) (w : World) (H : At t n y k s) :
    Calls Tryd.prog 23 #[.int .i64 t] w fun e w' => e = .returned (.tuple #[.agg #[.int .i64 y, .int .i64 ((k : Int) + 1), .int .i64 (n + 719162 - ah y - cum y k + 1), .int .i64 (s / 3600), .int .i64 (s % 3600 / 60), .int .i64 (s % 60), .int .i64 (wd n)], .int .i64 0]) ∧ Below w.heap.size w w' := by
  obtain ⟨lo, hi, day, s0, s1, y0, y1, k1, dlo, dhi⟩ := H
  have ha := ah_bd y (by omega) (by omega)
  have hc := cum_bd y k
  have hcy : cum y (k + 1) ≤ cum y 12 := cum_mono y _ _ (by omega)
  have hs := ah_succ y
  have hyl : ah y ≤ n + 719162 := by omega
  have hyh : n + 719162 < ah (y + 1) := by omega
  have hn0 : 0 ≤ n + 719162 := by omega
  have hn1 : n + 719162 ≤ 3652058 := by omega
  have q1 : (t + 62135596800) / 86400 = n + 719162 := by omega
  have q2 : (t + 62135596800) % 86400 = s := by omega
  have q3 : s / 60 % 60 = s % 3600 / 60 := by omega
  have q4 : ah 1970 = 719162 := by decide
  have Q1 := Lib.hid q1
  have Q2 := Lib.hid q2
  clear hs hcy day q1 q2
  go_enter Tryd.func23, Tryd.ntmps23
  go_wp2_with fail
  rw [Q1.out, Q2.out]
  go_loop [6, 7] (Between y) (fun a b => (intOf b - intOf a).toNat)
  case atStart => exact ⟨1, 9999, by omega, by omega, by omega, by omega, rfl, rfl⟩
  case round =>
    obtain ⟨l, h, l1, l2, l3, l4, rfl, rfl⟩ := hrel
    by_cases hlt : l < h
    · have m1 : l + 1 ≤ (l + h + 1) / 2 := by omega
      have m2 : (l + h + 1) / 2 ≤ h := by omega
      by_cases hle : ah ((l + h + 1) / 2) ≤ n + 719162
      · have hmy := year_lo hle hyh
        go_wp2_with (go_at_call 27; refine (ahead_any _ _ (by omega) (by omega)).mono ?_; rintro e w' ⟨rfl, rfl⟩)
        go_round
        case rel => exact ⟨(l + h + 1) / 2, h, by omega, by omega, by omega, by omega, rfl, rfl⟩
        case measure => simp [intOf]; omega
      · have hmy := year_lo (a := (l + h + 1) / 2) (y := y) (n := n + 719162) hyl (by omega)
        go_wp2_with (go_at_call 27; refine (ahead_any _ _ (by omega) (by omega)).mono ?_; rintro e w' ⟨rfl, rfl⟩)
        go_round
        case rel => exact ⟨l, (l + h + 1) / 2 - 1, by omega, by omega, by omega, by omega, rfl, rfl⟩
        case measure => simp [intOf]; omega
    · obtain rfl : l = y := by omega
      clear l1 l2 l3 l4
      go_wp2_with (go_at_call 27; refine (ahead_any _ _ (by omega) (by omega)).mono ?_; rintro e w' ⟨rfl, rfl⟩)
      clear hlt
      go_loopw [10] (fun a wr => ∃ j : Nat, j ≤ k ∧ a = .int .i64 (n + 719162 - ah l - cum l j) ∧ wr = (w.alloc (.cells #[.int .i64 0, .int .i64 0, .int .i64 0, .int .i64 0, .int .i64 0, .int .i64 0, .int .i64 0] 31)).alloc (.cells #[.int .i64 l, .int .i64 ((j : Int) + 1), .int .i64 0, .int .i64 (s / 3600), .int .i64 (s % 3600 / 60), .int .i64 (s % 60), .int .i64 0] 31)) (fun a _ => (intOf a).toNat)
      case atStart => exact ⟨0, by omega, by simp [cum], rfl⟩
      case round =>
        obtain ⟨j, hj, rfl, rfl⟩ := hrel
        have hcj := cum_bd l j
        have hlj := len_lo l ((j : Int) + 1) (by omega) (by omega)
        have hlj' := len_bd l ((j : Int) + 1)
        have HC : Hid (cum l (j + 1) = cum l j + len l ((j : Int) + 1)) := Lib.hid rfl
        by_cases hjk : j < k
        · have hm := cum_mono l (j + 1) k hjk
          have hgt : len l ((j : Int) + 1) ≤ n + 719162 - ah l - cum l j := by have := HC.out; omega
          go_wp2_with (go_at_call 17; refine (refLength_any _ _ _).mono ?_; rintro e w' ⟨rfl, rfl⟩)
          go_roundw
          case rel => exact ⟨j + 1, by omega, by rw [HC.out]; go_num, by simp⟩
          case measure => simp [intOf]; omega
        · obtain rfl : j = k := by omega
          have hgt : ¬ len l ((j : Int) + 1) ≤ n + 719162 - ah l - cum l j := by have := HC.out; omega
          go_wp2_with (first | (refine wpList_store_new rfl 31 (.tmp 2) (.tmp 76) rfl w.heap.size #[.int .i64 l, .int .i64 ((j : Int) + 1), .int .i64 (n + 719162 - ah l - cum l j + 1), .int .i64 (s / 3600), .int .i64 (s % 3600 / 60), .int .i64 (s % 60), .int .i64 (wd n)] rfl rfl 31 #[.int .i64 0, .int .i64 0, .int .i64 0, .int .i64 0, .int .i64 0, .int .i64 0, .int .i64 0] (heap_old _ (by simp) (heap_new _ _)) (by kernel_rfl) rfl rfl ?_) | (go_at_call 17; refine (refLength_any _ _ _).mono ?_; rintro e w' ⟨rfl, rfl⟩) | (go_at_call 27; refine (ahead_any _ _ (by omega) (by omega)).mono ?_; rintro e w' ⟨rfl, rfl⟩; rw [q4]) | (go_at_call 19; refine (refWeekday_any _ _ (by omega) (by omega)).mono ?_; rintro e w' ⟨rfl, rfl⟩))
          intro w2 s2 b2 r2 o2
          obtain ⟨c2, f2⟩ := cells_of_heap r2
          have B2 := Lib.hid (b2 w.heap.size w (((Below.refl _ _).alloc (Nat.le_refl _) _).alloc (by simp) _) (Nat.le_refl _))
          clear s2 b2 r2 o2 f2
          go_wp2
          exact bodyPost_ret (v := .tuple #[.agg #[.int .i64 l, .int .i64 ((j : Int) + 1), .int .i64 (n + 719162 - ah l - cum l j + 1), .int .i64 (s / 3600), .int .i64 (s % 3600 / 60), .int .i64 (s % 60), .int .i64 (wd n)], .int .i64 0]) (by simp [results, Tryd.results23, go_sem, c2]) rfl ⟨rfl, B2.out⟩
end Go.Proofs.YtpmgepipcmigpaaDoor
