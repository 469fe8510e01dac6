/- Walks of package civil and of its answers by definition: the date of a time. -/
import Derived.Test.YtpmgepipcmigpaaDoorCivD
import Derived.Deep.Cut
set_option linter.unusedSimpArgs false
set_option linter.unusedVariables false
namespace Go.Proofs.YtpmgepipcmigpaaDoor
open Go.ChangeShapes Go.WideShapes Go.ChangeAt Go.RowKit Go.Civ Go.Base

theorem Tab.later {w w' : World} (h : Tab w) (hb : Below w.heap.size w w') : Tab w' := fun k hk => by
  have c := h k hk
  have l := World.block_lt_of_cell? w _ c
  rw [hb.cell l]; exact c
theorem Tab.alloc {w : World} (h : Tab w) (o : Obj) : Tab (w.alloc o) := h.later (below_alloc w o)

theorem year_lo {a y n : Int} (h : ah y ≤ n) (h' : n < ah a) : y + 1 ≤ a := by
  by_cases e : a ≤ y
  · have := ah_mono a y e; omega
  · omega

theorem dayOf_at (n y : Int) (k : Nat) (w : World) (ht : Tab w) (h1 : 1 ≤ y) (h2 : y ≤ 9999) (hk : k < 12) (lo : ah y + cum y k ≤ n + 719162) (hi : n + 719162 < ah y + cum y (k + 1)) :
    Calls Tryd.prog 29 #[.int .i64 n] w fun e w' => e = .returned (.agg #[.int .i64 y, .int .i64 ((k : Int) + 1), .int .i64 (n + 719162 - ah y - cum y k + 1), .int .i64 0, .int .i64 0, .int .i64 0, .int .i64 (wd n)]) ∧ Below w.heap.size w w' := by
  have ha := ah_bd y (by omega) (by omega)
  have hc := cum_bd y k
  have hc' := cum_bd y (k + 1)
  have hcy : cum y (k + 1) ≤ cum y 12 := cum_mono y _ _ (by omega)
  have hs := ah_succ y
  have hyl : ah y ≤ n + 719162 := by omega
  have hyh : n + 719162 < ah (y + 1) := by omega
  have hn0 : 0 ≤ n + 719162 := by omega
  have hn1 : n + 719162 ≤ 3652058 := by have := ah_mono (y + 1) 10000 (by omega); have e : ah 10000 = 3652059 := by decide
                                        omega
  clear hs hcy
  have HT := Lib.hid (ht.alloc (.cells #[.int .i64 0, .int .i64 0, .int .i64 0, .int .i64 0, .int .i64 0, .int .i64 0, .int .i64 0] 31))
  clear ht
  go_enter Tryd.func29, Tryd.ntmps29
  go_wp2
  go_loop [3] (fun t => ∃ a : Int, 1 ≤ a ∧ a ≤ 10000 ∧ t = .int .i64 a) (fun t => (intOf t).toNat)
  case atStart => exact ⟨_, by omega, by omega, rfl⟩
  case round =>
    obtain ⟨a, a1, a2, rfl⟩ := hrel
    have hab := ah_bd a a1 (by omega)
    by_cases hlt : n + 719162 < ah a
    · have hya := year_lo hyl hlt
      go_wp2_with (go_at_call 26; refine (newYear_any _ _ (by omega) (by omega)).mono ?_; rintro e w' ⟨rfl, rfl⟩)
      go_round
      case rel => exact ⟨a - 1, by omega, by omega, rfl⟩
      case measure => simp [intOf]; omega
    · have hay := year_lo (a := y + 1) (y := a) (n := n + 719162) (by omega) (by omega)
      go_wp2_with (go_at_call 26; refine (newYear_any _ _ (by omega) (by omega)).mono ?_; rintro e w' ⟨rfl, rfl⟩)
      clear hlt hab
      go_loop [3] (fun t => ∃ b : Int, 1 ≤ b ∧ b ≤ y ∧ t = .int .i64 b) (fun t => (10000 - intOf t).toNat)
      case atStart => exact ⟨_, by omega, by omega, rfl⟩
      case round =>
        clear hay a1 a2
        obtain ⟨b, b1, b2, rfl⟩ := hrel
        have hbb := ah_bd (b + 1) (by omega) (by omega)
        by_cases hle : ah (b + 1) ≤ n + 719162
        · have hby := year_lo hle hyh
          go_wp2_with (go_at_call 26; refine (newYear_any _ _ (by omega) (by omega)).mono ?_; rintro e w' ⟨rfl, rfl⟩)
          go_round
          case rel => exact ⟨b + 1, by omega, by omega, rfl⟩
          case measure => simp [intOf]; omega
        · have hby := year_lo (a := b + 1) (y := y) (n := n + 719162) hyl (by omega)
          obtain rfl : b = y := by omega
          clear hby b1 b2
          go_wp2_with (go_at_call 26; refine (newYear_any _ _ (by omega) (by omega)).mono ?_; rintro e w' ⟨rfl, rfl⟩)
          clear hle hbb
          go_loop [5, 4] (fun d m => ∃ j : Nat, j ≤ k ∧ m = .int .i64 ((j : Int) + 1) ∧ d = .int .i64 (n + 719162 - ah b - cum b j + 1)) (fun _ m => (13 - intOf m).toNat)
          case atStart => exact ⟨0, by omega, rfl, by simp [cum]; omega⟩
          case round =>
            obtain ⟨j, hj, rfl, rfl⟩ := hrel
            have hcj := cum_bd b j
            have hlj := len_bd b ((j : Int) + 1)
            have HC : Hid (cum b (j + 1) = cum b j + len b ((j : Int) + 1)) := Lib.hid rfl
            by_cases hjk : j < k
            · have hm := cum_mono b (j + 1) k hjk
              have hgt : len b ((j : Int) + 1) < n + 719162 - ah b - cum b j + 1 := by have := HC.out; omega
              go_wp2_with (go_at_call 16; refine (length_any _ _ _ HT.out).mono ?_; rintro e w' ⟨rfl, rfl⟩)
              go_round
              case rel => exact ⟨j + 1, by omega, by go_num, by rw [HC.out]; go_num⟩
              case measure => simp [intOf]; omega
            · obtain rfl : j = k := by omega
              have hgt : ¬ len b ((j : Int) + 1) < n + 719162 - ah b - cum b j + 1 := by have := HC.out; omega
              go_wp2_with (first | (go_at_call 16; refine (length_any _ _ _ HT.out).mono ?_; rintro e w' ⟨rfl, rfl⟩) | (go_at_call 18; refine (weekday_any _ _ (by omega) (by omega)).mono ?_; rintro e w' ⟨rfl, rfl⟩))
              exact bodyPost_ret (v := .agg #[.int .i64 b, .int .i64 ((j : Int) + 1), .int .i64 (n + 719162 - ah b - cum b j + 1), .int .i64 0, .int .i64 0, .int .i64 0, .int .i64 (wd n)]) (by simp [results, Tryd.results29, go_sem]) rfl ⟨rfl, by go_grown⟩

theorem of_no (t : Int) (w : World) (h : t < -62135596800 ∨ 253402300799 < t) :
    Calls Tryd.prog 22 #[.int .i64 t] w fun e w' => e = .returned (.tuple #[.agg #[.int .i64 0, .int .i64 0, .int .i64 0, .int .i64 0, .int .i64 0, .int .i64 0, .int .i64 0], .int .i64 10]) ∧ Below w.heap.size w w' := by
  rcases h with h | h
  all_goals
    go_enter Tryd.func22, Tryd.ntmps22
    go_wp2
    exact bodyPost_ret (v := .tuple #[.agg #[.int .i64 0, .int .i64 0, .int .i64 0, .int .i64 0, .int .i64 0, .int .i64 0, .int .i64 0], .int .i64 10]) (by simp [results, Tryd.results22, go_sem]) rfl ⟨rfl, by go_grown⟩
theorem refOf_no (t : Int) (w : World) (h : t < -62135596800 ∨ 253402300799 < t) :
    Calls Tryd.prog 23 #[.int .i64 t] w fun e w' => e = .returned (.tuple #[.agg #[.int .i64 0, .int .i64 0, .int .i64 0, .int .i64 0, .int .i64 0, .int .i64 0, .int .i64 0], .int .i64 10]) ∧ Below w.heap.size w w' := by
  rcases h with h | h
  all_goals
    go_enter Tryd.func23, Tryd.ntmps23
    go_wp2
    exact bodyPost_ret (v := .tuple #[.agg #[.int .i64 0, .int .i64 0, .int .i64 0, .int .i64 0, .int .i64 0, .int .i64 0, .int .i64 0], .int .i64 10]) (by simp [results, Tryd.results23, go_sem]) rfl ⟨rfl, by go_grown⟩

/-- A second of a day: which day, which date, which second of the day. -/
structure At (t n y : Int) (k : Nat) (s : Int) : Prop where
  lo : -62135596800 ≤ t
  hi : t ≤ 253402300799
  day : t = 86400 * n + s
  s0 : 0 ≤ s
  s1 : s < 86400
  y0 : 1 ≤ y
  y1 : y ≤ 9999
  k1 : k < 12
  dlo : ah y + cum y k ≤ n + 719162
  dhi : n + 719162 < ah y + cum y (k + 1)
theorem at_of (t : Int) (lo : -62135596800 ≤ t) (hi : t ≤ 253402300799) : ∃ n y k s, At t n y k s := by
  obtain ⟨y, k, a, b, c, d, e⟩ := date_of (t / 86400) (by omega) (by omega)
  exact ⟨t / 86400, y, k, t % 86400, lo, hi, by omega, by omega, by omega, a, b, c, d, e⟩

set_option maxHeartbeats 1000000 in
theorem of_at (t n y : Int) (k : Nat) (s : Int) (w : World) (ht : Tab w) (H : At t n y k s) :
    Calls Tryd.prog 22 #[.int .i64 t] w fun e w' => e = .returned (.tuple #[.agg #[.int .i64 y, .int .i64 ((k : Int) + 1), .int .i64 (n + 719162 - ah y - cum y k + 1), .int .i64 (s / 3600), .int .i64 (s % 3600 / 60), .int .i64 (s % 60), .int .i64 (wd n)], .int .i64 0]) ∧ Below w.heap.size w w' := by
  obtain ⟨lo, hi, day, s0, s1, y0, y1, k1, dlo, dhi⟩ := H
  have hf : fl t 86400 = 86400 * n := by unfold fl; rw [if_neg (by omega), if_neg (by omega)]; omega
  have hnl : -719162 ≤ n := by omega
  have hnh : n ≤ 2932896 := by omega
  have HT := Lib.hid (ht.alloc (.cells #[.int .i64 0, .int .i64 0, .int .i64 0, .int .i64 0, .int .i64 0, .int .i64 0, .int .i64 0] 31))
  have HD := Lib.hid day
  have hday : t - 86400 * n = s := by omega
  have hq : (86400 * n).tdiv 86400 = n := by rw [Int.mul_tdiv_cancel_left _ (by omega)]
  clear ht day
  go_enter Tryd.func22, Tryd.ntmps22
  go_wp2_with (first | (go_at_call 24; refine (floor_any _ _ _ (by omega) (by omega) (by omega)).mono ?_; rintro e w' ⟨rfl, rfl⟩; rw [hf]))
  refine (dayOf_at n y k _ HT.out y0 y1 k1 dlo dhi).mono ?_
  rintro e w1 ⟨rfl, hb1⟩
  have hr1 : w1.heap[w.heap.size]? = some (.cells #[.int .i64 0, .int .i64 0, .int .i64 0, .int .i64 0, .int .i64 0, .int .i64 0, .int .i64 0] 31 (0, 0)) := by
    rw [hb1.block _ (by simp)]; exact heap_new _ _
  have z1 : w.heap.size < w1.heap.size := by have := hb1.size; simp at this; omega
  have hb0 := Lib.hid ((below_alloc w (.cells #[.int .i64 0, .int .i64 0, .int .i64 0, .int .i64 0, .int .i64 0, .int .i64 0, .int .i64 0] 31)).trans (hb1.mono (by simp)))
  have HR := Lib.hid hr1
  clear hb1 hr1
  go_wp2_with (refine wpList_store_new rfl 31 (.tmp 2) (.tmp 32) rfl w.heap.size #[.int .i64 y, .int .i64 ((k : Int) + 1), .int .i64 (n + 719162 - ah y - cum y k + 1), .int .i64 (s / 3600), .int .i64 (s % 3600 / 60), .int .i64 (s % 60), .int .i64 (wd n)] rfl rfl 31 #[.int .i64 0, .int .i64 0, .int .i64 0, .int .i64 0, .int .i64 0, .int .i64 0, .int .i64 0] (heap_old _ z1 HR.out) (by kernel_rfl) rfl rfl ?_)
  intro w2 s2 b2 r2 o2
  obtain ⟨c2, f2⟩ := cells_of_heap r2
  have B2 := Lib.hid (b2 w.heap.size w (hb0.out.alloc (Nat.le_of_lt z1) _) (Nat.le_refl _))
  clear s2 b2 r2 o2 f2
  go_wp2
  exact bodyPost_ret (v := .tuple #[.agg #[.int .i64 y, .int .i64 ((k : Int) + 1), .int .i64 (n + 719162 - ah y - cum y k + 1), .int .i64 (s / 3600), .int .i64 (s % 3600 / 60), .int .i64 (s % 60), .int .i64 (wd n)], .int .i64 0]) (by simp [results, Tryd.results22, go_sem, c2]) rfl ⟨rfl, B2.out⟩
end Go.Proofs.YtpmgepipcmigpaaDoor
