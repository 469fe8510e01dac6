/- Walk of the reference's own names. Written by gen_refname.py. -/
import Derived.Test.YtbbleedepmcdfaaDoorCrpE
set_option linter.unusedSimpArgs false
set_option linter.unusedVariables false
namespace Go.Proofs.YtbbleedepmcdfaaDoor
open Go.ChangeShapes Go.WideShapes Go.ChangeAt Go.RowKit Go.Base Go.Cro Go.Civ

/-- The place of a text among names, counted from 'first' on. -/
def nameB (names : List Bytes) (first : Int) (l : Bytes) : Option Int := (names.findIdx? (· == l)).map fun (i : Nat) => first + (i : Int)

theorem refName_none (k : Nat) (hk : k < 3) (l : Bytes) (w : World) :
    Calls Tryd.prog 76 #[.int .i64 k, .string ⟨l.toArray⟩] w fun e w' => e = .returned (.tuple #[.int .i64 0, .bool false]) ∧ Below w.heap.size w w' := by
  have hk' : k = 0 ∨ k = 1 ∨ k = 2 := by omega
  rcases hk' with rfl | rfl | rfl
  all_goals
    go_enter Tryd.func76, Tryd.ntmps76
    go_wp2
    refine wp_loop_rounds 2 ?_
    iterate 2 (try (rw [rounds_succ]; go_wp2))
    go_ret2
    exact ⟨rfl, Below.refl _ _⟩

theorem week_cell : ∀ j : Nat, j < 7 → (#[.string ⟨#[115, 117, 110]⟩, .string ⟨#[109, 111, 110]⟩, .string ⟨#[116, 117, 101]⟩, .string ⟨#[119, 101, 100]⟩, .string ⟨#[116, 104, 117]⟩, .string ⟨#[102, 114, 105]⟩, .string ⟨#[115, 97, 116]⟩] : Array Value)[j]? = some (.string ⟨(weekdays.getD j []).toArray⟩) := by
  intro j hj
  rcases (by omega : j = 0 ∨ j = 1 ∨ j = 2 ∨ j = 3 ∨ j = 4 ∨ j = 5 ∨ j = 6) with rfl | rfl | rfl | rfl | rfl | rfl | rfl <;> rfl
set_option maxHeartbeats 1600000 in
theorem refName_week (l : Bytes) (w : World) :
    Calls Tryd.prog 76 #[.int .i64 4, .string ⟨l.toArray⟩] w fun e w' => e = .returned (opt (nameB weekdays 0 l)) ∧ Below w.heap.size w w' := by
  go_enter Tryd.func76, Tryd.ntmps76
  go_wp2
  generalize hW : w.alloc (.cells #[.string ⟨#[115, 117, 110]⟩, .string ⟨#[109, 111, 110]⟩, .string ⟨#[116, 117, 101]⟩, .string ⟨#[119, 101, 100]⟩, .string ⟨#[116, 104, 117]⟩, .string ⟨#[102, 114, 105]⟩, .string ⟨#[115, 97, 116]⟩] 9) = W
  have hB : Below w.heap.size w W := by rw [← hW]; exact below_alloc w _
  have hh : W.heap[w.heap.size]? = some (.cells #[.string ⟨#[115, 117, 110]⟩, .string ⟨#[109, 111, 110]⟩, .string ⟨#[116, 117, 101]⟩, .string ⟨#[119, 101, 100]⟩, .string ⟨#[116, 104, 117]⟩, .string ⟨#[102, 114, 105]⟩, .string ⟨#[115, 97, 116]⟩] 9 (0, 0)) := by rw [← hW]; exact heap_new _ _
  have hc : ∀ j : Nat, j < 7 → W.cell? ⟨w.heap.size, j, none⟩ = some (.string ⟨(weekdays.getD j []).toArray⟩) := fun j hj => by rw [(cells_of_heap hh).1 j]; exact week_cell j hj
  have HB := Lib.hid hB
  clear hW hh hB
  go_loop [7] (fun i => ∃ k : Nat, k ≤ 7 ∧ i = .int .i64 k ∧ Hid (∀ j, j < k → (weekdays.getD j [] == l) = false)) (fun i => (40 - intOf i).toNat)
  case atStart => exact ⟨0, by omega, rfl, Lib.hid (fun j h => absurd h (by omega))⟩
  case round =>
    obtain ⟨k, hk, rfl, HN⟩ := hrel
    by_cases hlt : k < 7
    · have hck := hc k hlt
      by_cases he : (weekdays.getD k [] == l) = true
      · have H : Hid (weekdays.findIdx? (· == l) = some k) := Lib.hid (by
          rw [List.findIdx?_eq_some_iff_getElem]
          refine ⟨hlt, ?_, fun j hj => ?_⟩
          · have hq : weekdays.getD k [] = l := eq_of_beq he
            rw [List.getD_eq_getElem?_getD, List.getElem?_eq_getElem (show k < weekdays.length from hlt)] at hq
            exact beq_iff_eq.2 hq
          · have := HN.out j hj
            rw [List.getD_eq_getElem?_getD, List.getElem?_eq_getElem (show j < weekdays.length from Nat.lt_trans hj hlt)] at this
            simpa using this)
        clear HN hc
        generalize weekdays.getD k [] = x at hck he
        go_wp2_with (go_at_call 53; refine (refLow_any 4 (by omega) _).mono ?_; rintro e w' ⟨rfl, rfl⟩)
        go_ret2
        refine ⟨?_, HB.out⟩
        unfold nameB; rw [H.out]
        refine ret_tup ?_
        show wrap64 ((k : Int) + 0) = 0 + (k : Int)
        unfold wrap64; omega
      · have he' : (weekdays.getD k [] == l) = false := by simpa using he
        have HN2 : Hid (∀ j, j < k + 1 → (weekdays.getD j [] == l) = false) := Lib.hid (fun j hj => by
          by_cases h : j < k
          · exact HN.out j h
          · obtain rfl : j = k := by omega
            exact he')
        clear he HN
        generalize weekdays.getD k [] = x at hck he'
        clear hc
        go_wp2
        go_round
        case rel => exact ⟨k + 1, hlt, by congr 1, HN2⟩
        case measure => simp [intOf]; omega
    · have H : Hid (weekdays.findIdx? (· == l) = none) := Lib.hid (by
        rw [List.findIdx?_eq_none_iff]
        intro x hx
        obtain ⟨j, hj, rfl⟩ := List.getElem_of_mem hx
        have h : j < 7 := hj
        have := HN.out j (by omega)
        rw [List.getD_eq_getElem?_getD, List.getElem?_eq_getElem hj] at this
        simpa using this)
      clear HN hc
      go_wp2
      go_ret2
      refine ⟨?_, HB.out⟩
      unfold nameB; rw [H.out]
      rfl

theorem month_cell : ∀ j : Nat, j < 12 → (#[.string ⟨#[106, 97, 110]⟩, .string ⟨#[102, 101, 98]⟩, .string ⟨#[109, 97, 114]⟩, .string ⟨#[97, 112, 114]⟩, .string ⟨#[109, 97, 121]⟩, .string ⟨#[106, 117, 110]⟩, .string ⟨#[106, 117, 108]⟩, .string ⟨#[97, 117, 103]⟩, .string ⟨#[115, 101, 112]⟩, .string ⟨#[111, 99, 116]⟩, .string ⟨#[110, 111, 118]⟩, .string ⟨#[100, 101, 99]⟩] : Array Value)[j]? = some (.string ⟨(months.getD j []).toArray⟩) := by
  intro j hj
  rcases (by omega : j = 0 ∨ j = 1 ∨ j = 2 ∨ j = 3 ∨ j = 4 ∨ j = 5 ∨ j = 6 ∨ j = 7 ∨ j = 8 ∨ j = 9 ∨ j = 10 ∨ j = 11) with rfl | rfl | rfl | rfl | rfl | rfl | rfl | rfl | rfl | rfl | rfl | rfl <;> rfl
set_option maxHeartbeats 1600000 in
theorem refName_month (l : Bytes) (w : World) :
    Calls Tryd.prog 76 #[.int .i64 3, .string ⟨l.toArray⟩] w fun e w' => e = .returned (opt (nameB months 1 l)) ∧ Below w.heap.size w w' := by
  go_enter Tryd.func76, Tryd.ntmps76
  go_wp2
  generalize hW : w.alloc (.cells #[.string ⟨#[106, 97, 110]⟩, .string ⟨#[102, 101, 98]⟩, .string ⟨#[109, 97, 114]⟩, .string ⟨#[97, 112, 114]⟩, .string ⟨#[109, 97, 121]⟩, .string ⟨#[106, 117, 110]⟩, .string ⟨#[106, 117, 108]⟩, .string ⟨#[97, 117, 103]⟩, .string ⟨#[115, 101, 112]⟩, .string ⟨#[111, 99, 116]⟩, .string ⟨#[110, 111, 118]⟩, .string ⟨#[100, 101, 99]⟩] 9) = W
  have hB : Below w.heap.size w W := by rw [← hW]; exact below_alloc w _
  have hh : W.heap[w.heap.size]? = some (.cells #[.string ⟨#[106, 97, 110]⟩, .string ⟨#[102, 101, 98]⟩, .string ⟨#[109, 97, 114]⟩, .string ⟨#[97, 112, 114]⟩, .string ⟨#[109, 97, 121]⟩, .string ⟨#[106, 117, 110]⟩, .string ⟨#[106, 117, 108]⟩, .string ⟨#[97, 117, 103]⟩, .string ⟨#[115, 101, 112]⟩, .string ⟨#[111, 99, 116]⟩, .string ⟨#[110, 111, 118]⟩, .string ⟨#[100, 101, 99]⟩] 9 (0, 0)) := by rw [← hW]; exact heap_new _ _
  have hc : ∀ j : Nat, j < 12 → W.cell? ⟨w.heap.size, j, none⟩ = some (.string ⟨(months.getD j []).toArray⟩) := fun j hj => by rw [(cells_of_heap hh).1 j]; exact month_cell j hj
  have HB := Lib.hid hB
  clear hW hh hB
  go_loop [7] (fun i => ∃ k : Nat, k ≤ 12 ∧ i = .int .i64 k ∧ Hid (∀ j, j < k → (months.getD j [] == l) = false)) (fun i => (40 - intOf i).toNat)
  case atStart => exact ⟨0, by omega, rfl, Lib.hid (fun j h => absurd h (by omega))⟩
  case round =>
    obtain ⟨k, hk, rfl, HN⟩ := hrel
    by_cases hlt : k < 12
    · have hck := hc k hlt
      by_cases he : (months.getD k [] == l) = true
      · have H : Hid (months.findIdx? (· == l) = some k) := Lib.hid (by
          rw [List.findIdx?_eq_some_iff_getElem]
          refine ⟨hlt, ?_, fun j hj => ?_⟩
          · have hq : months.getD k [] = l := eq_of_beq he
            rw [List.getD_eq_getElem?_getD, List.getElem?_eq_getElem (show k < months.length from hlt)] at hq
            exact beq_iff_eq.2 hq
          · have := HN.out j hj
            rw [List.getD_eq_getElem?_getD, List.getElem?_eq_getElem (show j < months.length from Nat.lt_trans hj hlt)] at this
            simpa using this)
        clear HN hc
        generalize months.getD k [] = x at hck he
        go_wp2_with (go_at_call 53; refine (refLow_any 3 (by omega) _).mono ?_; rintro e w' ⟨rfl, rfl⟩)
        go_ret2
        refine ⟨?_, HB.out⟩
        unfold nameB; rw [H.out]
        refine ret_tup ?_
        show wrap64 ((k : Int) + 1) = 1 + (k : Int)
        unfold wrap64; omega
      · have he' : (months.getD k [] == l) = false := by simpa using he
        have HN2 : Hid (∀ j, j < k + 1 → (months.getD j [] == l) = false) := Lib.hid (fun j hj => by
          by_cases h : j < k
          · exact HN.out j h
          · obtain rfl : j = k := by omega
            exact he')
        clear he HN
        generalize months.getD k [] = x at hck he'
        clear hc
        go_wp2
        go_round
        case rel => exact ⟨k + 1, hlt, by congr 1, HN2⟩
        case measure => simp [intOf]; omega
    · have H : Hid (months.findIdx? (· == l) = none) := Lib.hid (by
        rw [List.findIdx?_eq_none_iff]
        intro x hx
        obtain ⟨j, hj, rfl⟩ := List.getElem_of_mem hx
        have h : j < 12 := hj
        have := HN.out j (by omega)
        rw [List.getD_eq_getElem?_getD, List.getElem?_eq_getElem hj] at this
        simpa using this)
      clear HN hc
      go_wp2
      go_ret2
      refine ⟨?_, HB.out⟩
      unfold nameB; rw [H.out]
      rfl

end Go.Proofs.YtbbleedepmcdfaaDoor
