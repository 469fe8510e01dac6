/- Walks of package civil and of its answers by definition: the time of a date; what must come of every program. -/
import Derived.Test.YtpmgepipcmigpaaDoorCivF
set_option linter.unusedSimpArgs false
set_option linter.unusedVariables false
namespace Go.Proofs.YtpmgepipcmigpaaDoor
open Go.ChangeShapes Go.WideShapes Go.ChangeAt Go.RowKit Go.Civ Go.Base

theorem num_bd (y m d : Int) (h : okd y m d) : -719162 ≤ num y m d ∧ num y m d ≤ 2932896 := by
  obtain ⟨h1, h2, h3, h4, h5, h6⟩ := h
  obtain ⟨n, hn, rfl⟩ : ∃ n : Nat, n < 12 ∧ m = (n : Int) + 1 := ⟨(m - 1).toNat, by omega, by omega⟩
  have ha := ah_bd y (by omega) (by omega)
  have hc := cum_bd y n
  have hcy : cum y (n + 1) ≤ cum y 12 := cum_mono y _ _ (by omega)
  have hcs : cum y (n + 1) = cum y n + len y ((n : Int) + 1) := rfl
  have hs := ah_succ y
  have hm := ah_mono (y + 1) 10000 (by omega)
  have e : ah 10000 = 3652059 := by decide
  unfold num
  rw [show ((n : Int) + 1 - 1).toNat = n by omega]
  omega
/-- A clock's hour, minute and second. -/
def okc (h mi s : Int) : Prop := 0 ≤ h ∧ h < 24 ∧ 0 ≤ mi ∧ mi < 60 ∧ 0 ≤ s ∧ s < 60

theorem atTime_no (y m d h mi s x : Int) (w : World) (ht : Tab w) (hn : ¬ (okd y m d ∧ okc h mi s)) :
    Calls Tryd.prog 20 #[.agg #[.int .i64 y, .int .i64 m, .int .i64 d, .int .i64 h, .int .i64 mi, .int .i64 s, .int .i64 x]] w fun e w' => e = .returned (.tuple #[.int .i64 0, .int .i64 10]) ∧ Below w.heap.size w w' := by
  have HT := fun o => Lib.hid (ht.alloc o)
  clear ht
  by_cases ho : okd y m d
  · by_cases h1 : 0 ≤ h ∧ h < 24
    · by_cases h2 : 0 ≤ mi ∧ mi < 60
      · have h3 : ¬ (0 ≤ s ∧ s < 60) := fun h3 => hn ⟨ho, h1.1, h1.2, h2.1, h2.2, h3.1, h3.2⟩
        have H3 : Hid (decide (0 ≤ s ∧ s < 60) = false) := Lib.hid (decide_eq_false h3)
        obtain ⟨h11, h12⟩ := h1
        obtain ⟨h21, h22⟩ := h2
        have HO := Lib.hid ho
        clear hn h3 ho
        go_enter Tryd.func20, Tryd.ntmps20
        go_wp2_with (first | (go_at_call 11; refine (number_ok _ _ _ _ (HT _).out HO.out).mono ?_; rintro e w' ⟨rfl, rfl⟩) | (go_at_call 28; refine (below_any _ _ _).mono ?_; rintro e w' ⟨rfl, rfl⟩; try rw [H3.out]))
        go_ret2
        exact ⟨rfl, by go_grown⟩
      · have H2 : Hid (decide (0 ≤ mi ∧ mi < 60) = false) := Lib.hid (decide_eq_false h2)
        obtain ⟨h11, h12⟩ := h1
        have HO := Lib.hid ho
        clear hn h2 ho
        go_enter Tryd.func20, Tryd.ntmps20
        go_wp2_with (first | (go_at_call 11; refine (number_ok _ _ _ _ (HT _).out HO.out).mono ?_; rintro e w' ⟨rfl, rfl⟩) | (go_at_call 28; refine (below_any _ _ _).mono ?_; rintro e w' ⟨rfl, rfl⟩; try rw [H2.out]))
        go_ret2
        exact ⟨rfl, by go_grown⟩
    · have H1 : Hid (decide (0 ≤ h ∧ h < 24) = false) := Lib.hid (decide_eq_false h1)
      have HO := Lib.hid ho
      clear hn h1 ho
      go_enter Tryd.func20, Tryd.ntmps20
      go_wp2_with (first | (go_at_call 11; refine (number_ok _ _ _ _ (HT _).out HO.out).mono ?_; rintro e w' ⟨rfl, rfl⟩) | (go_at_call 28; refine (below_any _ _ _).mono ?_; rintro e w' ⟨rfl, rfl⟩; try rw [H1.out]))
      go_ret2
      exact ⟨rfl, by go_grown⟩
  · have HO := Lib.hid ho
    clear hn ho
    go_enter Tryd.func20, Tryd.ntmps20
    go_wp2_with (go_at_call 11; refine (number_no _ _ _ _ (HT _).out HO.out).mono ?_; rintro e w' ⟨rfl, rfl⟩)
    go_ret2
    exact ⟨rfl, by go_grown⟩

theorem atTime_ok (y m d h mi s x : Int) (w : World) (ht : Tab w) (ho : okd y m d) (hc : okc h mi s) :
    Calls Tryd.prog 20 #[.agg #[.int .i64 y, .int .i64 m, .int .i64 d, .int .i64 h, .int .i64 mi, .int .i64 s, .int .i64 x]] w fun e w' => e = .returned (.tuple #[.int .i64 (num y m d * 86400 + h * 3600 + mi * 60 + s), .int .i64 0]) ∧ Below w.heap.size w w' := by
  have HT := fun o => Lib.hid (ht.alloc o)
  have hnb := num_bd y m d ho
  obtain ⟨c1, c2, c3, c4, c5, c6⟩ := hc
  have HO := Lib.hid ho
  clear ht ho
  go_enter Tryd.func20, Tryd.ntmps20
  go_wp2_with (first | (go_at_call 11; refine (number_ok _ _ _ _ (HT _).out HO.out).mono ?_; rintro e w' ⟨rfl, rfl⟩) | (go_at_call 28; refine (below_any _ _ _).mono ?_; rintro e w' ⟨rfl, rfl⟩))
  go_ret2
  exact ⟨rfl, by go_grown⟩

theorem refAt_no (y m d h mi s x : Int) (w : World) (hn : ¬ (okd y m d ∧ okc h mi s)) :
    Calls Tryd.prog 21 #[.agg #[.int .i64 y, .int .i64 m, .int .i64 d, .int .i64 h, .int .i64 mi, .int .i64 s, .int .i64 x]] w fun e w' => e = .returned (.tuple #[.int .i64 0, .int .i64 10]) ∧ Below w.heap.size w w' := by
  by_cases ho : okd y m d
  · have hcl : h < 0 ∨ (0 ≤ h ∧ 23 < h) ∨ (0 ≤ h ∧ h ≤ 23 ∧ mi < 0) ∨ (0 ≤ h ∧ h ≤ 23 ∧ 0 ≤ mi ∧ 59 < mi) ∨ (0 ≤ h ∧ h ≤ 23 ∧ 0 ≤ mi ∧ mi ≤ 59 ∧ s < 0) ∨ (0 ≤ h ∧ h ≤ 23 ∧ 0 ≤ mi ∧ mi ≤ 59 ∧ 0 ≤ s ∧ 59 < s) := by
      have : ¬ okc h mi s := fun hc => hn ⟨ho, hc⟩
      unfold okc at this; omega
    have HO := Lib.hid ho
    clear hn ho
    rcases hcl with a | ⟨a, b⟩ | ⟨a, b, c⟩ | ⟨a, b, c, d'⟩ | ⟨a, b, c, d', e'⟩ | ⟨a, b, c, d', e', f'⟩
    all_goals
      go_enter Tryd.func21, Tryd.ntmps21
      go_wp2_with (first | (go_at_call 12; refine (refNumber_ok _ _ _ _ HO.out).mono ?_; rintro e w' ⟨rfl, rfl⟩))
      go_ret2
      exact ⟨rfl, by go_grown⟩
  · have HO := Lib.hid ho
    clear hn ho
    go_enter Tryd.func21, Tryd.ntmps21
    go_wp2_with (go_at_call 12; refine (refNumber_no _ _ _ _ HO.out).mono ?_; rintro e w' ⟨rfl, rfl⟩)
    go_ret2
    exact ⟨rfl, by go_grown⟩

theorem refAt_ok (y m d h mi s x : Int) (w : World) (ho : okd y m d) (hc : okc h mi s) :
    Calls Tryd.prog 21 #[.agg #[.int .i64 y, .int .i64 m, .int .i64 d, .int .i64 h, .int .i64 mi, .int .i64 s, .int .i64 x]] w fun e w' => e = .returned (.tuple #[.int .i64 (num y m d * 86400 + h * 3600 + mi * 60 + s), .int .i64 0]) ∧ Below w.heap.size w w' := by
  have hnb := num_bd y m d ho
  obtain ⟨c1, c2, c3, c4, c5, c6⟩ := hc
  have HO := Lib.hid ho
  clear ho
  go_enter Tryd.func21, Tryd.ntmps21
  go_wp2_with (first | (go_at_call 12; refine (refNumber_ok _ _ _ _ HO.out).mono ?_; rintro e w' ⟨rfl, rfl⟩))
  go_ret2
  exact ⟨ret_tup (by omega), by go_grown⟩
end Go.Proofs.YtpmgepipcmigpaaDoor
