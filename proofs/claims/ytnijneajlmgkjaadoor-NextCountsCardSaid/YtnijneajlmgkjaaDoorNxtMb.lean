/- Walks of package next: days of years; how many moments there are. -/
import Derived.Test.YtnijneajlmgkjaaDoorNxtM
set_option linter.unusedSimpArgs false
set_option linter.unusedVariables false
namespace Go.Proofs.YtnijneajlmgkjaaDoor
open Go.ChangeShapes Go.WideShapes Go.ChangeAt Go.RowKit Go.Base Go.Civ Go.Nxt Go.Cro

theorem DB_add (s : Sp) (a : Int) (k : Nat) : ∀ l, DB s a (k + l) = DB s a k + DB s (a + k) l
  | 0 => by simp [DB]
  | l + 1 => by
    rw [show k + (l + 1) = (k + l) + 1 by omega]
    simp only [DB]
    rw [DB_add s a k l, show a + ((k + l : Nat) : Int) = a + (k : Int) + (l : Int) by omega]
    omega
theorem DB_400 (s : Sp) (a : Int) (ha : 12 ≤ a) : ∀ l : Nat, a + 4800 + l ≤ 120000 → DB s (a + 4800) l = DB s a l
  | 0, _ => rfl
  | l + 1, h => by
    simp only [DB]
    rw [DB_400 s a ha l (by omega), show a + 4800 + (l : Int) = (a + l) + 4800 by omega, mdays_400 s _ (by omega) (by omega)]
theorem DB_cycle (s : Sp) (a : Int) (ha : 12 ≤ a) (r : Nat) : ∀ c : Nat, a + 4800 * c + r ≤ 120000 → DB s a (4800 * c + r) = c * DB s a 4800 + DB s a r
  | 0, _ => by simp
  | c + 1, h => by
    rw [show 4800 * (c + 1) + r = 4800 + (4800 * c + r) by omega, DB_add, show a + ((4800 : Nat) : Int) = a + 4800 from rfl, DB_400 s a ha _ (by omega), DB_cycle s a ha r c (by omega), Nat.add_mul]
    omega

/-- On how many days of a year. -/
def daysR (s : Sp) (y : Int) : Nat := if mayB s = true ∧ 1 ≤ y ∧ y ≤ 9999 then DB s (y * 12) 12 else 0
theorem nxtDays_any (s : Sp) (hs : SpOk s) (y : Int) (w : World) (hv : Vars w) :
    Calls Tryd.prog 14 #[spV s, .int .i64 y] w fun e w' => e = .returned (.int .i64 (daysR s y : Nat)) ∧ Below w.heap.size w w' := by
  have HMy := Lib.hid (fun V hV => may_any s V hV)
  have HV := Lib.hid (fun (w' : World) (hb : Below w.heap.size w w') => hv.later hb)
  have HD := Lib.hid (fun (h1 : 1 ≤ y) (h2 : y ≤ 9999) V hV => daysBefore_any s hs y 12 h1 h2 (by omega) V hV)
  have HR : Hid (daysR s y = if mayB s = true ∧ 1 ≤ y ∧ y ≤ 9999 then DB s (y * 12) 12 else 0) := Lib.hid rfl
  rw [HR.out]
  have HSp : Hid (∀ V, Below w.heap.size w V → True) := Lib.hid (fun _ _ => trivial)
  clear hv hs HR HSp
  cases hm : mayB s
  · rw [hm] at HMy
    rw [if_neg (by simp)]
    clear hm
    obtain ⟨smi, sho, sda, smo, swe, ad, aw⟩ := s
    simp only [spV] at HMy HD ⊢
    go_enter Tryd.func14, Tryd.ntmps14
    go_wp2_with (go_at_call 17; refine (HMy.out _ (HV.out _ (below_alloc w _)).sc).mono ?_; rintro e w1 ⟨rfl, hb1⟩; have HB1 := Lib.hid ((below_alloc w _).trans (hb1.mono (by simp))); clear hb1)
    go_ret
    exact ⟨rfl, HB1.out⟩
  · rw [hm] at HMy
    clear hm
    by_cases h1 : y < 1
    · rw [if_neg (fun h => by have := h.2; omega)]
      obtain ⟨smi, sho, sda, smo, swe, ad, aw⟩ := s
      simp only [spV] at HMy HD ⊢
      go_enter Tryd.func14, Tryd.ntmps14
      go_wp2_with (go_at_call 17; refine (HMy.out _ (HV.out _ (below_alloc w _)).sc).mono ?_; rintro e w1 ⟨rfl, hb1⟩; have HB1 := Lib.hid ((below_alloc w _).trans (hb1.mono (by simp))); clear hb1)
      go_ret
      exact ⟨rfl, HB1.out⟩
    · by_cases h2 : 9999 < y
      · rw [if_neg (fun h => by have := h.2; omega)]
        have h3 : 1 ≤ y := by omega
        obtain ⟨smi, sho, sda, smo, swe, ad, aw⟩ := s
        simp only [spV] at HMy HD ⊢
        go_enter Tryd.func14, Tryd.ntmps14
        go_wp2_with (go_at_call 17; refine (HMy.out _ (HV.out _ (below_alloc w _)).sc).mono ?_; rintro e w1 ⟨rfl, hb1⟩; have HB1 := Lib.hid ((below_alloc w _).trans (hb1.mono (by simp))); clear hb1)
        go_ret
        exact ⟨rfl, HB1.out⟩
      · rw [if_pos ⟨rfl, by omega, by omega⟩]
        have h3 : 1 ≤ y := by omega
        have h4 : y ≤ 9999 := by omega
        have HD2 := Lib.hid (fun V hV => HD.out h3 h4 V hV)
        generalize DB s (y * 12) 12 = R at *
        obtain ⟨smi, sho, sda, smo, swe, ad, aw⟩ := s
        simp only [spV] at HMy HD2 ⊢
        go_enter Tryd.func14, Tryd.ntmps14
        go_wp2_with (first | (go_at_call 17; refine (HMy.out _ (HV.out _ (below_alloc w _)).sc).mono ?_; rintro e w1 ⟨rfl, hb1⟩; have HB1 := Lib.hid ((below_alloc w _).trans (hb1.mono (by simp))); have cS := (cells_of_heap ((hb1.block _ (by simp)).trans (heap_new w _))).1; clear hb1) | (go_at_call 37; refine (HD2.out _ (HV.out _ HB1.out).tab).mono ?_; rintro e w2 ⟨rfl, hb2⟩; have HB2 := Lib.hid (HB1.out.trans (hb2.mono HB1.out.size)); clear hb2))
        go_ret
        exact ⟨rfl, HB2.out⟩

set_option maxHeartbeats 1000000 in
theorem sumOfYears_any (s : Sp) (hs : SpOk s) (hm : mayB s = true) (y : Int) (k : Nat) (hy1 : 1 ≤ y) (hy2 : y + k ≤ 10000) (w : World) (hv : Vars w) :
    Calls Tryd.prog 51 #[spV s, .int .i64 y, .int .i64 k] w fun e w' => e = .returned (.int .i64 (DB s (y * 12) (12 * k) : Nat)) ∧ Below w.heap.size w w' := by
  have HD : Hid (∀ j : Nat, j < k → ∀ V, Vars V → Calls Tryd.prog 14 #[spV s, .int .i64 (y + j)] V fun e w' => e = .returned (.int .i64 (DB s ((y + j) * 12) 12 : Nat)) ∧ Below V.heap.size V w') := Lib.hid (fun j hj V hV => by
    have h := nxtDays_any s hs (y + j) V hV
    rw [show daysR s (y + j) = DB s ((y + j) * 12) 12 from if_pos ⟨hm, by omega, by omega⟩] at h
    exact h)
  have HL := Lib.hid (DB_le s (y * 12))
  have HL2 : Hid (∀ j : Nat, DB s ((y + j) * 12) 12 ≤ 768) := Lib.hid (fun j => DB_le s ((y + j) * 12) 12)
  have HV := Lib.hid (fun (w' : World) (hb : Below w.heap.size w w') => hv.later hb)
  have HS : Hid (∀ j : Nat, DB s (y * 12) (12 * (j + 1)) = DB s (y * 12) (12 * j) + DB s ((y + j) * 12) 12) := Lib.hid (fun j => by
    rw [show 12 * (j + 1) = 12 * j + 12 by omega, DB_add, show y * 12 + ((12 * j : Nat) : Int) = (y + j) * 12 by omega])
  have H0 : Hid (DB s (y * 12) (12 * 0) = 0) := Lib.hid rfl
  clear hv hs hm
  obtain ⟨smi, sho, sda, smo, swe, ad, aw⟩ := s
  simp only [spV] at HD ⊢
  go_enter Tryd.func51, Tryd.ntmps51
  go_wp2_with fail
  go_loopw [7, 10] (fun a i wr => ∃ j : Nat, j ≤ k ∧ i = .int .i64 (j : Nat) ∧ a = .int .i64 (DB ⟨smi, sho, sda, smo, swe, ad, aw⟩ (y * 12) (12 * j) : Nat) ∧ Below (w.heap.size + 1) (w.alloc (.cells (specC smi sho sda smo swe ad aw) 24)) wr) (fun _ i _ => (k : Int).toNat - (intOf i).toNat)
  case atStart => exact ⟨0, by omega, rfl, rfl, by simpa using Below.refl _ _⟩
  case round =>
    obtain ⟨j, hj, rfl, rfl, hB⟩ := hrel
    have hsp := (hB.block _ (by omega)).trans (heap_new w (.cells (specC smi sho sda smo swe ad aw) 24))
    have cS := (cells_of_heap hsp).1
    have hBw := (below_alloc w (.cells (specC smi sho sda smo swe ad aw) 24)).trans (hB.mono (by omega))
    have hl := HL.out (12 * j)
    have hl2 := HL2.out j
    have HBw := Lib.hid hBw
    have HB := Lib.hid hB
    clear hB hBw hsp
    by_cases hlt : j < k
    · have hlt' : (j : Int) < (k : Int) := by omega
      have HSj := Lib.hid (HS.out j)
      have HDj := Lib.hid (HD.out j hlt)
      generalize DB ⟨smi, sho, sda, smo, swe, ad, aw⟩ (y * 12) (12 * j) = A at *
      generalize DB ⟨smi, sho, sda, smo, swe, ad, aw⟩ ((y + j) * 12) 12 = B at *
      go_wp2_with (go_at_call 14; refine (HDj.out _ (HV.out _ HBw.out)).mono ?_; rintro e w9 ⟨rfl, hb9⟩; have HB9 := Lib.hid (HB.out.trans (hb9.mono (by have := HB.out.size; simp at this; omega))); clear hb9)
      go_roundw
      case rel => exact ⟨j + 1, by omega, by go_num, by rw [HSj.out]; go_num, HB9.out⟩
      case measure => simp [intOf]; omega
    · obtain rfl : j = k := by omega
      go_wp2_with fail
      go_ret
      exact ⟨rfl, HBw.out⟩

theorem daysOfYears_any (s : Sp) (hs : SpOk s) (hm : mayB s = true) (y1 : Int) (k : Nat) (hy1 : 1 ≤ y1) (hy2 : y1 + k ≤ 9999) (w : World) (hv : Vars w) :
    Calls Tryd.prog 29 #[spV s, .int .i64 y1, .int .i64 (y1 + k)] w fun e w' => e = .returned (.int .i64 (DB s (y1 * 12) (12 * k) : Nat)) ∧ Below w.heap.size w w' := by
  have hc := DB_cycle s (y1 * 12) (by omega) (12 * (k % 400)) (k / 400) (by omega)
  rw [show 4800 * (k / 400) + 12 * (k % 400) = 12 * k by omega] at hc
  have HC := Lib.hid hc
  have HR := Lib.hid (fun V hV => sumOfYears_any s hs hm y1 (k % 400) hy1 (by omega) V hV)
  have HR4 := Lib.hid (fun (h : 0 < k / 400) V hV => sumOfYears_any s hs hm y1 400 hy1 (by omega) V hV)
  have HV := Lib.hid (fun (w' : World) (hb : Below w.heap.size w w') => hv.later hb)
  have hl1 := DB_le s (y1 * 12) (12 * (k % 400))
  have hl2 := DB_le s (y1 * 12) 4800
  have e1 : y1 + (k : Int) - y1 = k := by omega
  obtain ⟨q, hq⟩ : ∃ q, q = k / 400 := ⟨_, rfl⟩
  obtain ⟨r, hr⟩ : ∃ r, r = k % 400 := ⟨_, rfl⟩
  have hq2 : ((k : Int)).tdiv 400 = (q : Int) := by rw [hq, Int.tdiv_eq_ediv_of_nonneg (by omega)]; omega
  have hr2 : ((k : Int)).tmod 400 = (r : Int) := by rw [hr, Int.tmod_eq_emod_of_nonneg (by omega)]; omega
  have hql : q ≤ 25 := by omega
  have hrl : r < 400 := by omega
  rw [← hq] at HC HR4
  rw [← hr] at HC HR hl1
  rw [show (12 : Nat) * 400 = 4800 from rfl] at HR4
  have hqk : (k : Int) / 400 = (q : Int) := by omega
  have hrk : (k : Int) % 400 = (r : Int) := by omega
  clear hv hs hm hc hq hr
  generalize DB s (y1 * 12) (12 * k) = R at *
  generalize DB s (y1 * 12) (12 * r) = A at *
  generalize DB s (y1 * 12) 4800 = B at *
  have hmul : 0 ≤ (q : Int) * (B : Int) ∧ (q : Int) * (B : Int) ≤ 25 * 307200 := ⟨Int.mul_nonneg (by omega) (by omega), Int.mul_le_mul (by omega) (by omega) (by omega) (by omega)⟩
  obtain ⟨hmul1, hmul2⟩ := hmul
  have hRI : (R : Int) = (q : Int) * (B : Int) + (A : Int) := by rw [HC.out]; simp
  have HRI := Lib.hid hRI
  clear hRI HC
  obtain ⟨smi, sho, sda, smo, swe, ad, aw⟩ := s
  simp only [spV] at HR HR4 ⊢
  by_cases hq0 : 0 < q
  · have HR5 := Lib.hid (HR4.out hq0)
    go_enter Tryd.func29, Tryd.ntmps29
    have tA : True := trivial
    go_wp2_with (first | (clear tA; go_at_call 51; refine (HR.out _ (HV.out _ (below_alloc w _))).mono ?_; rintro e w1 ⟨rfl, hb1⟩; have HB1 := Lib.hid ((below_alloc w _).trans (hb1.mono (by simp))); have cS := (cells_of_heap ((hb1.block _ (by simp)).trans (heap_new w _))).1; clear hb1) | (go_at_call 51; refine (HR5.out _ (HV.out _ HB1.out)).mono ?_; rintro e w2 ⟨rfl, hb2⟩; have HB2 := Lib.hid (HB1.out.trans (hb2.mono HB1.out.size)); clear hb2))
    go_ret
    exact ⟨ret_int (by rw [HRI.out]; omega), HB2.out⟩
  · have hq9 : q = 0 := by omega
    have hR9 : (R : Int) = A := by rw [HRI.out, hq9]; simp
    have HR9 := Lib.hid hR9
    have hq8 : ¬ (0 : Int) < (q : Int) := by omega
    clear hq9 hR9 HRI hmul1 hmul2 hq0
    go_enter Tryd.func29, Tryd.ntmps29
    go_wp2_with (go_at_call 51; refine (HR.out _ (HV.out _ (below_alloc w _))).mono ?_; rintro e w1 ⟨rfl, hb1⟩; have HB1 := Lib.hid ((below_alloc w _).trans (hb1.mono (by simp))); clear hb1)
    go_ret
    exact ⟨ret_int (by rw [HR9.out]), HB1.out⟩
end Go.Proofs.YtnijneajlmgkjaaDoor
