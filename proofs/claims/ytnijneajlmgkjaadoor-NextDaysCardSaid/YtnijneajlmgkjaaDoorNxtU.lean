/- Walk of the reference's Days; the law NextDays. -/
import Derived.Test.YtnijneajlmgkjaaDoorNxtU0
set_option linter.unusedSimpArgs false
set_option linter.unusedVariables false
namespace Go.Proofs.YtnijneajlmgkjaaDoor
open Go.ChangeShapes Go.WideShapes Go.ChangeAt Go.RowKit Go.Base Go.Cro Go.Civ Go.Nxt

/-- What a day of the round is. -/
def DayR (s : Sp) (y k : Int) (P : Bool) : Prop := ∃ (yy mm dd wk e : Int), (∀ V, Calls Tryd.prog 39 #[.int .i64 (86400 * k)] V fun x w' => x = .returned (.tuple #[.agg #[.int .i64 yy, .int .i64 mm, .int .i64 dd, .int .i64 0, .int .i64 0, .int .i64 0, .int .i64 wk], .int .i64 e]) ∧ Below V.heap.size V w') ∧
  ((e = 0 ∧ yy = y ∧ ∀ V, Calls Tryd.prog 35 #[spV s, .int .i64 k] V fun x w' => x = .returned (.bool P) ∧ Below V.heap.size V w') ∨ (e = 0 ∧ yy ≠ y ∧ P = false) ∨ (e = 10 ∧ P = false))
theorem dayR_any (s : Sp) (hs : SpOk s) (y : Int) (h1 : 1 ≤ y) (h2 : y ≤ 9999) (j : Nat) (hj : j < 366) : DayR s y (num y 1 1 + j) (yDay s y j) := by
  have hy := ah_bd y (by omega) (by omega)
  have hn : num y 1 1 = ah y - 719162 := by unfold num; simp [cum]
  by_cases hr : 86400 * (num y 1 1 + j) ≤ 253402300799
  · have hlo : -62135596800 ≤ 86400 * (num y 1 1 + j) := by omega
    obtain ⟨n, y', k, sec, A⟩ := at_of _ hlo hr
    have hday := A.day
    have hs0 := A.s0
    have hs1 := A.s1
    have en : n = num y 1 1 + j := by omega
    have es : sec = 0 := by omega
    subst en
    subst es
    have hk := A.k1
    refine ⟨y', (k : Int) + 1, (num y 1 1 + j) + 719162 - ah y' - cum y' k + 1, wd (num y 1 1 + j), 0, fun V => refOf_at _ _ y' k 0 V A, ?_⟩
    by_cases hyy : y' = y
    · subst hyy
      left
      refine ⟨rfl, rfl, fun V => ?_⟩
      have hdlo := A.dlo
      have hdhi := A.dhi
      have h := refDy_any s hs (num y' 1 1 + j) y' k V A
      have e : yDay s y' j = (hasB s.mo ((k : Int) + 1) && dayB s (num y' 1 1 + j + 719162 - ah y' - cum y' k + 1) (wd (num y' 1 1 + j))) := by
        rw [yDay_at s y' hk (by omega) (by omega)]
        refine mdays_at (dd := ((j : Int) - cum y' k + 1).toNat) A ?_
        omega
      rw [← e] at h
      exact h
    · right; left
      refine ⟨rfl, hyy, yDay_out s y ?_⟩
      have hdlo := A.dlo
      have hdhi := A.dhi
      rcases Int.lt_trichotomy y' y with hl | hl | hl
      · exfalso
        have h3 : ah (y' + 1) ≤ ah y := ah_mono _ _ (by omega)
        have h4 := ah_succ y'
        have h5 := cum_mono y' (k + 1) 12 (by omega)
        omega
      · exact absurd hl hyy
      · have h3 : ah (y + 1) ≤ ah y' := ah_mono _ _ (by omega)
        have h4 := ah_succ y
        have h5 := (cum_bd y' k).1
        omega
  · refine ⟨0, 0, 0, 0, 10, fun V => refOf_no _ V (.inr (by omega)), .inr (.inr ⟨rfl, yDay_out s y ?_⟩)⟩
    have h4 := ah_succ y
    have h9 : 365 ≤ cum y 12 := by have h := ah_succ y; unfold ah at h; omega
    have h3 : ah 10000 = 3652059 := by decide
    have h5 : y = 9999 := by
      by_cases h : y = 9999
      · exact h
      · exfalso
        have h6 : ah (y + 1) ≤ ah 9999 := ah_mono _ _ (by omega)
        have h7 : ah 9999 = 3651694 := by decide
        omega
    subst h5
    have h8 : ah (9999 + 1) = ah 10000 := rfl
    omega

set_option maxHeartbeats 8000000 in
theorem refDays_any (s : Sp) (hs : SpOk s) (y : Int) (y0 : -9223372036854775808 ≤ y ∧ y ≤ 9223372036854775807) (w : World) : Calls Tryd.prog 15 #[spV s, .int .i64 y] w fun e w' => e = .returned (.int .i64 (daysR s y : Nat)) ∧ Below w.heap.size w w' := by
  have HMy := Lib.hid (fun V => refMay_any s hs V)
  by_cases hin : mayB s = true ∧ 1 ≤ y ∧ y ≤ 9999
  · obtain ⟨hm, h1, h2⟩ := hin
    have HE : Hid (daysR s y = yT s y 366) := Lib.hid (by unfold daysR; rw [if_pos ⟨hm, h1, h2⟩, yT_end s y h1 h2])
    have HT0 : Hid (yT s y 0 = 0) := Lib.hid rfl
    have HTs : Hid (∀ j, yT s y (j + 1) = yT s y j + if yDay s y j then 1 else 0) := Lib.hid (fun _ => rfl)
    have HTl := Lib.hid (yT_le s y)
    have HR := Lib.hid (fun j hj => dayR_any s hs y h1 h2 j hj)
    have hl1 : (1 : Int) ≤ len y 1 := by have h := len_lo y 1 (by decide) (by decide); omega
    have hok : okd y 1 1 := ⟨h1, h2, by decide, by decide, by decide, hl1⟩
    have HN := Lib.hid (fun V => refNumber_ok y 1 1 V hok)
    have hab : -719162 ≤ num y 1 1 ∧ num y 1 1 ≤ 2932896 := by
      have hy := ah_bd y (by omega) (by omega)
      have hn : num y 1 1 = ah y - 719162 := by unfold num; simp [cum]
      have h6 : ah y ≤ ah 9999 := ah_mono _ _ (by omega)
      have h7 : ah 9999 = 3651694 := by decide
      omega
    rw [hm] at HMy
    rw [HE.out]
    clear hm hs y0 HE hok hl1
    generalize yT s y = T at *
    generalize yDay s y = P at *
    generalize num y 1 1 = a at *
    obtain ⟨smi, sho, sda, smo, swe, ad, aw⟩ := s
    unfold DayR at HR
    simp only [spV] at HMy HR ⊢
    have HBx := Lib.hid (below_alloc w (.cells (specC smi sho sda smo swe ad aw) 24 (0, 0)))
    go_enter Tryd.func15, Tryd.ntmps15
    go_wp2_with (first
      | (go_at_call 32; refine (HMy.out _).mono ?_; rintro e w1 ⟨rfl, hb1⟩; have HB1 := Lib.hid hb1; clear hb1)
      | (go_at_call 38; refine (HN.out _).mono ?_; rintro e w2 ⟨rfl, hw2⟩; rw [← hw2]; clear hw2 w2))
    go_loopw [7, 8] (fun n k wr => ∃ j : Nat, j ≤ 366 ∧ n = .int .i64 ((T j : Nat) : Int) ∧ k = .int .i64 (a + (j : Int)) ∧ Hid (Below (w.alloc (.cells (specC smi sho sda smo swe ad aw) 24 (0, 0))).heap.size (w.alloc (.cells (specC smi sho sda smo swe ad aw) 24 (0, 0))) wr)) (fun _ k _ => (a + 366 - intOf k).toNat)
    case atStart => exact ⟨0, by omega, by rw [HT0.out]; rfl, by simp, HB1⟩
    case round =>
      obtain ⟨j, hj, rfl, rfl, HB⟩ := hrel
      by_cases hj6 : j < 366
      · obtain ⟨yy, mm, dd, wk, e9, hof, hcase⟩ := HR.out j hj6
        have HO := Lib.hid hof
        have HT1 := Lib.hid (HTs.out j)
        have htl := HTl.out j
        clear hof HR
        have hjl : a + (j : Int) < a + 366 := by omega
        generalize P j = pj at *
        rcases hcase with ⟨rfl, rfl, hd⟩ | ⟨rfl, hne, rfl⟩ | ⟨rfl, rfl⟩
        · have HD := Lib.hid hd
          clear hd
          cases pj
          all_goals
            go_wp2_with (first
              | (go_at_call 39; refine (HO.out _).mono ?_; rintro e w2 ⟨rfl, hb2⟩; have HB2 := Lib.hid ((HB.out.trans (hb2.mono HB.out.size)).alloc (o := (.cells #[.int .i64 yy, .int .i64 mm, .int .i64 dd, .int .i64 0, .int .i64 0, .int .i64 0, .int .i64 wk] 43)) (Nat.le_trans HB.out.size hb2.size)); clear hb2; obtain ⟨g0, g1, g2, g3, g4, g5, g6⟩ := sp_cells HB2.out)
              | (go_at_call 35; refine (HD.out _).mono ?_; rintro e w3 ⟨rfl, hb3⟩; have HB3 := Lib.hid (HB2.out.trans (hb3.mono HB2.out.size)); clear hb3))
            go_roundw
            case rel => exact ⟨j + 1, by omega, by rw [HT1.out]; simp, by go_num, HB3⟩
            case measure => simp [intOf]; omega
        · have hne2 : ¬ yy = y := hne
          go_wp2_with (go_at_call 39; refine (HO.out _).mono ?_; rintro e w2 ⟨rfl, hb2⟩; have HB2 := Lib.hid ((HB.out.trans (hb2.mono HB.out.size)).alloc (o := (.cells #[.int .i64 yy, .int .i64 mm, .int .i64 dd, .int .i64 0, .int .i64 0, .int .i64 0, .int .i64 wk] 43)) (Nat.le_trans HB.out.size hb2.size)); clear hb2)
          go_roundw
          case rel => exact ⟨j + 1, by omega, by rw [HT1.out]; simp, by go_num, HB2⟩
          case measure => simp [intOf]; omega
        · go_wp2_with (go_at_call 39; refine (HO.out _).mono ?_; rintro e w2 ⟨rfl, hb2⟩; have HB2 := Lib.hid ((HB.out.trans (hb2.mono HB.out.size)).alloc (o := (.cells #[.int .i64 yy, .int .i64 mm, .int .i64 dd, .int .i64 0, .int .i64 0, .int .i64 0, .int .i64 wk] 43)) (Nat.le_trans HB.out.size hb2.size)); clear hb2)
          go_roundw
          case rel => exact ⟨j + 1, by omega, by rw [HT1.out]; simp, by go_num, HB2⟩
          case measure => simp [intOf]; omega
      · obtain rfl : j = 366 := by omega
        go_wp2
        go_ret
        exact ⟨rfl, HBx.out.trans (HB.out.mono HBx.out.size)⟩
  · have HE : Hid (daysR s y = 0) := Lib.hid (by unfold daysR; rw [if_neg hin])
    rw [HE.out]
    clear HE hs
    have hh : mayB s = false ∨ (mayB s = true ∧ y < 1) ∨ (mayB s = true ∧ 1 ≤ y ∧ 9999 < y) := by
      cases hm : mayB s with
      | false => exact .inl rfl
      | true =>
        right
        by_cases h1 : y < 1
        · exact .inl ⟨rfl, h1⟩
        · refine .inr ⟨rfl, by omega, ?_⟩
          by_cases h2 : 9999 < y
          · exact h2
          · exact absurd ⟨hm, by omega, by omega⟩ hin
    clear hin
    generalize mayB s = my at *
    obtain ⟨smi, sho, sda, smo, swe, ad, aw⟩ := s
    simp only [spV] at HMy ⊢
    have HBx := Lib.hid (below_alloc w (.cells (specC smi sho sda smo swe ad aw) 24 (0, 0)))
    rcases hh with rfl | ⟨rfl, h1⟩ | ⟨rfl, h1, h2⟩
    all_goals
      go_enter Tryd.func15, Tryd.ntmps15
      go_wp2_with (go_at_call 32; refine (HMy.out _).mono ?_; rintro e w1 ⟨rfl, hb1⟩; have HB1 := Lib.hid hb1; clear hb1)
      go_ret
      exact ⟨rfl, HBx.out.trans (HB1.out.mono HBx.out.size)⟩

set_option maxHeartbeats 4000000 in
theorem law_days (s : Sp) (hs : SpOk s) (y : Int) (y0 : -9223372036854775808 ≤ y ∧ y ≤ 9223372036854775807) (w : World) (hv : Vars w) :
    Calls Tryd.prog 5 #[spV s, .int .i64 y] w fun e w' => e = .returned (.bool true) ∧ Below w.heap.size w w' := by
  have HV := Lib.hid (fun (w' : World) (hb : Below w.heap.size w w') => hv.later hb)
  have HLi := Lib.hid (fun V hV => lives_any V hV)
  have HA := Lib.hid (fun V hV => nxtDays_any s hs y V hV)
  have HB := Lib.hid (fun V => refDays_any s hs y y0 V)
  clear hv hs
  generalize daysR s y = D at *
  obtain ⟨smi, sho, sda, smo, swe, ad, aw⟩ := s
  simp only [spV] at HA HB ⊢
  have HBx := Lib.hid (below_alloc w (.cells (specC smi sho sda smo swe ad aw) 24 (0, 0)))
  go_enter Tryd.func5, Tryd.ntmps5
  go_wp2
  have HS := Lib.hid (fun V (hV : Below (w.alloc (.cells (specC smi sho sda smo swe ad aw) 24 (0, 0))).heap.size (w.alloc (.cells (specC smi sho sda smo swe ad aw) 24 (0, 0))) V) => sp_cells hV)
  generalize hW3 : w.alloc (.cells (specC smi sho sda smo swe ad aw) 24 (0, 0)) = W3 at *
  have HL3 : Hid (∀ V, Below W3.heap.size W3 V → Calls Tryd.prog 10 #[] V fun e w' => e = .returned (.bool true) ∧ Below W3.heap.size W3 w') := Lib.hid (fun V hV => called_in hV (HLi.out V (HV.out _ (HBx.out.trans (hV.mono HBx.out.size)))))
  have HA3 : Hid (∀ V, Below W3.heap.size W3 V → Calls Tryd.prog 14 #[.agg #[.int .u64 smi, .int .u64 sho, .int .u64 sda, .int .u64 smo, .int .u64 swe, .bool ad, .bool aw], .int .i64 y] V fun e w' => e = .returned (.int .i64 (D : Nat)) ∧ Below W3.heap.size W3 w') := Lib.hid (fun V hV => called_in hV (HA.out V (HV.out _ (HBx.out.trans (hV.mono HBx.out.size)))))
  have HB3 : Hid (∀ V, Below W3.heap.size W3 V → Calls Tryd.prog 15 #[.agg #[.int .u64 smi, .int .u64 sho, .int .u64 sda, .int .u64 smo, .int .u64 swe, .bool ad, .bool aw], .int .i64 y] V fun e w' => e = .returned (.int .i64 (D : Nat)) ∧ Below W3.heap.size W3 w') := Lib.hid (fun V hV => called_in hV (HB.out V))
  clear hW3 HA HB HLi
  refine wp_region_quietC (C := fun V => Below W3.heap.size W3 V) (by kernel_rfl) (by kernel_rfl) (Below.refl _ _).drew ?_
  repeat (go_qc (first
    | (unfold Oper.quietAt; have gg := HS.out V hV; obtain ⟨g0, g1, g2, g3, g4, g5, g6⟩ := gg; go_simp; with_reducible rfl)
    | (unfold Oper.quietAt; go_simp; first | (with_reducible exact HL3.out V hV) | (with_reducible exact HA3.out V hV) | (with_reducible exact HB3.out V hV))))
  refine wpQuiet_nil ?_
  intro w5 hw5
  have HB5 := Lib.hid (HBx.out.trans (hw5.mono HBx.out.size))
  clear hw5
  go_wp2
  go_ret
  first | exact ⟨rfl, HB5.out⟩ | (refine ⟨?_, HB5.out⟩; go_simp)
end Go.Proofs.YtnijneajlmgkjaaDoor
