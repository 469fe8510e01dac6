/- Walks of package next: how often on a day; how many moments of a year are ahead of a date. -/
import Derived.Test.YtnijneajlmgkjaaDoorNxtMb
import Derived.Test.YtnijneajlmgkjaaDoorQuietW
set_option linter.unusedSimpArgs false
set_option linter.unusedVariables false
namespace Go.Proofs.YtnijneajlmgkjaaDoor
open Go.ChangeShapes Go.WideShapes Go.ChangeAt Go.RowKit Go.Base Go.Civ Go.Nxt Go.Cro

theorem times_any (s : Sp) (H M : Nat) (hM : s.mi = M) (hH : s.ho = H) (h1 : H < 18446744073709551616) (h2 : M < 18446744073709551616) (w : World) :
    Calls Tryd.prog 30 #[spV s] w fun e w' => e = .returned (.int .i64 ((pc H * pc M : Nat) : Int)) ∧ Below w.heap.size w w' := by
  have HA := Lib.hid (fun V => ones64_any H h1 V)
  have HB := Lib.hid (fun V => ones64_any M h2 V)
  have ha := pc_le H
  have hb := pc_le M
  have e : ((pc H * pc M : Nat) : Int) = (pc H : Int) * (pc M : Int) := by simp
  rw [e]
  generalize pc H = a at *
  generalize pc M = b at *
  have hmul : 0 ≤ (a : Int) * (b : Int) ∧ (a : Int) * (b : Int) ≤ 64 * 64 := ⟨Int.mul_nonneg (by omega) (by omega), Int.mul_le_mul (by omega) (by omega) (by omega) (by omega)⟩
  obtain ⟨m1, m2⟩ := hmul
  obtain ⟨smi, sho, sda, smo, swe, ad, aw⟩ := s
  simp only [spV] at hM hH ⊢
  subst hM hH
  clear h1 h2 e
  go_enter Tryd.func30, Tryd.ntmps30
  go_wp2_with fail
  go_quiet ((first | (with_reducible exact Calls.quiet_of_same (HA.out _)) | (with_reducible exact Calls.quiet_of_same (HB.out _))))
  go_wp2
  go_ret
  exact ⟨rfl, below_drewN (below_alloc w _) _⟩

/-- How many moments of a day are ahead of a time of it. -/
def todayR (H M h mi : Nat) (sec : Int) : Nat := pc (H % 2 ^ h) * pc M + if H.testBit h then pc (M % 2 ^ (if 0 < sec then mi + 1 else mi)) else 0
theorem today_any (s : Sp) (H M : Nat) (hM : s.mi = M) (hH : s.ho = H) (h1 : H < 18446744073709551616) (h2 : M < 18446744073709551616) (y mo d : Int) (h mi : Nat) (sec wk : Int) (hh : h ≤ 23) (hmi : mi ≤ 59) (w : World) :
    Calls Tryd.prog 55 #[spV s, dateV y mo d h mi sec wk] w fun e w' => e = .returned (.int .i64 (todayR H M h mi sec : Nat)) ∧ Below w.heap.size w w' := by
  have hl : H % 2 ^ h < 18446744073709551616 := Nat.lt_of_le_of_lt (Nat.mod_le _ _) h1
  have HBl := Lib.hid (fun V => nxtBelow_any H h h1 (by omega) V)
  have HA := Lib.hid (fun V => ones64_any (H % 2 ^ h) hl V)
  have HB := Lib.hid (fun V => ones64_any M h2 V)
  have HHas := Lib.hid (fun V => nxtHas_any (H : Int) (h : Int) V (by omega) (by omega) (by omega) (by omega))
  rw [hasB_test H h h1] at HHas
  have HBm := Lib.hid (fun (v : Nat) (hv : v ≤ 60) V => nxtBelow_any M v h2 (by omega) V)
  have HC := Lib.hid (fun (v : Nat) V => ones64_any (M % 2 ^ v) (Nat.lt_of_le_of_lt (Nat.mod_le _ _) h2) V)
  have hP := pc_le
  have ha := pc_le (H % 2 ^ h)
  have hb := pc_le M
  have e : ((todayR H M h mi sec : Nat) : Int) = (pc (H % 2 ^ h) : Int) * (pc M : Int) + ((if H.testBit h then pc (M % 2 ^ (if 0 < sec then mi + 1 else mi)) else 0 : Nat) : Int) := by unfold todayR; simp
  rw [e]
  generalize hAe : H % 2 ^ h = A at *
  generalize hae : pc A = a at *
  generalize hbe : pc M = b at *
  have hmul : 0 ≤ (a : Int) * (b : Int) ∧ (a : Int) * (b : Int) ≤ 64 * 64 := ⟨Int.mul_nonneg (by omega) (by omega), Int.mul_le_mul (by omega) (by omega) (by omega) (by omega)⟩
  obtain ⟨m1, m2⟩ := hmul
  have HPc := Lib.hid hP
  obtain ⟨smi, sho, sda, smo, swe, ad, aw⟩ := s
  simp only [spV] at hM hH ⊢
  subst hM hH
  clear h1 h2 e hP hl hAe hae hbe
  cases hb9 : H.testBit h
  · rw [hb9] at HHas
    simp only [Bool.false_eq_true, if_false]
    clear hb9
    go_enter Tryd.func55, Tryd.ntmps55
    go_wp2_with fail
    go_quiet ((first | (with_reducible exact Calls.quiet_of_same (HBl.out _)) | (with_reducible exact Calls.quiet_of_same (HA.out _)) | (with_reducible exact Calls.quiet_of_same (HB.out _))))
    go_wp2_with (go_at_call 54; refine (HHas.out _).mono ?_; rintro e w9 ⟨rfl, hw9⟩; rw [hw9]; clear hw9 w9)
    go_ret
    exact ⟨ret_int (by simp), below_drewN ((below_alloc w _).alloc (by simp) _) _⟩
  · rw [hb9] at HHas
    simp only [if_true]
    clear hb9
    by_cases hs0 : 0 < sec
    · rw [if_pos hs0]
      have HBm2 := Lib.hid (HBm.out (mi + 1) (by omega))
      have HC2 := Lib.hid (HC.out (mi + 1))
      have hc := HPc.out (M % 2 ^ (mi + 1))
      rw [show (((mi + 1 : Nat)) : Int) = (mi : Int) + 1 by omega] at HBm2
      generalize M % 2 ^ (mi + 1) = B at *
      generalize pc B = c at *
      go_enter Tryd.func55, Tryd.ntmps55
      go_wp2_with fail
      go_quiet ((first | (with_reducible exact Calls.quiet_of_same (HBl.out _)) | (with_reducible exact Calls.quiet_of_same (HA.out _)) | (with_reducible exact Calls.quiet_of_same (HB.out _))))
      go_wp2_with (first | (go_at_call 54; refine (HHas.out _).mono ?_; rintro e w9 ⟨rfl, hw9⟩; rw [hw9]; clear hw9 w9) | (go_at_call 46; refine (HBm2.out _).mono ?_; rintro e w9 ⟨rfl, hw9⟩; rw [hw9]; clear hw9 w9) | (go_at_call 52; refine (HC2.out _).mono ?_; rintro e w9 ⟨rfl, hw9⟩; rw [hw9]; clear hw9 w9))
      go_ret
      exact ⟨rfl, below_drewN ((below_alloc w _).alloc (by simp) _) _⟩
    · rw [if_neg hs0]
      have HBm2 := Lib.hid (HBm.out mi (by omega))
      have HC2 := Lib.hid (HC.out mi)
      have hc := HPc.out (M % 2 ^ mi)
      generalize M % 2 ^ mi = B at *
      generalize pc B = c at *
      go_enter Tryd.func55, Tryd.ntmps55
      go_wp2_with fail
      go_quiet ((first | (with_reducible exact Calls.quiet_of_same (HBl.out _)) | (with_reducible exact Calls.quiet_of_same (HA.out _)) | (with_reducible exact Calls.quiet_of_same (HB.out _))))
      go_wp2_with (first | (go_at_call 54; refine (HHas.out _).mono ?_; rintro e w9 ⟨rfl, hw9⟩; rw [hw9]; clear hw9 w9) | (go_at_call 46; refine (HBm2.out _).mono ?_; rintro e w9 ⟨rfl, hw9⟩; rw [hw9]; clear hw9 w9) | (go_at_call 52; refine (HC2.out _).mono ?_; rintro e w9 ⟨rfl, hw9⟩; rw [hw9]; clear hw9 w9))
      go_ret
      exact ⟨rfl, below_drewN ((below_alloc w _).alloc (by simp) _) _⟩
end Go.Proofs.YtnijneajlmgkjaaDoor
