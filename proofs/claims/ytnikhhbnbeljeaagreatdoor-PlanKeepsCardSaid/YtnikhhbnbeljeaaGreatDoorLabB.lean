/- Walks of package label: words. -/
import Derived.Test.YtnikhhbnbeljeaaGreatDoorLabA
import Derived.Test.YtnikhhbnbeljeaaGreatDoorBase
import Derived.Test.YtnikhhbnbeljeaaGreatDoorProg
import Derived.PlainAid
import Derived.WalkKit
import Derived.Handy
import Derived.ProofKit
import Derived.OpenShut
import Derived.Deep.DeepHandedRow
import Derived.Lib.Hide
import Derived.Laws.Tables
import Derived.Carry
import Derived.Outline
import Derived.WalkSmall
import Derived.WalkSpells
import Derived.WalkLawsBesides
set_option linter.unusedSimpArgs false
set_option linter.unusedVariables false
namespace Go.Proofs.YtnikhhbnbeljeaaGreatDoor.LB
open Go.ChangeShapes Go.WideShapes Go.ChangeAt Go.RowKit Go.Base Go.Lab

set_option maxHeartbeats 1000000 in
theorem wordByte_any (d : Int) (h0 : 0 ≤ d) (h1 : d ≤ 255) (w : World) :
    Calls Tryz.prog 163 #[.int .u8 d] w fun e w' => e = .returned (.bool (isWd d)) ∧ w = w' := by
  generalize hI : isWd d = I
  have HI := Lib.hid hI
  clear hI
  go_enter Tryz.func163, Tryz.ntmps163
  go_wp2
  all_goals
    go_ret
    refine ⟨ret_bool ?_, rfl⟩
    rw [← HI.out]
    unfold isWd
    rw [Bool.eq_iff_iff]
    simp only [Bool.or_eq_true, decide_eq_true_eq, beq_iff_eq, true_iff, false_iff, Bool.false_eq_true]
    try omega
set_option maxHeartbeats 1000000 in
theorem wordLength_any (s : ByteArray) (hs : s.size ≤ maxLen) (w : World) :
    Calls Tryz.prog 110 #[.string s] w fun e w' => e = .returned (.int .i64 (wordLen s.data.toList : Nat)) ∧ w = w' := by
  unfold maxLen at hs
  generalize hI : wordLen s.data.toList = I
  have HI := Lib.hid hI
  clear hI
  go_enter Tryz.func110, Tryz.ntmps110
  go_wp2
  go_loop [3] (fun i => ∃ k : Nat, k ≤ s.size ∧ i = .int .i64 (k : Int) ∧ Hid (∀ c ∈ s.data.toList.take k, isW c = true)) (fun i => s.size - (intOf i).toNat)
  case atStart => exact ⟨0, Nat.zero_le _, rfl, Lib.hid (by simp)⟩
  case round =>
    obtain ⟨k, hk, rfl, HK⟩ := hrel
    have hl : s.data.toList.length = s.size := by simp
    have HL := Lib.hid hl
    clear hl
    by_cases hlt : k < s.size
    · have hlt' : (k : Int) < (s.size : Int) := by omega
      have hc1 : 0 ≤ ((s[k]).toNat : Int) ∧ ((s[k]).toNat : Int) ≤ 255 := by have := (s[k]).toNat_lt; omega
      have HG : Hid (s.data.toList[k]? = some s[k]) := Lib.hid (by rw [List.getElem?_eq_getElem (by rw [HL.out]; exact hlt)]; rfl)
      have HT : Hid (s.data.toList.take (k + 1) = s.data.toList.take k ++ [s[k]]) := Lib.hid (by rw [List.take_add_one, HG.out]; rfl)
      cases hw : isWd ((s[k]).toNat : Int)
      · have HW : Hid (wordLen s.data.toList = k) := Lib.hid (wordLen_at (by rw [HL.out]; exact hk) HK.out (.inr ⟨s[k], HG.out, hw⟩))
        have HB := Lib.hid (fun w => wordByte_any ((s[k]).toNat : Int) hc1.1 hc1.2 w)
        rw [hw] at HB
        clear hw
        go_wp2_with (go_at_call 163; refine (HB.out _).mono ?_; rintro e w1 ⟨rfl, rfl⟩)
        go_ret
        exact ⟨ret_int (by rw [← HI.out, HW.out]), rfl⟩
      · have HK2 : Hid (∀ c ∈ s.data.toList.take (k + 1), isW c = true) := Lib.hid (fun c hc => by
          rw [HT.out, List.mem_append, List.mem_singleton] at hc
          rcases hc with hc | rfl
          · exact HK.out c hc
          · exact hw)
        have HB := Lib.hid (fun w => wordByte_any ((s[k]).toNat : Int) hc1.1 hc1.2 w)
        rw [hw] at HB
        clear hw
        go_wp2_with (go_at_call 163; refine (HB.out _).mono ?_; rintro e w1 ⟨rfl, rfl⟩)
        go_round
        case rel => exact ⟨k + 1, by omega, by go_num, HK2⟩
        case measure => simp [intOf]; omega
    · obtain rfl : k = s.size := by omega
      have HW : Hid (wordLen s.data.toList = s.size) := Lib.hid (wordLen_at (by rw [HL.out]; exact Nat.le_refl _) HK.out (.inl HL.out.symm))
      go_wp2
      go_ret
      exact ⟨ret_int (by rw [← HI.out, HW.out]), rfl⟩
set_option maxHeartbeats 1000000 in
theorem word_any (s : ByteArray) (hs : s.size ≤ maxLen) (w : World) :
    Calls Tryz.prog 51 #[.string s] w fun e w' => e = .returned (.bool (wordB s.data.toList)) ∧ w = w' := by
  have HC := Lib.hid (wordLength_any s hs w)
  have hl : s.data.toList.length = s.size := by simp
  have HW : Hid (wordB s.data.toList = (decide (1 ≤ s.size) && decide (s.size ≤ 32) && ((wordLen s.data.toList : Int) == (s.size : Int)))) := Lib.hid (by
    unfold wordB; rw [hl]; congr 1; rw [Bool.eq_iff_iff]; simp only [beq_iff_eq]; omega)
  have hwl := wordLen_le s.data.toList
  rw [hl] at hwl
  clear hl
  unfold maxLen at hs
  generalize wordLen s.data.toList = n at *
  generalize wordB s.data.toList = r at *
  by_cases h1 : 1 ≤ s.size
  · have h1' : (1 : Int) ≤ (s.size : Int) := by omega
    by_cases h2 : s.size ≤ 32
    · have h2' : (s.size : Int) ≤ 32 := by omega
      go_enter Tryz.func51, Tryz.ntmps51
      go_wp2_with (go_at_call 110; with_reducible refine HC.out.mono ?_; rintro e w1 ⟨rfl, rfl⟩)
      go_ret
      exact ⟨ret_bool (by rw [HW.out]; simp [h1, h2]), rfl⟩
    · have h2' : (32 : Int) < (s.size : Int) := by omega
      have HR : Hid (r = false) := Lib.hid (by rw [HW.out]; simp [h2])
      clear h2
      go_enter Tryz.func51, Tryz.ntmps51
      go_wp2
      go_ret
      exact ⟨ret_bool HR.out.symm, rfl⟩
  · have h1' : (s.size : Int) < 1 := by omega
    have HR : Hid (r = false) := Lib.hid (by rw [HW.out]; simp [h1])
    clear h1
    go_enter Tryz.func51, Tryz.ntmps51
    go_wp2
    go_ret
    exact ⟨ret_bool HR.out.symm, rfl⟩
theorem word_l (l : Bytes) (hl : l.length ≤ maxLen) (w : World) :
    Calls Tryz.prog 51 #[.string ⟨l.toArray⟩] w fun e w' => e = .returned (.bool (wordB l)) ∧ w = w' := by
  have := word_any ⟨l.toArray⟩ (by simpa [ByteArray.size] using hl) w
  simpa using this
set_option maxHeartbeats 1000000 in
theorem val_l (l : Bytes) (hl : l.length ≤ maxLen) (w : World) :
    Calls Tryz.prog 174 #[.string ⟨l.toArray⟩] w fun e w' => e = .returned (.bool (valB l)) ∧ w = w' := by
  have HC := Lib.hid (word_l l hl w)
  have HV : Hid (valB l = (l.isEmpty || wordB l)) := Lib.hid rfl
  generalize wordB l = q at *
  generalize valB l = r at *
  cases l with
  | nil =>
    go_enter Tryz.func174, Tryz.ntmps174
    go_wp2
    go_ret
    exact ⟨ret_bool HV.out.symm, rfl⟩
  | cons c l =>
    go_enter Tryz.func174, Tryz.ntmps174
    go_wp2_with (go_at_call 51; refine HC.out.mono ?_; rintro e w1 ⟨rfl, rfl⟩)
    go_ret
    exact ⟨ret_bool HV.out.symm, rfl⟩
theorem allW_take {l : Bytes} {k : Nat} (hk : k ≤ l.length) (h : ∀ c ∈ l.take k, isW c = true) (he : k = l.length) : l.all isW = true := by
  subst he; rw [List.take_length] at h; exact List.all_eq_true.2 h
theorem wordB_all (l : Bytes) : wordB l = (decide (1 ≤ l.length) && decide (l.length ≤ 32) && l.all isW) := by
  unfold wordB; rw [wordLen_all]
set_option maxHeartbeats 2000000 in
theorem refWord_any (s : ByteArray) (hs : s.size ≤ maxLen) (w : World) :
    Calls Tryz.prog 55 #[.string s] w fun e w' => e = .returned (.bool (wordB s.data.toList)) ∧ w = w' := by
  unfold maxLen at hs
  have hl : s.data.toList.length = s.size := by simp
  have HL := Lib.hid hl
  have HI := Lib.hid (wordB_all s.data.toList)
  clear hl
  generalize wordB s.data.toList = I at *
  go_enter Tryz.func55, Tryz.ntmps55
  go_wp2
  go_loop [3] (fun i => ∃ k : Nat, k ≤ s.size ∧ i = .int .i64 (k : Int) ∧ Hid (∀ c ∈ s.data.toList.take k, isW c = true)) (fun i => s.size - (intOf i).toNat)
  case atStart => exact ⟨0, Nat.zero_le _, rfl, Lib.hid (by simp)⟩
  case round =>
    obtain ⟨k, hk, rfl, HK⟩ := hrel
    by_cases hlt : k < s.size
    · have hlt' : (k : Int) < (s.size : Int) := by omega
      have hc1 : 0 ≤ ((s[k]).toNat : Int) ∧ ((s[k]).toNat : Int) ≤ 255 := by have := (s[k]).toNat_lt; omega
      have HG : Hid (s.data.toList[k]? = some s[k]) := Lib.hid (by rw [List.getElem?_eq_getElem (by rw [HL.out]; exact hlt)]; rfl)
      have HT : Hid (s.data.toList.take (k + 1) = s.data.toList.take k ++ [s[k]]) := Lib.hid (by rw [List.take_add_one, HG.out]; rfl)
      have HK2 : Hid (isWd ((s[k]).toNat : Int) = true → ∀ c ∈ s.data.toList.take (k + 1), isW c = true) := Lib.hid (fun hw c hc => by
          rw [HT.out, List.mem_append, List.mem_singleton] at hc
          rcases hc with hc | rfl
          · exact HK.out c hc
          · exact hw)
      have HN : Hid (isWd ((s[k]).toNat : Int) = false → I = false) := Lib.hid (fun hw => by
        rw [HI.out]
        have : s.data.toList.all isW = false := List.all_eq_false.2 ⟨s[k], List.mem_of_getElem? HG.out, by unfold isW; rw [hw]; decide⟩
        rw [this]; simp)
      by_cases h47 : ((s[k]).toNat : Int) = 47
      · have hw : isWd ((s[k]).toNat : Int) = true := by rw [h47]; decide
        have HW := Lib.hid hw
        clear hw
        go_wp2
        go_round
        case rel => exact ⟨k + 1, by omega, by go_num, Lib.hid (HK2.out HW.out)⟩
        case measure => simp [intOf]; omega
      · have b47 : (((s[k]).toNat : Int) == 47) = false := by simpa using h47
        go_wp2
        all_goals first
          | (have hw : isWd ((s[k]).toNat : Int) = true := (by unfold isWd; simp only [Bool.or_eq_true, decide_eq_true_eq]; omega)
             go_round
             case rel => exact ⟨k + 1, by omega, by go_num, Lib.hid (HK2.out hw)⟩
             case measure => simp [intOf]; omega)
          | (have hw : isWd ((s[k]).toNat : Int) = false := (by unfold isWd; simp only [Bool.or_eq_false_iff, decide_eq_false_iff_not]; omega)
             go_ret
             exact ⟨ret_bool (HN.out hw).symm, rfl⟩)
          | (exfalso; simp only [Bool.not_eq_false', Bool.not_eq_true', decide_eq_true_eq, decide_eq_false_iff_not, beq_iff_eq, beq_eq_false_iff_ne, ne_eq] at *; omega)
    · obtain rfl : k = s.size := by omega
      have HA : Hid (I = (decide (1 ≤ s.size) && decide (s.size ≤ 32))) := Lib.hid (by
        rw [HI.out, HL.out, allW_take (by rw [HL.out]; exact Nat.le_refl _) HK.out HL.out.symm, Bool.and_true])
      by_cases h1 : 1 ≤ s.size
      · have h1' : (1 : Int) ≤ (s.size : Int) := by omega
        go_wp2
        go_ret
        exact ⟨ret_bool (by rw [HA.out, Bool.eq_iff_iff]; simp [h1]; try omega), rfl⟩
      · have h1' : (s.size : Int) < 1 := by omega
        go_wp2
        go_ret
        exact ⟨ret_bool (by rw [HA.out]; simp [h1]), rfl⟩
theorem refWord_l (l : Bytes) (hl : l.length ≤ maxLen) (w : World) :
    Calls Tryz.prog 55 #[.string ⟨l.toArray⟩] w fun e w' => e = .returned (.bool (wordB l)) ∧ w = w' := by
  have := refWord_any ⟨l.toArray⟩ (by simpa [ByteArray.size] using hl) w
  simpa using this
set_option maxHeartbeats 1000000 in
theorem refVal_l (l : Bytes) (hl : l.length ≤ maxLen) (w : World) :
    Calls Tryz.prog 162 #[.string ⟨l.toArray⟩] w fun e w' => e = .returned (.bool (valB l)) ∧ w = w' := by
  have HC := Lib.hid (refWord_l l hl w)
  have HV : Hid (valB l = (l.isEmpty || wordB l)) := Lib.hid rfl
  generalize wordB l = q at *
  generalize valB l = r at *
  cases l with
  | nil =>
    go_enter Tryz.func162, Tryz.ntmps162
    go_wp2
    go_ret
    exact ⟨ret_bool HV.out.symm, rfl⟩
  | cons c l =>
    go_enter Tryz.func162, Tryz.ntmps162
    go_wp2_with (go_at_call 55; refine HC.out.mono ?_; rintro e w1 ⟨rfl, rfl⟩)
    go_ret
    exact ⟨ret_bool HV.out.symm, rfl⟩
end Go.Proofs.YtnikhhbnbeljeaaGreatDoor.LB
