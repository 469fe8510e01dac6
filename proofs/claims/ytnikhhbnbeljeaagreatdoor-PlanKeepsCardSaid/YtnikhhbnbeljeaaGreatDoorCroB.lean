/- Walks of package cron: digits, steps, the values of a range. -/
import Derived.Test.YtnikhhbnbeljeaaGreatDoorCroA
import Derived.Test.YtnikhhbnbeljeaaGreatDoorBase
import Derived.Test.YtnikhhbnbeljeaaGreatDoorRows
import Derived.PlainAid
import Derived.Lib.Bytealg
import Derived.WalkKit
import Derived.Handy
import Derived.ProofKit
import Derived.OpenShut
import Derived.Deep.DeepHandedRow
import Derived.Lib.Hide
import Derived.Laws.Tables
import Derived.Carry
import Derived.Deep.QuietTactic
import Derived.BigQuiet
import Derived.Outline
import Derived.Laws.ShiftsVar
import Derived.WalkSmall
import Derived.WalkSpells
import Derived.Lib.Strings
set_option linter.unusedSimpArgs false
set_option linter.unusedVariables false
namespace Go.Proofs.YtnikhhbnbeljeaaGreatDoor
open Go.ChangeShapes Go.WideShapes Go.ChangeAt Go.RowKit Go.Base Go.Cro

theorem u8_eq (c d : UInt8) : (c == d) = ((c.toNat : Int) == (d.toNat : Int)) := by
  rw [Bool.eq_iff_iff]
  simp only [beq_iff_eq]
  constructor
  · rintro rfl; rfl
  · intro h; exact UInt8.toNat_inj.1 (by omega)

theorem blank_any (c : UInt8) (w : World) :
    Calls Tryz.prog 179 #[.int .u8 c.toNat] w fun e w' => e = .returned (.bool (blankB c)) ∧ w = w' := by
  have e1 : (c == 32) = ((c.toNat : Int) == 32) := u8_eq c _
  have e2 : (c == 9) = ((c.toNat : Int) == 9) := u8_eq c _
  have H : Hid (blankB c = (((c.toNat : Int) == 32) || ((c.toNat : Int) == 9))) := Lib.hid (by unfold blankB; rw [e1, e2])
  clear e1 e2
  by_cases h1 : ((c.toNat : Int) == 32) = true <;> by_cases h2 : ((c.toNat : Int) == 9) = true
  all_goals
    go_enter Tryz.func179, Tryz.ntmps179
    go_wp2
    go_ret
    exact ⟨ret_bool (by rw [H.out]; simp [*]), rfl⟩
theorem comma_any (c : UInt8) (w : World) :
    Calls Tryz.prog 223 #[.int .u8 c.toNat] w fun e w' => e = .returned (.bool (commaB c)) ∧ w = w' := by
  have e1 : (c == 44) = ((c.toNat : Int) == 44) := u8_eq c _
  have H : Hid (commaB c = ((c.toNat : Int) == 44)) := Lib.hid (by unfold commaB; rw [e1])
  clear e1
  go_enter Tryz.func223, Tryz.ntmps223
  go_wp2
  go_ret
  exact ⟨ret_bool (by rw [H.out]), rfl⟩

theorem values_any (s : Sc) (first last step : Int) (w : World) (h1 : 0 ≤ first) (h2 : last ≤ 99) (h3 : 1 ≤ step) (h4 : step ≤ 99) (h5 : 0 ≤ s.least) (h6 : s.least ≤ 1) (h7 : s.most ≤ 59) (h8 : 0 ≤ s.most) (hf : first ≤ 99) :
    Calls Tryz.prog 150 #[.agg #[.int .i64 s.least, .int .i64 s.most, .int .i64 s.said], .int .i64 first, .int .i64 last, .int .i64 step] w fun e w' => e = .returned (.int .u64 (valsB s first last step)) ∧ Below w.heap.size w w' := by
  obtain ⟨least, most, said⟩ := s
  simp only at h5 h6 h7 h8
  have H : Hid (valsB ⟨least, most, said⟩ first last step = valsFrom least most last step 100 first 0) := Lib.hid rfl
  go_enter Tryz.func150, Tryz.ntmps150
  go_wp2
  go_loop [9, 10] (fun a v => ∃ (A V : Int) (f : Nat), a = .int .u64 A ∧ v = .int .i64 V ∧ 0 ≤ V ∧ V ≤ 200 ∧ last - V < f ∧ valsFrom least most last step f V A = valsFrom least most last step 100 first 0) (fun _ v => (300 - intOf v).toNat)
  case atStart => exact ⟨0, first, 100, rfl, rfl, by omega, by omega, by omega, rfl⟩
  case round =>
    obtain ⟨A, V, f, rfl, rfl, hv1, hv2, hv3, hv⟩ := hrel
    have HV := Lib.hid hv
    clear hv
    by_cases hl : V ≤ last
    · obtain ⟨f, rfl⟩ : ∃ g, f = g + 1 := ⟨f - 1, by omega⟩
      by_cases hm : most < V
      · go_wp2
        go_round
        case rel => exact ⟨_, _, f, rfl, rfl, by omega, by omega, by omega, by rw [← HV.out]; simp only [valsFrom, setB]; rw [if_pos hl, if_pos hm]⟩
        case measure => simp [intOf]; omega
      · go_wp2
        go_round
        case rel => exact ⟨_, _, f, rfl, rfl, by omega, by omega, by omega, by rw [← HV.out]; simp only [valsFrom, setB]; rw [if_pos hl, if_neg hm]⟩
        case measure => simp [intOf]; omega
    · go_wp2
      go_ret
      refine ⟨ret_int ?_, below_alloc _ _⟩
      rw [H.out, ← HV.out]
      cases f with
      | zero => rfl
      | succ f => simp only [valsFrom]; rw [if_neg (by omega)]

theorem dig_of {a : UInt8} (h : isDig a = true) : 48 ≤ (a.toNat : Int) ∧ (a.toNat : Int) ≤ 57 := by
  simpa [isDig] using h
theorem dig_not {a : UInt8} (h : ¬ isDig a = true) : (a.toNat : Int) < 48 ∨ 48 ≤ (a.toNat : Int) ∧ 57 < (a.toNat : Int) := by
  simp [isDig] at h; omega

set_option maxHeartbeats 400000 in
theorem number_some (l : Bytes) (n : Int) (w : World) (h : numB l = some n) :
    Calls Tryz.prog 220 #[.string ⟨l.toArray⟩] w fun e w' => e = .returned (.tuple #[.int .i64 n, .bool true]) ∧ w = w' := by
  rcases l with _ | ⟨a, _ | ⟨b, _ | ⟨c, l⟩⟩⟩
  · cases h
  · simp only [numB] at h
    split at h
    · rename_i hd
      obtain ⟨hd1, hd2⟩ := dig_of hd
      obtain rfl := Option.some.inj h
      clear h hd
      have e0 : ∀ h, ({ data := #[a] } : ByteArray)[0]'h = a := fun _ => rfl
      go_enter Tryz.func220, Tryz.ntmps220
      go_wp2
      refine wp_loop_rounds 2 ?_
      iterate 2 (try (rw [rounds_succ]; go_wp2))
      go_ret2
      exact ⟨rfl, rfl⟩
    · cases h
  · simp only [numB] at h
    split at h
    · rename_i hd
      simp only [Bool.and_eq_true] at hd
      obtain ⟨hd1, hd2⟩ := dig_of hd.1
      obtain ⟨hd3, hd4⟩ := dig_of hd.2
      obtain rfl := Option.some.inj h
      clear h hd
      have e0 : ∀ h, ({ data := #[a, b] } : ByteArray)[0]'h = a := fun _ => rfl
      have e1 : ∀ h, ({ data := #[a, b] } : ByteArray)[1]'h = b := fun _ => rfl
      go_enter Tryz.func220, Tryz.ntmps220
      go_wp2
      refine wp_loop_rounds 3 ?_
      iterate 3 (try (rw [rounds_succ]; go_wp2))
      go_ret2
      exact ⟨rfl, rfl⟩
    · cases h
  · cases h

set_option maxHeartbeats 400000 in
theorem number_none (l : Bytes) (w : World) (hl : l.length ≤ maxLen) (h : numB l = none) :
    Calls Tryz.prog 220 #[.string ⟨l.toArray⟩] w fun e w' => e = .returned (.tuple #[.int .i64 0, .bool false]) ∧ w = w' := by
  rcases l with _ | ⟨a, _ | ⟨b, _ | ⟨c, l⟩⟩⟩
  · clear h
    go_enter Tryz.func220, Tryz.ntmps220
    go_wp2
    go_ret2
    exact ⟨rfl, rfl⟩
  · simp only [numB] at h
    split at h
    · cases h
    · rename_i hd
      have hd := dig_not hd
      clear h
      have e0 : ∀ h, ({ data := #[a] } : ByteArray)[0]'h = a := fun _ => rfl
      rcases hd with hd | ⟨hd, hd'⟩
      all_goals
        go_enter Tryz.func220, Tryz.ntmps220
        go_wp2
        refine wp_loop_rounds 2 ?_
        iterate 2 (try (rw [rounds_succ]; go_wp2))
        go_ret2
        exact ⟨rfl, rfl⟩
  · simp only [numB] at h
    split at h
    · cases h
    · rename_i hd
      clear h
      have e0 : ∀ h, ({ data := #[a, b] } : ByteArray)[0]'h = a := fun _ => rfl
      have e1 : ∀ h, ({ data := #[a, b] } : ByteArray)[1]'h = b := fun _ => rfl
      by_cases ha : isDig a = true
      · have hb := dig_not (a := b) (fun hb => hd (by simp [ha, hb]))
        obtain ⟨ha1, ha2⟩ := dig_of ha
        clear hd ha
        rcases hb with hb | ⟨hb, hb'⟩
        all_goals
          go_enter Tryz.func220, Tryz.ntmps220
          go_wp2
          refine wp_loop_rounds 3 ?_
          iterate 3 (try (rw [rounds_succ]; go_wp2))
          go_ret2
          exact ⟨rfl, rfl⟩
      · have ha := dig_not ha
        clear hd
        rcases ha with ha | ⟨ha, ha'⟩
        all_goals
          go_enter Tryz.func220, Tryz.ntmps220
          go_wp2
          refine wp_loop_rounds 3 ?_
          iterate 3 (try (rw [rounds_succ]; go_wp2))
          go_ret2
          exact ⟨rfl, rfl⟩
  · clear h
    have hs : (2 : Int) < ((⟨(a :: b :: c :: l).toArray⟩ : ByteArray).size : Int) := by simp [ByteArray.size]; omega
    have hs' : ((⟨(a :: b :: c :: l).toArray⟩ : ByteArray).size : Int) ≤ 9223372036854775807 := by unfold maxLen at hl; simp [ByteArray.size] at hl ⊢; omega
    generalize (⟨(a :: b :: c :: l).toArray⟩ : ByteArray) = s at hs hs' ⊢
    go_enter Tryz.func220, Tryz.ntmps220
    go_wp2
    go_ret2
    exact ⟨rfl, rfl⟩

/-- What a reader hands back. -/
def opt : Option Int → Value
  | some n => .tuple #[.int .i64 n, .bool true]
  | none => .tuple #[.int .i64 0, .bool false]
theorem number_any (l : Bytes) (w : World) (hl : l.length ≤ maxLen) :
    Calls Tryz.prog 220 #[.string ⟨l.toArray⟩] w fun e w' => e = .returned (opt (numB l)) ∧ w = w' := by
  cases h : numB l with
  | none => exact number_none l w hl h
  | some n => exact number_some l n w h

theorem stepOf_some (l : Bytes) (n : Int) (w : World) (hl : l.length ≤ maxLen) (h : stepB l = some n) :
    Calls Tryz.prog 262 #[.string ⟨l.toArray⟩] w fun e w' => e = .returned (.tuple #[.int .i64 n, .bool true]) ∧ w = w' := by
  unfold stepB at h
  split at h
  · cases h
  · rename_i hz
    have H := Lib.hid h
    rcases l with _ | ⟨a, _ | ⟨b, _ | ⟨c, l⟩⟩⟩
    · cases h
    · clear h hz
      go_enter Tryz.func262, Tryz.ntmps262
      go_wp2_with (go_at_call 220; refine (number_some _ _ _ H.out).mono ?_; rintro e w' ⟨rfl, rfl⟩)
      go_ret2
      exact ⟨rfl, rfl⟩
    · have ha : ((a.toNat : Int) == 48) = false := by
        have : ¬ a = 48 := by simpa using hz
        have e := u8_eq a 48
        rw [show (a == 48) = false by simpa using this] at e
        exact e.symm
      have e0 : ∀ h, ({ data := #[a, b] } : ByteArray)[0]'h = a := fun _ => rfl
      clear h hz
      go_enter Tryz.func262, Tryz.ntmps262
      go_wp2_with (go_at_call 220; refine (number_some _ _ _ H.out).mono ?_; rintro e w' ⟨rfl, rfl⟩)
      go_ret2
      exact ⟨rfl, rfl⟩
    · cases h
theorem stepOf_none (l : Bytes) (w : World) (hl : l.length ≤ maxLen) (h : stepB l = none) :
    Calls Tryz.prog 262 #[.string ⟨l.toArray⟩] w fun e w' => e = .returned (.tuple #[.int .i64 0, .bool false]) ∧ w = w' := by
  by_cases hn : numB l = none
  · have H := Lib.hid hn
    have HL := Lib.hid hl
    clear h hn hl
    go_enter Tryz.func262, Tryz.ntmps262
    go_wp2_with (go_at_call 220; refine (number_none _ _ HL.out H.out).mono ?_; rintro e w' ⟨rfl, rfl⟩)
    go_ret2
    exact ⟨rfl, rfl⟩
  · obtain ⟨n, hn⟩ := Option.ne_none_iff_exists'.1 hn
    unfold stepB at h
    split at h
    · rename_i hz
      rcases l with _ | ⟨a, _ | ⟨b, _ | ⟨c, l⟩⟩⟩
      · simp at hz
      · simp at hz
      · have H := Lib.hid hn
        have ha : ((a.toNat : Int) == 48) = true := by
          have : a = 48 := by simpa using hz.2
          rw [this]; decide
        have e0 : ∀ h, ({ data := #[a, b] } : ByteArray)[0]'h = a := fun _ => rfl
        clear h hz hn
        go_enter Tryz.func262, Tryz.ntmps262
        go_wp2_with (go_at_call 220; refine (number_some _ _ _ H.out).mono ?_; rintro e w' ⟨rfl, rfl⟩)
        go_ret2
        exact ⟨rfl, rfl⟩
      · cases hn
    · rw [h] at hn; cases hn
end Go.Proofs.YtnikhhbnbeljeaaGreatDoor
