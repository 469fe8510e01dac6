/- Walk of the reference's own reader of one or two digits. -/
import Derived.Test.YtbbleedepmcdfaaDoorCroB
set_option linter.unusedSimpArgs false
set_option linter.unusedVariables false
namespace Go.Proofs.YtbbleedepmcdfaaDoor
open Go.ChangeShapes Go.WideShapes Go.ChangeAt Go.RowKit Go.Base Go.Cro

set_option maxHeartbeats 400000 in
theorem refDigits_some (l : Bytes) (n : Int) (w : World) (h : numB l = some n) :
    Calls Tryd.prog 61 #[.string ⟨l.toArray⟩] w fun e w' => e = .returned (.tuple #[.int .i64 n, .bool true]) ∧ w = w' := by
  rcases l with _ | ⟨a, _ | ⟨b, _ | ⟨c, l⟩⟩⟩
  · cases h
  · simp only [numB] at h
    split at h
    · rename_i hd
      obtain ⟨hd1, hd2⟩ := dig_of hd
      obtain rfl := Option.some.inj h
      clear h hd
      have e0 : ∀ h, ({ data := #[a] } : ByteArray)[0]'h = a := fun _ => rfl
      go_enter Tryd.func61, Tryd.ntmps61
      go_wp2
      refine wp_loop_rounds 2 ?_
      iterate 2 (try (rw [rounds_succ]; go_wp2))
      go_ret2
      exact ⟨rfl, rfl⟩
    · cases h
  · simp only [numB] at h
    split at h
    · rename_i hd
      simp only [Bool.and_eq_true] at hd
      obtain ⟨hd1, hd2⟩ := dig_of hd.1
      obtain ⟨hd3, hd4⟩ := dig_of hd.2
      obtain rfl := Option.some.inj h
      clear h hd
      have e0 : ∀ h, ({ data := #[a, b] } : ByteArray)[0]'h = a := fun _ => rfl
      have e1 : ∀ h, ({ data := #[a, b] } : ByteArray)[1]'h = b := fun _ => rfl
      go_enter Tryd.func61, Tryd.ntmps61
      go_wp2
      refine wp_loop_rounds 3 ?_
      iterate 3 (try (rw [rounds_succ]; go_wp2))
      go_ret2
      exact ⟨rfl, rfl⟩
    · cases h
  · cases h

set_option maxHeartbeats 400000 in
theorem refDigits_none (l : Bytes) (w : World) (hl : l.length ≤ maxLen) (h : numB l = none) :
    Calls Tryd.prog 61 #[.string ⟨l.toArray⟩] w fun e w' => e = .returned (.tuple #[.int .i64 0, .bool false]) ∧ w = w' := by
  rcases l with _ | ⟨a, _ | ⟨b, _ | ⟨c, l⟩⟩⟩
  · clear h
    go_enter Tryd.func61, Tryd.ntmps61
    go_wp2
    go_ret2
    exact ⟨rfl, rfl⟩
  · simp only [numB] at h
    split at h
    · cases h
    · rename_i hd
      have hd := dig_not hd
      clear h
      have e0 : ∀ h, ({ data := #[a] } : ByteArray)[0]'h = a := fun _ => rfl
      rcases hd with hd | ⟨hd, hd'⟩
      all_goals
        go_enter Tryd.func61, Tryd.ntmps61
        go_wp2
        refine wp_loop_rounds 2 ?_
        iterate 2 (try (rw [rounds_succ]; go_wp2))
        go_ret2
        exact ⟨rfl, rfl⟩
  · simp only [numB] at h
    split at h
    · cases h
    · rename_i hd
      clear h
      have e0 : ∀ h, ({ data := #[a, b] } : ByteArray)[0]'h = a := fun _ => rfl
      have e1 : ∀ h, ({ data := #[a, b] } : ByteArray)[1]'h = b := fun _ => rfl
      by_cases ha : isDig a = true
      · have hb := dig_not (a := b) (fun hb => hd (by simp [ha, hb]))
        obtain ⟨ha1, ha2⟩ := dig_of ha
        clear hd ha
        rcases hb with hb | ⟨hb, hb'⟩
        all_goals
          go_enter Tryd.func61, Tryd.ntmps61
          go_wp2
          refine wp_loop_rounds 3 ?_
          iterate 3 (try (rw [rounds_succ]; go_wp2))
          go_ret2
          exact ⟨rfl, rfl⟩
      · have ha := dig_not ha
        clear hd
        rcases ha with ha | ⟨ha, ha'⟩
        all_goals
          go_enter Tryd.func61, Tryd.ntmps61
          go_wp2
          refine wp_loop_rounds 3 ?_
          iterate 3 (try (rw [rounds_succ]; go_wp2))
          go_ret2
          exact ⟨rfl, rfl⟩
  · clear h
    have hs : (2 : Int) < ((⟨(a :: b :: c :: l).toArray⟩ : ByteArray).size : Int) := by simp [ByteArray.size]; omega
    have hs' : ((⟨(a :: b :: c :: l).toArray⟩ : ByteArray).size : Int) ≤ 9223372036854775807 := by unfold maxLen at hl; simp [ByteArray.size] at hl ⊢; omega
    generalize (⟨(a :: b :: c :: l).toArray⟩ : ByteArray) = s at hs hs' ⊢
    go_enter Tryd.func61, Tryd.ntmps61
    go_wp2
    go_ret2
    exact ⟨rfl, rfl⟩

theorem refDigits_any (l : Bytes) (w : World) (hl : l.length ≤ maxLen) :
    Calls Tryd.prog 61 #[.string ⟨l.toArray⟩] w fun e w' => e = .returned (opt (numB l)) ∧ w = w' := by
  cases h : numB l with
  | none => exact refDigits_none l w hl h
  | some n => exact refDigits_some l n w h

end Go.Proofs.YtbbleedepmcdfaaDoor
