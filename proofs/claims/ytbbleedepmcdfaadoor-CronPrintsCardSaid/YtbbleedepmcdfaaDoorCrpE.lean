/- Walks of the reference's own small functions: the bounds of a field, what stands ahead of a byte. -/
import Derived.Test.YtbbleedepmcdfaaDoorCrpA
import Derived.Test.YtbbleedepmcdfaaDoorCrpD
set_option linter.unusedSimpArgs false
set_option linter.unusedVariables false
namespace Go.Proofs.YtbbleedepmcdfaaDoor
open Go.ChangeShapes Go.WideShapes Go.ChangeAt Go.RowKit Go.Base Go.Cro Go.Civ

theorem refLow_any (k : Nat) (hk : k < 5) (w : World) :
    Calls Tryd.prog 53 #[.int .i64 k] w fun e w' => e = .returned (.int .i64 (scB k).least) ∧ w = w' := by
  have hk' : k = 0 ∨ k = 1 ∨ k = 2 ∨ k = 3 ∨ k = 4 := by omega
  rcases hk' with rfl | rfl | rfl | rfl | rfl
  all_goals
    go_enter Tryd.func53, Tryd.ntmps53
    go_wp2
    go_ret
    exact ⟨rfl, rfl⟩
theorem refHigh_any (k : Nat) (hk : k < 5) (w : World) :
    Calls Tryd.prog 65 #[.int .i64 k] w fun e w' => e = .returned (.int .i64 (scB k).said) ∧ w = w' := by
  have hk' : k = 0 ∨ k = 1 ∨ k = 2 ∨ k = 3 ∨ k = 4 := by omega
  rcases hk' with rfl | rfl | rfl | rfl | rfl
  all_goals
    go_enter Tryd.func65, Tryd.ntmps65
    go_wp2
    go_ret
    exact ⟨rfl, rfl⟩
theorem refLast_any (k : Nat) (hk : k < 5) (w : World) :
    Calls Tryd.prog 54 #[.int .i64 k] w fun e w' => e = .returned (.int .i64 (scB k).most) ∧ w = w' := by
  by_cases h4 : k = 4
  · subst h4
    go_enter Tryd.func54, Tryd.ntmps54
    go_wp2
    go_ret
    exact ⟨rfl, rfl⟩
  · have H : Hid ((scB k).said = (scB k).most) := Lib.hid (by
      have hk' : k = 0 ∨ k = 1 ∨ k = 2 ∨ k = 3 := by omega
      rcases hk' with rfl | rfl | rfl | rfl <;> rfl)
    have h4' : ¬ (k : Int) = 4 := by omega
    go_enter Tryd.func54, Tryd.ntmps54
    go_wp2_with (go_at_call 65; refine (refHigh_any k hk _).mono ?_; rintro e w' ⟨rfl, rfl⟩)
    go_ret
    exact ⟨by rw [H.out]; rfl, rfl⟩

/-- What the first k bytes are not. -/
def IdxAt (c : UInt8) (l : Bytes) (k : Nat) : Prop := (Lib.indexByte (l.drop k) c = -1 → Lib.indexByte l c = -1) ∧ (0 ≤ Lib.indexByte (l.drop k) c → Lib.indexByte l c = Lib.indexByte (l.drop k) c + k)
set_option maxHeartbeats 1600000 in
theorem refCut_any (c : UInt8) (l : Bytes) (hl : l.length ≤ maxLen) (w : World) :
    Calls Tryd.prog 44 #[.string ⟨l.toArray⟩, .int .u8 c.toNat] w fun e w' => e = .returned (.tuple #[.string ⟨(cutB c l).1.toArray⟩, .string ⟨(cutB c l).2.1.toArray⟩, .bool (cutB c l).2.2]) ∧ ∃ n, w' = w.drewN n := by
  have hl9 : (l.length : Int) ≤ 9223372036854775807 := by unfold maxLen at hl; omega
  go_enter Tryd.func44, Tryd.ntmps44
  go_wp2
  go_loop [7] (fun i => ∃ (k : Nat), k ≤ l.length ∧ i = .int .i64 k ∧ Hid (IdxAt c l k)) (fun i => l.length - (intOf i).toNat)
  case atStart => exact ⟨0, Nat.zero_le _, rfl, Lib.hid (by unfold IdxAt; rw [List.drop_zero]; exact ⟨fun h => h, fun h => by omega⟩)⟩
  case round =>
    obtain ⟨k, hk, rfl, HX⟩ := hrel
    by_cases hlt : k < l.length
    · have hlt' : (k : Int) < (l.length : Int) := by omega
      have hd : l.drop k = l[k] :: l.drop (k + 1) := List.drop_eq_getElem_cons hlt
      have hx := HX.out
      unfold IdxAt at hx
      simp only [hd, Lib.indexByte] at hx
      have hsz : k < (⟨l.toArray⟩ : ByteArray).size := hlt
      have hat : (⟨l.toArray⟩ : ByteArray)[k]'hsz = l[k] := bytes_at l k hlt hsz
      generalize l[k] = b at hx hat
      clear hd HX
      by_cases hbc : ((b.toNat : Int) == (c.toNat : Int)) = true
      · have hb : b = c := UInt8.toNat_inj.1 (by have := eq_of_beq hbc; omega)
        have H : Hid (cutB c l = (l.take k, l.drop (k + 1), true)) := Lib.hid (by
          have : Lib.indexByte l c = k := by have := hx.2 (by simp [hb]); simp [hb] at this; exact this
          unfold cutB; rw [this, if_pos (by omega)]; simp)
        have E1 := Lib.hid (ext_list l 0 k)
        have E2 := Lib.hid (ext_list l (k + 1) l.length)
        clear hx hb
        go_wp2_with fail
        go_quiet (fail)
        go_wp2
        go_ret3
        refine ⟨?_, _, rfl⟩
        rw [H.out]
        simp [E1.out, E2.out]
      · have hb : ¬ (b == c) = true := by intro h; apply hbc; rw [beq_iff_eq] at h ⊢; rw [h]
        have HX2 : Hid (IdxAt c l (k + 1)) := Lib.hid (by
          have h0 := Lib.indexByte_ge (l.drop (k + 1)) c
          rw [if_neg hb] at hx
          unfold IdxAt
          by_cases h1 : Lib.indexByte (l.drop (k + 1)) c = -1
          · rw [if_pos (by rw [h1]; rfl)] at hx
            exact ⟨fun _ => hx.1 rfl, fun h => by omega⟩
          · rw [if_neg (by rw [beq_iff_eq]; exact h1)] at hx
            exact ⟨fun h => absurd h h1, fun h => by rw [hx.2 (by omega)]; omega⟩)
        clear hx hb
        go_wp2
        go_round
        case rel => exact ⟨k + 1, hlt, by congr 1, HX2⟩
        case measure => simp [intOf]; omega
    · have hk' : k = l.length := by omega
      have hlt' : ¬ (k : Int) < (l.length : Int) := by omega
      have H : Hid (cutB c l = (l, [], false)) := Lib.hid (by
        have hx := HX.out
        unfold IdxAt at hx
        rw [hk', List.drop_length] at hx
        have : Lib.indexByte l c = -1 := hx.1 rfl
        unfold cutB; rw [this]; rfl)
      clear HX
      go_wp2
      go_ret3
      refine ⟨?_, 0, rfl⟩
      rw [H.out]
      rfl

end Go.Proofs.YtbbleedepmcdfaaDoor
