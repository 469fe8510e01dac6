/- Walk of the reference's own fields. -/
import Derived.Test.YtbbleedepmcdfaaDoorCrpK
set_option linter.unusedSimpArgs false
set_option linter.unusedVariables false
namespace Go.Proofs.YtbbleedepmcdfaaDoor
open Go.ChangeShapes Go.WideShapes Go.ChangeAt Go.RowKit Go.Base Go.Cro Go.Civ

theorem splitB_cut : ∀ s : Bytes, splitB commaB s = if (cutB 44 s).2.2 = true then (cutB 44 s).1 :: splitB commaB (cutB 44 s).2.1 else [(cutB 44 s).1]
  | [] => rfl
  | c :: l => by
    have ih := splitB_cut l
    by_cases hc : c = 44
    · subst hc
      have hi : Lib.indexByte (44 :: l) 44 = 0 := by simp [Lib.indexByte]
      have h : cutB 44 (44 :: l) = ([], l, true) := by unfold cutB; rw [hi]; rfl
      rw [h]
      rfl
    · have hcb : (c == 44) = false := by simpa using hc
      have hs : splitB commaB (c :: l) = match splitB commaB l with
          | [] => [[c]]
          | x :: r => (c :: x) :: r := by
        simp only [splitB, commaB, hcb, Bool.false_eq_true, if_false]
        rfl
      rw [hs, ih]
      have hge := Lib.indexByte_ge l 44
      by_cases hj : Lib.indexByte l 44 = -1
      · have hi : Lib.indexByte (c :: l) 44 = -1 := by simp [Lib.indexByte, hcb, hj]
        have h1 : cutB 44 l = (l, [], false) := by unfold cutB; rw [hj]; rfl
        have h2 : cutB 44 (c :: l) = (c :: l, [], false) := by unfold cutB; rw [hi]; rfl
        rw [h1, h2]
        rfl
      · obtain ⟨j, hj2⟩ : ∃ j : Nat, Lib.indexByte l 44 = (j : Int) := ⟨(Lib.indexByte l 44).toNat, by omega⟩
        have hi : Lib.indexByte (c :: l) 44 = ((j + 1 : Nat) : Int) := by
          simp only [Lib.indexByte, hcb]
          rw [hj2]
          simp
        have h1 : cutB 44 l = (l.take j, l.drop (j + 1), true) := by unfold cutB; rw [hj2, if_pos (by omega)]; simp
        have h2 : cutB 44 (c :: l) = (c :: l.take j, l.drop (j + 1), true) := by unfold cutB; rw [hi, if_pos (by omega)]; simp
        rw [h1, h2]
        rfl
theorem cut_less (s a b : Bytes) (h : cutB 44 s = (a, b, true)) : b.length < s.length := by
  unfold cutB at h
  split at h
  · rename_i hi
    injection h with _ h
    injection h with h _
    rw [← h, List.length_drop]
    have := indexByte_bd 44 s
    omega
  · injection h with _ h; injection h with _ h; cases h
theorem item_le (k : Nat) (l : Bytes) (hk : k < 5) : (refItem k l).2.2 = 0 ∨ (refItem k l).2.2 = 20 ∨ (refItem k l).2.2 = 21 := by
  rw [item_eq k hk]; unfold itemR
  split
  · simp
  · split <;> simp
def fieldV (r : Except Int (Int × Bool)) : Value := match r with
  | .error e => .tuple #[.int .u64 0, .bool false, .int .i64 e]
  | .ok m => .tuple #[.int .u64 m.1, .bool m.2, .int .i64 0]
theorem field_step (k : Nat) (hk : k < 5) (a : Bytes) (r : List Bytes) (b : Int) (st : Bool) :
    fieldFrom (rdB k) (scB k) (a :: r) b st = if (refItem k a).2.2 = 0 then fieldFrom (rdB k) (scB k) r (bits .or .u64 b (refItem k a).1) (st || (refItem k a).2.1) else .error (refItem k a).2.2 := by
  rw [item_eq k hk]
  unfold itemR
  simp only [fieldFrom]
  cases itemB (rdB k) a with
  | none => rfl
  | some it =>
    simp only
    by_cases h : withinB it (scB k) = true
    · rw [if_pos h, if_pos h]; rfl
    · rw [if_neg h, if_neg h]; rfl

set_option maxHeartbeats 8000000 in
theorem refField_any (k : Nat) (hk : k < 5) (l : Bytes) (hl : l.length ≤ maxLen) (w : World) :
    Calls Tryd.prog 26 #[.int .i64 k, .string ⟨l.toArray⟩] w fun e w' => e = .returned (fieldV (fieldB k l)) ∧ Below w.heap.size w w' := by
  have hF : fieldB k l = fieldFrom (rdB k) (scB k) (splitB commaB l) 0 false := rfl
  have HI := Lib.hid (refItem_any k hk)
  go_enter Tryd.func26, Tryd.ntmps26
  have HF := Lib.hid hF
  clear hF
  go_wp2
  go_loopw [1, 7, 8] (fun s A T wr => ∃ (x : Bytes) (b : Int) (st : Bool), s = .string ⟨x.toArray⟩ ∧ A = .int .u64 b ∧ T = .bool st ∧ x.length ≤ maxLen ∧ fieldFrom (rdB k) (scB k) (splitB commaB x) b st = fieldB k l ∧ Below w.heap.size w wr) (fun s _ _ _ => match s with | .string t => t.size | _ => 0)
  case atStart => exact ⟨l, 0, false, rfl, rfl, rfl, hl, HF.out.symm, Below.refl _ _⟩
  case round =>
    obtain ⟨x, b, st, rfl, rfl, rfl, hx, hv, hB⟩ := hrel
    have HC := Lib.hid (refCut_any 44 x hx)
    rw [splitB_cut x] at hv
    have hle := cutB_len 44 x
    have hless := cut_less x
    generalize hc : cutB 44 x = c at *
    obtain ⟨a, r, more⟩ := c
    simp only at hv hle
    have HA := Lib.hid (HI.out a (Nat.le_trans hle.1 hx))
    have hst := field_step k hk a
    generalize refItem k a = i at *
    obtain ⟨y, is, e⟩ := i
    simp only at hst
    have HB := Lib.hid hB
    by_cases h0 : e = 0
    · subst h0
      cases more
      · simp only [Bool.false_eq_true, if_false] at hv
        rw [hst, if_pos rfl] at hv
        have HV := Lib.hid hv
        clear hv hst hless hc hle hB
        cases st
        all_goals
          go_wp2_with (first | (go_at_call 44; refine (HC.out _).mono ?_; rintro e W2 ⟨rfl, nd, rfl⟩) | (go_at_call 45; refine (HA.out _).mono ?_; rintro e W3 ⟨rfl, hb⟩; have HB3 := Lib.hid hb; clear hb))
          go_ret3
          exact ⟨by rw [← HV.out]; rfl, HB.out.trans (((below_drewN (Below.refl _ _) _).trans HB3.out).mono HB.out.size)⟩
      · simp only [if_true] at hv
        rw [hst, if_pos rfl] at hv
        have hls := hless a r rfl
        have HV := Lib.hid hv
        clear hv hst hless hc hB
        cases st
        all_goals
          go_wp2_with (first | (go_at_call 44; refine (HC.out _).mono ?_; rintro e W2 ⟨rfl, nd, rfl⟩) | (go_at_call 45; refine (HA.out _).mono ?_; rintro e W3 ⟨rfl, hb⟩; have HB3 := Lib.hid hb; clear hb))
          go_roundw
          case rel => exact ⟨r, _, _, rfl, rfl, rfl, by omega, HV.out, HB.out.trans (((below_drewN (Below.refl _ _) _).trans HB3.out).mono HB.out.size)⟩
          case measure => exact hls
    · have b0 : (e != 0) = true := by simpa using h0
      have HV : Hid (fieldB k l = .error e) := Lib.hid (by
        rw [← hv]
        split
        · rw [hst, if_neg h0]
        · rw [hst, if_neg h0])
      clear hv hst hless hc hle hB
      go_wp2_with (first | (go_at_call 44; refine (HC.out _).mono ?_; rintro e W2 ⟨rfl, nd, rfl⟩) | (go_at_call 45; refine (HA.out _).mono ?_; rintro e W3 ⟨rfl, hb⟩; have HB3 := Lib.hid hb; clear hb))
      go_ret3
      exact ⟨by rw [HV.out]; rfl, HB.out.trans (((below_drewN (Below.refl _ _) _).trans HB3.out).mono HB.out.size)⟩
end Go.Proofs.YtbbleedepmcdfaaDoor
