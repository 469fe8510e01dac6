/- Walk of the reference's own numbers of a field. -/
import Derived.Test.YtbbleedepmcdfaaDoorCrpF
set_option linter.unusedSimpArgs false
set_option linter.unusedVariables false
namespace Go.Proofs.YtbbleedepmcdfaaDoor
open Go.ChangeShapes Go.WideShapes Go.ChangeAt Go.RowKit Go.Base Go.Cro Go.Civ

/-- The name of a field's value. -/
def refNam (k : Nat) (l : Bytes) : Option Int := match k with
  | 3 => nameB months 1 l
  | 4 => nameB weekdays 0 l
  | _ => none
theorem refName_any (k : Nat) (hk : k < 5) (l : Bytes) (w : World) :
    Calls Tryd.prog 76 #[.int .i64 k, .string ⟨l.toArray⟩] w fun e w' => e = .returned (opt (refNam k l)) ∧ Below w.heap.size w w' := by
  rcases (by omega : k = 0 ∨ k = 1 ∨ k = 2 ∨ k = 3 ∨ k = 4) with rfl | rfl | rfl | rfl | rfl
  · exact refName_none 0 (by omega) l w
  · exact refName_none 1 (by omega) l w
  · exact refName_none 2 (by omega) l w
  · exact refName_month l w
  · exact refName_week l w

/-- A number of a field: its value and the error. -/
def refNum (k : Nat) (l : Bytes) : Int × Int := match refNam k l with
  | some n => (n, 0)
  | none => match numB l with
    | none => (0, 20)
    | some n => if n < (scB k).least ∨ (scB k).said < n then (0, 21) else (n, 0)
theorem scB_bd (k : Nat) : 0 ≤ (scB k).least ∧ (scB k).least ≤ 1 ∧ 0 ≤ (scB k).said ∧ (scB k).said ≤ 59 := by
  rcases k with _ | _ | _ | _ | _ | k <;> simp [scB]

theorem refNumber_any (k : Nat) (hk : k < 5) (l : Bytes) (hl : l.length ≤ maxLen) (w : World) :
    Calls Tryd.prog 70 #[.int .i64 k, .string ⟨l.toArray⟩] w fun e w' => e = .returned (.tuple #[.int .i64 (refNum k l).1, .int .i64 (refNum k l).2]) ∧ Below w.heap.size w w' := by
  have HN := Lib.hid (refName_any k hk l)
  have HD := Lib.hid (fun w => refDigits_any l w hl)
  have hsb := scB_bd k
  cases hn : refNam k l with
  | some n =>
    have H : Hid (refNum k l = (n, 0)) := Lib.hid (by unfold refNum; rw [hn])
    rw [hn] at HN
    clear hn
    go_enter Tryd.func70, Tryd.ntmps70
    go_wp2_with (go_at_call 76; refine (HN.out _).mono ?_; rintro e W ⟨rfl, hb⟩; have HB := Lib.hid hb; clear hb; simp only [opt])
    go_ret2
    exact ⟨by rw [H.out]; rfl, HB.out⟩
  | none =>
    rw [hn] at HN
    cases hd : numB l with
    | none =>
      have H : Hid (refNum k l = (0, 20)) := Lib.hid (by unfold refNum; rw [hn]; simp only [hd])
      rw [hd] at HD
      clear hn hd
      go_enter Tryd.func70, Tryd.ntmps70
      go_wp2_with (first
        | (go_at_call 76; refine (HN.out _).mono ?_; rintro e W ⟨rfl, hb⟩; have HB := Lib.hid hb; clear hb; simp only [opt])
        | (go_at_call 61; refine (HD.out _).mono ?_; rintro e W2 ⟨rfl, rfl⟩; simp only [opt]))
      go_ret2
      exact ⟨by rw [H.out]; rfl, HB.out⟩
    | some n =>
      have hnb := numB_bd hd
      rw [hd] at HD
      have H0 : Hid (refNum k l = if n < (scB k).least ∨ (scB k).said < n then (0, 21) else (n, 0)) := Lib.hid (by unfold refNum; rw [hn]; simp only [hd])
      clear hn hd
      have HL := Lib.hid (refLow_any k hk)
      have HH := Lib.hid (refHigh_any k hk)
      generalize (scB k).least = lo at *
      generalize (scB k).said = hi at *
      by_cases h1 : n < lo
      · have H : Hid (refNum k l = (0, 21)) := Lib.hid (by rw [H0.out, if_pos (Or.inl h1)])
        clear H0
        go_enter Tryd.func70, Tryd.ntmps70
        go_wp2_with (first
          | (go_at_call 76; refine (HN.out _).mono ?_; rintro e W ⟨rfl, hb⟩; have HB := Lib.hid hb; clear hb; simp only [opt])
          | (go_at_call 61; refine (HD.out _).mono ?_; rintro e W2 ⟨rfl, rfl⟩; simp only [opt])
          | (go_at_call 53; refine (HL.out _).mono ?_; rintro e W2 ⟨rfl, rfl⟩)
          | (go_at_call 65; refine (HH.out _).mono ?_; rintro e W2 ⟨rfl, rfl⟩))
        go_ret2
        exact ⟨by rw [H.out]; rfl, HB.out⟩
      · by_cases h2 : hi < n
        · have H : Hid (refNum k l = (0, 21)) := Lib.hid (by rw [H0.out, if_pos (Or.inr h2)])
          clear H0
          go_enter Tryd.func70, Tryd.ntmps70
          go_wp2_with (first
            | (go_at_call 76; refine (HN.out _).mono ?_; rintro e W ⟨rfl, hb⟩; have HB := Lib.hid hb; clear hb; simp only [opt])
            | (go_at_call 61; refine (HD.out _).mono ?_; rintro e W2 ⟨rfl, rfl⟩; simp only [opt])
            | (go_at_call 53; refine (HL.out _).mono ?_; rintro e W2 ⟨rfl, rfl⟩)
            | (go_at_call 65; refine (HH.out _).mono ?_; rintro e W2 ⟨rfl, rfl⟩))
          go_ret2
          exact ⟨by rw [H.out]; rfl, HB.out⟩
        · have H : Hid (refNum k l = (n, 0)) := Lib.hid (by rw [H0.out, if_neg (by omega)])
          clear H0
          go_enter Tryd.func70, Tryd.ntmps70
          go_wp2_with (first
            | (go_at_call 76; refine (HN.out _).mono ?_; rintro e W ⟨rfl, hb⟩; have HB := Lib.hid hb; clear hb; simp only [opt])
            | (go_at_call 61; refine (HD.out _).mono ?_; rintro e W2 ⟨rfl, rfl⟩; simp only [opt])
            | (go_at_call 53; refine (HL.out _).mono ?_; rintro e W2 ⟨rfl, rfl⟩)
            | (go_at_call 65; refine (HH.out _).mono ?_; rintro e W2 ⟨rfl, rfl⟩))
          go_ret2
          exact ⟨by rw [H.out]; rfl, HB.out⟩
end Go.Proofs.YtbbleedepmcdfaaDoor
