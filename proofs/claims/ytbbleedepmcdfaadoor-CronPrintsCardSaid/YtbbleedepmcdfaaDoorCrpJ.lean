/- Walks of the reference's own spans of two numbers, and items. -/
import Derived.Test.YtbbleedepmcdfaaDoorCrpI
set_option linter.unusedSimpArgs false
set_option linter.unusedVariables false
namespace Go.Proofs.YtbbleedepmcdfaaDoor
open Go.ChangeShapes Go.WideShapes Go.ChangeAt Go.RowKit Go.Base Go.Cro Go.Civ

set_option maxHeartbeats 4000000 in
theorem refSpan_two (k : Nat) (hk : k < 5) (l a b : Bytes) (hs : l ≠ [42]) (hl : l.length ≤ maxLen) (hc : cutB 45 l = (a, b, true)) (st : Bool) (w : World) :
    Calls Tryd.prog 60 #[.int .i64 k, .string ⟨l.toArray⟩, .bool st] w fun e w' => e = .returned (spanV (refTwo (refNum k a) (refNum k b))) ∧ Below w.heap.size w w' := by
  have HC := Lib.hid (refCut_any 45 l hl)
  have hal : a.length ≤ maxLen := by have := (cutB_len 45 l).1; rw [hc] at this; exact Nat.le_trans this hl
  have hbl : b.length ≤ maxLen := by have := (cutB_len 45 l).2; rw [hc] at this; exact Nat.le_trans this hl
  rw [hc] at HC
  have HN := Lib.hid (refNumber_any k hk a hal)
  have HM := Lib.hid (refNumber_any k hk b hbl)
  have hs' : (l == [42]) = false := by simpa using hs
  clear hs hc hal hbl
  have tok1 : True := trivial
  generalize refNum k a = n at *
  generalize refNum k b = m at *
  obtain ⟨x, e⟩ := n
  obtain ⟨y, f⟩ := m
  by_cases h1 : e = 20
  · subst h1
    go_enter Tryd.func60, Tryd.ntmps60
    go_wp2_with (first | (go_at_call 44; refine (HC.out _).mono ?_; rintro e W2 ⟨rfl, nd, rfl⟩) | (go_at_call 70; have _t := tok1; refine (HN.out _).mono ?_; rintro e W2 ⟨rfl, hb⟩; have HB := Lib.hid hb; clear hb tok1 _t) | (go_at_call 70; refine (HM.out _).mono ?_; rintro e W3 ⟨rfl, hb⟩; have HB3 := Lib.hid hb; clear hb))
    go_ret3
    exact ⟨by simp [refTwo, *], ((below_drewN (Below.refl _ _) _).trans HB.out).trans (HB3.out.mono HB.out.size)⟩
  · have b1 : (e == 20) = false := by rw [beq_eq_false_iff_ne]; exact h1
    by_cases h2 : f = 20
    · subst h2
      go_enter Tryd.func60, Tryd.ntmps60
      go_wp2_with (first | (go_at_call 44; refine (HC.out _).mono ?_; rintro e W2 ⟨rfl, nd, rfl⟩) | (go_at_call 70; have _t := tok1; refine (HN.out _).mono ?_; rintro e W2 ⟨rfl, hb⟩; have HB := Lib.hid hb; clear hb tok1 _t) | (go_at_call 70; refine (HM.out _).mono ?_; rintro e W3 ⟨rfl, hb⟩; have HB3 := Lib.hid hb; clear hb))
      go_ret3
      exact ⟨by simp [refTwo, *], ((below_drewN (Below.refl _ _) _).trans HB.out).trans (HB3.out.mono HB.out.size)⟩
    · have b2 : (f == 20) = false := by rw [beq_eq_false_iff_ne]; exact h2
      by_cases h3 : e = 0
      · subst h3
        by_cases h4 : f = 0
        · subst h4
          by_cases h5 : y < x
          · go_enter Tryd.func60, Tryd.ntmps60
            go_wp2_with (first | (go_at_call 44; refine (HC.out _).mono ?_; rintro e W2 ⟨rfl, nd, rfl⟩) | (go_at_call 70; have _t := tok1; refine (HN.out _).mono ?_; rintro e W2 ⟨rfl, hb⟩; have HB := Lib.hid hb; clear hb tok1 _t) | (go_at_call 70; refine (HM.out _).mono ?_; rintro e W3 ⟨rfl, hb⟩; have HB3 := Lib.hid hb; clear hb))
            go_ret3
            exact ⟨by simp [refTwo, *], ((below_drewN (Below.refl _ _) _).trans HB.out).trans (HB3.out.mono HB.out.size)⟩
          · have HT : Hid (refTwo (x, 0) (y, 0) = (x, y, 0)) := Lib.hid (by simp only [refTwo]; rw [if_neg (by simp), if_neg (by simp; omega)])
            have h5' : x ≤ y := by omega
            go_enter Tryd.func60, Tryd.ntmps60
            go_wp2_with (first | (go_at_call 44; refine (HC.out _).mono ?_; rintro e W2 ⟨rfl, nd, rfl⟩) | (go_at_call 70; have _t := tok1; refine (HN.out _).mono ?_; rintro e W2 ⟨rfl, hb⟩; have HB := Lib.hid hb; clear hb tok1 _t) | (go_at_call 70; refine (HM.out _).mono ?_; rintro e W3 ⟨rfl, hb⟩; have HB3 := Lib.hid hb; clear hb))
            go_ret3
            exact ⟨by rw [HT.out]; rfl, ((below_drewN (Below.refl _ _) _).trans HB.out).trans (HB3.out.mono HB.out.size)⟩
        · have b4 : (f != 0) = true := by simpa using h4
          go_enter Tryd.func60, Tryd.ntmps60
          go_wp2_with (first | (go_at_call 44; refine (HC.out _).mono ?_; rintro e W2 ⟨rfl, nd, rfl⟩) | (go_at_call 70; have _t := tok1; refine (HN.out _).mono ?_; rintro e W2 ⟨rfl, hb⟩; have HB := Lib.hid hb; clear hb tok1 _t) | (go_at_call 70; refine (HM.out _).mono ?_; rintro e W3 ⟨rfl, hb⟩; have HB3 := Lib.hid hb; clear hb))
          go_ret3
          exact ⟨by simp [refTwo, *], ((below_drewN (Below.refl _ _) _).trans HB.out).trans (HB3.out.mono HB.out.size)⟩
      · have b3 : (e != 0) = true := by simpa using h3
        go_enter Tryd.func60, Tryd.ntmps60
        go_wp2_with (first | (go_at_call 44; refine (HC.out _).mono ?_; rintro e W2 ⟨rfl, nd, rfl⟩) | (go_at_call 70; have _t := tok1; refine (HN.out _).mono ?_; rintro e W2 ⟨rfl, hb⟩; have HB := Lib.hid hb; clear hb tok1 _t) | (go_at_call 70; refine (HM.out _).mono ?_; rintro e W3 ⟨rfl, hb⟩; have HB3 := Lib.hid hb; clear hb))
        go_ret3
        exact ⟨by simp [refTwo, *], ((below_drewN (Below.refl _ _) _).trans HB.out).trans (HB3.out.mono HB.out.size)⟩
theorem refSpan_any (k : Nat) (hk : k < 5) (l : Bytes) (hl : l.length ≤ maxLen) (st : Bool) (w : World) :
    Calls Tryd.prog 60 #[.int .i64 k, .string ⟨l.toArray⟩, .bool st] w fun e w' => e = .returned (spanV (refSpan k l st)) ∧ Below w.heap.size w w' := by
  unfold refSpan
  by_cases hs : l = [42]
  · rw [if_pos hs]
    subst hs
    exact refSpan_star k hk st w
  · rw [if_neg hs]
    generalize hc : cutB 45 l = c
    obtain ⟨a, b, two⟩ := c
    cases two
    · simp only [Bool.false_eq_true, if_false]
      exact refSpan_one k hk l a b hs hl hc st w
    · simp only [if_true]
      exact refSpan_two k hk l a b hs hl hc st w
end Go.Proofs.YtbbleedepmcdfaaDoor
