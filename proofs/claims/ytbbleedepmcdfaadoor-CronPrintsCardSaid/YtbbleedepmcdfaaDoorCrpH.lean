/- Walk of the reference's own spans. -/
import Derived.Test.YtbbleedepmcdfaaDoorCrpG
set_option linter.unusedSimpArgs false
set_option linter.unusedVariables false
namespace Go.Proofs.YtbbleedepmcdfaaDoor
open Go.ChangeShapes Go.WideShapes Go.ChangeAt Go.RowKit Go.Base Go.Cro Go.Civ

/-- What a span says that has no second number, and one that has. -/
def refOne (st : Bool) (most : Int) (n : Int × Int) : Int × Int × Int :=
  if st = true ∧ n.2 = 0 ∧ n.1 ≤ most then (n.1, most, 0) else (n.1, n.1, n.2)
def refTwo (n m : Int × Int) : Int × Int × Int :=
  if n.2 = 20 ∨ m.2 = 20 then (0, 0, 20) else if n.2 ≠ 0 ∨ m.2 ≠ 0 ∨ m.1 < n.1 then (0, 0, 21) else (n.1, m.1, 0)
def refSpan (k : Nat) (l : Bytes) (st : Bool) : Int × Int × Int :=
  if l = [42] then ((scB k).least, (scB k).most, 0) else
  if (cutB 45 l).2.2 = true then refTwo (refNum k (cutB 45 l).1) (refNum k (cutB 45 l).2.1) else refOne st (scB k).most (refNum k (cutB 45 l).1)
abbrev spanV (r : Int × Int × Int) : Value := .tuple #[.int .i64 r.1, .int .i64 r.2.1, .int .i64 r.2.2]

theorem refSpan_star (k : Nat) (hk : k < 5) (st : Bool) (w : World) :
    Calls Tryd.prog 60 #[.int .i64 k, .string ⟨#[42]⟩, .bool st] w fun e w' => e = .returned (spanV ((scB k).least, (scB k).most, 0)) ∧ Below w.heap.size w w' := by
  have HL := Lib.hid (refLow_any k hk)
  have HH := Lib.hid (refLast_any k hk)
  generalize (scB k).least = lo at *
  generalize (scB k).most = hi at *
  go_enter Tryd.func60, Tryd.ntmps60
  go_wp2_with (first
    | (go_at_call 53; refine (HL.out _).mono ?_; rintro e W2 ⟨rfl, rfl⟩)
    | (go_at_call 54; refine (HH.out _).mono ?_; rintro e W2 ⟨rfl, rfl⟩))
  go_ret3
  exact ⟨rfl, Below.refl _ _⟩

set_option maxHeartbeats 1600000 in
theorem refSpan_one (k : Nat) (hk : k < 5) (l a b : Bytes) (hs : l ≠ [42]) (hl : l.length ≤ maxLen) (hc : cutB 45 l = (a, b, false)) (st : Bool) (w : World) :
    Calls Tryd.prog 60 #[.int .i64 k, .string ⟨l.toArray⟩, .bool st] w fun e w' => e = .returned (spanV (refOne st (scB k).most (refNum k a))) ∧ Below w.heap.size w w' := by
  have HC := Lib.hid (refCut_any 45 l hl)
  have hal : a.length ≤ maxLen := by have := (cutB_len 45 l).1; rw [hc] at this; exact Nat.le_trans this hl
  rw [hc] at HC
  have HN := Lib.hid (refNumber_any k hk a hal)
  have HH := Lib.hid (refLast_any k hk)
  have hs' : (l == [42]) = false := by simpa using hs
  clear hs hc hal
  generalize refNum k a = n at *
  obtain ⟨x, e⟩ := n
  generalize (scB k).most = hi at *
  cases st
  all_goals
    by_cases he : e = 0
    all_goals
      by_cases hx : x ≤ hi
      all_goals
        go_enter Tryd.func60, Tryd.ntmps60
        go_wp2_with (first
          | (go_at_call 44; refine (HC.out _).mono ?_; rintro e W2 ⟨rfl, nd, rfl⟩)
          | (go_at_call 70; refine (HN.out _).mono ?_; rintro e W2 ⟨rfl, hb⟩; have HB := Lib.hid hb; clear hb)
          | (go_at_call 54; refine (HH.out _).mono ?_; rintro e W2 ⟨rfl, rfl⟩))
        go_ret3
        refine ⟨?_, (below_drewN (Below.refl _ _) _).trans HB.out⟩
        simp [refOne, he, hx]
        all_goals try (rw [if_neg (by omega)]; exact ⟨rfl, rfl, rfl⟩)
        all_goals try (rw [if_pos (by omega)]; exact ⟨rfl, rfl, rfl⟩)
end Go.Proofs.YtbbleedepmcdfaaDoor
