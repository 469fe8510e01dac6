/- Walks of the reference: does a day match, of a number (reveilleref03.day)? Plain: the days of a year, one by one. -/
import Derived.Test.YtnijneajlmgkjaaDoorNxtRd
import Derived.Test.YtnijneajlmgkjaaDoorNxtRm
import Derived.Test.YtnijneajlmgkjaaDoorCvr
set_option linter.unusedSimpArgs false
set_option linter.unusedVariables false
namespace Go.Proofs.YtnijneajlmgkjaaDoor
open Go.ChangeShapes Go.WideShapes Go.ChangeAt Go.RowKit Go.Base Go.Cro Go.Civ Go.Nxt

theorem mdays_at {s : Sp} {t n y : Int} {k : Nat} {sec : Int} (h : At t n y k sec) {dd : Nat} (ed : n + 719162 - ah y - cum y k + 1 = dd) :
    (mdays s (y * 12 + (k : Int))).testBit dd = (hasB s.mo ((k : Int) + 1) && dayB s (n + 719162 - ah y - cum y k + 1) (wd n)) := by
  obtain ⟨f1, f2, f3⟩ := At.first h ed
  have hy0 := h.y0
  have hy1 := h.y1
  have hk := h.k1
  rw [ed]
  have e0 : y * 12 + ((k : Int) + 1) - 1 = y * 12 + (k : Int) := by omega
  rw [e0] at f1 f3
  have e1 : (y * 12 + (k : Int)) / 12 = y := by omega
  have e2 : (y * 12 + (k : Int)) % 12 + 1 = (k : Int) + 1 := by omega
  have en : num y ((k : Int) + 1) dd = n := by
    have h9 := f1
    unfold midA at h9
    rw [e1, e2] at h9
    omega
  have hl : (dd : Int) ≤ len y ((k : Int) + 1) := by have h9 := f3; unfold ln at h9; rw [e1, e2] at h9; exact h9
  unfold mdays
  rw [e1, e2]
  by_cases hb : hasB s.mo ((k : Int) + 1) = true
  · rw [if_pos ⟨by omega, by omega, hb⟩, dset_test, hb]
    have c1 : decide (1 ≤ dd) = true := decide_eq_true f2
    have c2 : decide (dd ≤ (len y ((k : Int) + 1)).toNat) = true := decide_eq_true (by omega)
    rw [c1, c2]
    show (true && true && dayB s (dd : Int) (wd (num y ((k : Int) + 1) dd))) = _
    rw [en]; rfl
  · rw [if_neg (fun h => hb h.2.2)]
    have : hasB s.mo ((k : Int) + 1) = false := by cases h9 : hasB s.mo ((k : Int) + 1); rfl; exact absurd h9 hb
    rw [this]; simp

set_option maxHeartbeats 4000000 in
theorem refDy_any (s : Sp) (hs : SpOk s) (n y : Int) (k : Nat) (w : World) (h : At (86400 * n) n y k 0) :
    Calls Tryd.prog 35 #[spV s, .int .i64 n] w fun e w' => e = .returned (.bool (hasB s.mo ((k : Int) + 1) && dayB s (n + 719162 - ah y - cum y k + 1) (wd n))) ∧ Below w.heap.size w w' := by
  obtain ⟨d1, d2, w1, w2, h1, h2, m1, m2⟩ := at_date h
  have hk := h.k1
  have hlo := h.lo
  have hhi := h.hi
  have HD := Lib.hid (fun V => refDay_any s hs y ((k : Int) + 1) (n + 719162 - ah y - cum y k + 1) (0 / 3600) (0 % 3600 / 60) (0 % 60) (wd n) V d1 d2 w1 w2)
  have HO := Lib.hid (fun V => refOf_at (86400 * n) n y k 0 V h)
  have g4 := hs.mo
  have hr := has_rem g4 (v := (k : Int) + 1) (by omega)
  rw [show ((k : Int) + 1).toNat = k + 1 by omega] at hr
  obtain ⟨a1, a2⟩ := g4
  have q1 : (0 : Int) ≤ s.mo / 2 ^ (k + 1) := Int.ediv_nonneg a1 (Int.le_of_lt (Int.pow_pos (by decide)))
  rw [← hr]
  clear hr hs d1 d2 w1 w2 h1 h2 m1 m2 h
  obtain ⟨smi, sho, sda, smo, swe, ad, aw⟩ := s
  simp only [spV] at HD ⊢
  simp only at a1 a2 q1
  generalize dayB ⟨smi, sho, sda, smo, swe, ad, aw⟩ (n + 719162 - ah y - cum y k + 1) (wd n) = b4 at *
  generalize n + 719162 - ah y - cum y k + 1 = dN at *
  generalize wd n = wN at *
  simp only [show (0 : Int) / 3600 = 0 by decide, show (0 : Int) % 3600 / 60 = 0 by decide, show (0 : Int) % 60 = 0 by decide] at HD HO
  by_cases hA : smo / 2 ^ (k + 1) % 2 = 1
  all_goals
    go_enter Tryd.func35, Tryd.ntmps35
    go_wp2_with fail
    refine (HO.out _).mono ?_
    rintro e w1 ⟨rfl, hb1⟩
    have z1 := hb1.size
    simp at z1
    obtain ⟨c1, _⟩ := cells_of_heap (kept_new hb1)
    obtain ⟨c2, _⟩ := cells_of_heap (heap_old (.cells #[.int .i64 y, .int .i64 ((k : Int) + 1), .int .i64 dN, .int .i64 0, .int .i64 0, .int .i64 0, .int .i64 wN] 43) (by omega) (kept_new hb1))
    have HB := Lib.hid (((below_alloc w _).trans (hb1.mono (by simp))).alloc (o := (.cells #[.int .i64 y, .int .i64 ((k : Int) + 1), .int .i64 dN, .int .i64 0, .int .i64 0, .int .i64 0, .int .i64 wN] 43)) (by omega))
    clear hb1
    go_wp2_with (with_reducible refine (HD.out _).mono ?_; rintro e w9 ⟨rfl, hb9⟩)
    go_ret
    first
      | exact ⟨rfl, HB.out⟩
      | exact ⟨rfl, HB.out.trans (hb9.mono (by simp; omega))⟩
      | (refine ⟨?_, HB.out.trans (hb9.mono (by simp; omega))⟩; simp [hA]; done)
      | (refine ⟨?_, HB.out⟩; simp [hA]; done)
      | trace_state
end Go.Proofs.YtnijneajlmgkjaaDoor
