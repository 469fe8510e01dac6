/- Walks of package cron: whether a time matches a spec. -/
import Derived.Test.YtnijneajlmgkjaaDoorCroN
set_option linter.unusedSimpArgs false
set_option linter.unusedVariables false
namespace Go.Proofs.YtnijneajlmgkjaaDoor
open Go.ChangeShapes Go.WideShapes Go.ChangeAt Go.RowKit Go.Base Go.Cro Go.Civ

theorem matches_no (s : Sp) (t : Int) (w : World) (h : t < -62135596800 ∨ 253402300799 < t) :
    Calls Tryd.prog 11 #[spV s, .int .i64 t] w fun e w' => e = .returned (.bool false) ∧ Below w.heap.size w w' := by
  obtain ⟨smi, sho, sda, smo, swe, ad, aw⟩ := s
  simp only [spV]
  have HH := Lib.hid h
  clear h
  go_enter Tryd.func11, Tryd.ntmps11
  go_wp2_with fail
  refine (of_no _ _ HH.out).mono ?_
  rintro e w1 ⟨rfl, hb1⟩
  have z1 := hb1.size
  simp at z1
  go_wp2_with fail
  go_ret
  exact ⟨rfl, ((below_alloc w _).trans (hb1.mono (by simp))).alloc (by omega) _⟩

def matchB (s : Sp) (mi ho mo d wk : Int) : Bool := hasB s.mi mi && hasB s.ho ho && hasB s.mo mo && dayB s d wk
theorem at_date {t n y : Int} {k : Nat} {s : Int} (h : At t n y k s) : 1 ≤ n + 719162 - ah y - cum y k + 1 ∧ n + 719162 - ah y - cum y k + 1 ≤ 31 ∧ 0 ≤ wd n ∧ wd n ≤ 6 ∧ 0 ≤ s / 3600 ∧ s / 3600 ≤ 23 ∧ 0 ≤ s % 3600 / 60 ∧ s % 3600 / 60 ≤ 59 := by
  obtain ⟨lo, hi, day, s0, s1, y0, y1, k1, dlo, dhi⟩ := h
  have : cum y (k + 1) = cum y k + len y ((k : Int) + 1) := rfl
  have := len_bd y ((k : Int) + 1)
  unfold wd
  omega

set_option maxHeartbeats 1000000 in
theorem matches_at (s : Sp) (hs : SpOk s) (t n y : Int) (k : Nat) (sec : Int) (w : World) (ht : Tab w) (h : At t n y k sec) :
    Calls Tryd.prog 11 #[spV s, .int .i64 t] w fun e w' => e = .returned (.bool (matchB s (sec % 3600 / 60) (sec / 3600) ((k : Int) + 1) (n + 719162 - ah y - cum y k + 1) (wd n))) ∧ Below w.heap.size w w' := by
  obtain ⟨d1, d2, w1, w2, h1, h2, m1, m2⟩ := at_date h
  have hk := h.k1
  obtain ⟨g1, g2, g3, g4, g5⟩ := hs
  have hs : SpOk s := ⟨g1, g2, g3, g4, g5⟩
  have HDa := fun w => Lib.hid (day_any s hs y ((k : Int) + 1) (n + 719162 - ah y - cum y k + 1) (sec / 3600) (sec % 3600 / 60) (sec % 60) (wd n) w d1 d2 w1 w2)
  have HMi := Lib.hid (fun w => has_any s.mi (sec % 3600 / 60) w m1 (by omega) g1.1 g1.2)
  have HHo := Lib.hid (fun w => has_any s.ho (sec / 3600) w h1 (by omega) g2.1 g2.2)
  have HMo := Lib.hid (fun w => has_any s.mo ((k : Int) + 1) w (by omega) (by omega) g4.1 g4.2)
  have HO := Lib.hid (fun (w' : World) (hb : Below w.heap.size w w') => of_at t n y k sec w' (ht.later hb) h)
  have H : Hid (matchB s (sec % 3600 / 60) (sec / 3600) ((k : Int) + 1) (n + 719162 - ah y - cum y k + 1) (wd n) = (hasB s.mi (sec % 3600 / 60) && hasB s.ho (sec / 3600) && hasB s.mo ((k : Int) + 1) && dayB s (n + 719162 - ah y - cum y k + 1) (wd n))) := Lib.hid rfl
  rw [H.out]
  clear g1 g2 g3 g4 g5 hs d1 d2 w1 w2 h1 h2 m1 m2 hk h ht H
  obtain ⟨smi, sho, sda, smo, swe, ad, aw⟩ := s
  simp only [spV] at HDa ⊢
  generalize hasB smi (sec % 3600 / 60) = b1 at *
  generalize hasB sho (sec / 3600) = b2 at *
  generalize hasB smo ((k : Int) + 1) = b3 at *
  generalize dayB ⟨smi, sho, sda, smo, swe, ad, aw⟩ (n + 719162 - ah y - cum y k + 1) (wd n) = b4 at *
  cases b1 <;> cases b2 <;> cases b3
  all_goals
    go_enter Tryd.func11, Tryd.ntmps11
    go_wp2_with fail
    refine (HO.out _ (below_alloc w _)).mono ?_
    rintro e w1 ⟨rfl, hb1⟩
    have z1 := hb1.size
    simp at z1
    obtain ⟨c1, _⟩ := cells_of_heap (kept_new hb1)
    obtain ⟨c2, _⟩ := cells_of_heap (heap_old (.cells #[.int .i64 y, .int .i64 ((k : Int) + 1), .int .i64 (n + 719162 - ah y - cum y k + 1), .int .i64 (sec / 3600), .int .i64 (sec % 3600 / 60), .int .i64 (sec % 60), .int .i64 (wd n)] 43) (by omega) (kept_new hb1))
    have HB := Lib.hid (((below_alloc w _).trans (hb1.mono (by simp))).alloc (o := (.cells #[.int .i64 y, .int .i64 ((k : Int) + 1), .int .i64 (n + 719162 - ah y - cum y k + 1), .int .i64 (sec / 3600), .int .i64 (sec % 3600 / 60), .int .i64 (sec % 60), .int .i64 (wd n)] 43)) (by omega))
    clear hb1
    go_wp2_with (first | (with_reducible refine (HMi.out _).mono ?_; rintro e w9 ⟨rfl, rfl⟩) | (with_reducible refine (HHo.out _).mono ?_; rintro e w9 ⟨rfl, rfl⟩) | (with_reducible refine (HMo.out _).mono ?_; rintro e w9 ⟨rfl, rfl⟩) | (with_reducible refine ((HDa _).out).mono ?_; rintro e w9 ⟨rfl, hb9⟩))
    go_ret
    first | exact ⟨rfl, HB.out⟩ | exact ⟨ret_bool (by simp), HB.out.trans (hb9.mono (by simp; omega))⟩
end Go.Proofs.YtnijneajlmgkjaaDoor
