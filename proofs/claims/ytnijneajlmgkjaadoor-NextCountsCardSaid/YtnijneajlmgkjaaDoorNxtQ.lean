/- How many moments match between two times: by months, days, hours and minutes. No program. -/
import Derived.Test.YtnijneajlmgkjaaDoorNxtP
import Derived.Test.YtnijneajlmgkjaaDoorNxtN
set_option linter.unusedSimpArgs false
set_option linter.unusedVariables false
namespace Go.Proofs.YtnijneajlmgkjaaDoor
open Go.ChangeShapes Go.WideShapes Go.ChangeAt Go.RowKit Go.Base Go.Civ Go.Nxt Go.Cro

/-- All moments from one time on, ahead of another one. -/
def IV (s : Sp) (H M : Nat) (lo hi : Int) (L : List Int) : Prop := L.Pairwise (· < ·) ∧ ∀ x, x ∈ L ↔ Mt s H M x ∧ lo ≤ x ∧ x < hi
theorem IV.append {s : Sp} {H M : Nat} {lo mid hi : Int} {L1 L2 : List Int} (h1 : IV s H M lo mid L1) (h2 : IV s H M mid hi L2) (a : lo ≤ mid) (b : mid ≤ hi) : IV s H M lo hi (L1 ++ L2) := by
  refine ⟨List.pairwise_append.2 ⟨h1.1, h2.1, fun x hx y hy => ?_⟩, fun x => ?_⟩
  · have := (h1.2 x).1 hx; have := (h2.2 y).1 hy; omega
  · rw [List.mem_append, h1.2, h2.2]
    constructor
    · rintro (⟨p, q, r⟩ | ⟨p, q, r⟩)
      · exact ⟨p, q, by omega⟩
      · exact ⟨p, by omega, r⟩
    · rintro ⟨p, q, r⟩
      by_cases h : x < mid
      · exact .inl ⟨p, q, h⟩
      · exact .inr ⟨p, by omega, r⟩
theorem IV.unique {s : Sp} {H M : Nat} {lo hi : Int} {L L' : List Int} (h : IV s H M lo hi L) (h' : IV s H M lo hi L') : L = L' := sorted_ext h.1 h'.1 (fun x => (h.2 x).trans (h'.2 x).symm)
theorem IV.empty {s : Sp} {H M : Nat} {lo hi : Int} (h : ∀ x, Mt s H M x → lo ≤ x → x < hi → False) : IV s H M lo hi [] :=
  ⟨List.Pairwise.nil, fun x => ⟨(fun h9 => nomatch h9), fun ⟨a, b, c⟩ => (h x a b c).elim⟩⟩
theorem IV.to {s : Sp} {H M : Nat} {lo hi hi' : Int} {L : List Int} (h : IV s H M lo hi L) (he : ∀ x, Mt s H M x → lo ≤ x → (x < hi ↔ x < hi')) : IV s H M lo hi' L :=
  ⟨h.1, fun x => (h.2 x).trans ⟨fun ⟨a, b, c⟩ => ⟨a, b, (he x a b).1 c⟩, fun ⟨a, b, c⟩ => ⟨a, b, (he x a b).2 c⟩⟩⟩
theorem IV.cut {s : Sp} {H M : Nat} {lo mid hi : Int} {L1 L : List Int} (h1 : IV s H M lo mid L1) (h : IV s H M lo hi L) (a : lo ≤ mid) (b : mid ≤ hi) : ∃ C, IV s H M mid hi C ∧ (C.length : Int) = L.length - L1.length := by
  refine ⟨L.filter (fun x => decide (mid ≤ x)), ⟨h.1.filter _, fun x => ?_⟩, ?_⟩
  · rw [List.mem_filter, h.2, decide_eq_true_eq]
    constructor
    · rintro ⟨⟨p, q, r⟩, t⟩; exact ⟨p, t, r⟩
    · rintro ⟨p, q, r⟩; exact ⟨⟨p, by omega, r⟩, q⟩
  · have e1 : L1 = L.filter (fun x => !decide (mid ≤ x)) := by
      refine sorted_ext h1.1 (h.1.filter _) (fun x => ?_)
      rw [List.mem_filter, h.2, h1.2]
      simp only [Bool.not_eq_true', decide_eq_false_iff_not]
      constructor
      · rintro ⟨p, q, r⟩; exact ⟨⟨p, q, by omega⟩, by omega⟩
      · rintro ⟨⟨p, q, r⟩, t⟩; exact ⟨p, q, by omega⟩
    have e2 : ∀ l : List Int, (l.filter (fun x => decide (mid ≤ x))).length + (l.filter (fun x => !decide (mid ≤ x))).length = l.length := fun l => by
      induction l with
      | nil => rfl
      | cons a l ih =>
        by_cases h9 : mid ≤ a
        · have e1 : decide (mid ≤ a) = true := decide_eq_true h9
          simp only [List.filter_cons, e1, if_true, Bool.not_true, Bool.false_eq_true, if_false, List.length_cons]; omega
        · have e1 : decide (mid ≤ a) = false := decide_eq_false h9
          simp only [List.filter_cons, e1, if_true, Bool.not_false, Bool.false_eq_true, if_false, List.length_cons]; omega
    have := e2 L
    rw [e1]; omega

theorem ups_mod_succ (n j : Nat) (hj : j < 64) : ups (n % 2 ^ (j + 1)) = ups (n % 2 ^ j) ++ if n.testBit j then [j] else [] := by
  refine sorted_extN (ups_sorted _) (List.pairwise_append.2 ⟨ups_sorted _, by split <;> simp, fun x hx y hy => ?_⟩) fun x => ?_
  · obtain ⟨_, hx⟩ := mem_ups.1 hx
    rw [mod_test] at hx
    split at hy
    · simp at hx hy; omega
    · cases hy
  · rw [List.mem_append, mem_ups, mem_ups, mod_test, mod_test]
    by_cases he : x = j
    · subst he
      cases n.testBit x <;> simp [hj]
    · have e : decide (x < j + 1) = decide (x < j) := decide_eq_decide.2 (by omega)
      rw [e]
      split
      · simp [he]
      · simp
theorem IV_ups {s : Sp} {H M : Nat} (f : Nat → List Int) (set : Nat) (X step : Int) (n : Nat) (hn : n ≤ 64) (hs : 0 ≤ step) (j0 : Nat) (h0 : set % 2 ^ j0 = 0)
    (hf : ∀ v, j0 ≤ v → v < n → IV s H M (X + v * step) (X + (v + 1) * step) (if set.testBit v then f v else [])) : ∀ j, j0 ≤ j → j ≤ n → IV s H M (X + j0 * step) (X + j * step) ((ups (set % 2 ^ j)).flatMap f) := fun j h1 h2 => by
  obtain ⟨i, rfl⟩ : ∃ i, j = j0 + i := ⟨j - j0, by omega⟩
  induction i with
  | zero => rw [Nat.add_zero, h0, ups_zero]; exact IV.empty (fun x _ a b => by omega)
  | succ i ih =>
    have h3 := ih (by omega) (by omega)
    rw [show j0 + (i + 1) = (j0 + i) + 1 by omega, ups_mod_succ _ _ (by omega), List.flatMap_append]
    have h4 := hf (j0 + i) (by omega) (by omega)
    have e : (if set.testBit (j0 + i) then [j0 + i] else []).flatMap f = if set.testBit (j0 + i) then f (j0 + i) else [] := by split <;> simp
    rw [e, show (((j0 + i + 1 : Nat)) : Int) = ((j0 + i : Nat) : Int) + 1 by omega]
    refine h3.append h4 ?_ ?_
    · have : (j0 : Int) * step ≤ ((j0 + i : Nat) : Int) * step := Int.mul_le_mul_of_nonneg_right (by omega) hs
      omega
    · have : ((j0 + i : Nat) : Int) * step ≤ (((j0 + i : Nat) : Int) + 1) * step := Int.mul_le_mul_of_nonneg_right (by omega) hs
      omega

/-- When a month begins. -/
def A (m : Int) : Int := F m * 86400
theorem A_succ (m : Int) (h : 0 ≤ m) : A (m + 1) = A m + ln m * 86400 := by unfold A; rw [F_succ m h]; omega
theorem A_mono {m m' : Int} (h0 : 0 ≤ m) (h : m ≤ m') : A m ≤ A m' := by
  rcases Int.lt_or_eq_of_le h with h | h
  · have := F_mono h0 h; have := ln_bd m; unfold A; omega
  · subst h; exact Int.le_refl _
theorem mt_at {s : Sp} {H M : Nat} (hH : Under H 24) (hM : Under M 60) {m : Int} {v h mi : Nat} {r : Int} (m1 : 12 ≤ m) (m2 : m ≤ 119999) (v1 : 1 ≤ v) (v2 : (v : Int) ≤ ln m) (hh : h < 24) (hmi : mi < 60) (r0 : 0 ≤ r) (r1 : r < 60) :
    Mt s H M (midA m v + (h : Int) * 3600 + (mi : Int) * 60 + r) ↔ r = 0 ∧ (mdays s m).testBit v = true ∧ H.testBit h = true ∧ M.testBit mi = true := by
  constructor
  · rintro ⟨m', v', h', mi', a, b, c, d, e, hx⟩
    have hv' := (mdays_in s m').2 v' c
    have hv2' : (v' : Int) ≤ ln m' := hv'.2
    have hh' := hH.2 h' d
    have hm' := hM.2 mi' e
    rw [midA_eq, midA_eq] at hx
    have hmm : m' = m := by
      rcases Int.lt_trichotomy m' m with hlt | heq | hgt
      · have := F_mono (by omega) hlt; omega
      · exact heq
      · have := F_mono (by omega) hgt; omega
    subst hmm
    have hvv : v' = v := by omega
    subst hvv
    have hhh : h' = h := by omega
    subst hhh
    have hmm' : mi' = mi := by omega
    subst hmm'
    exact ⟨by omega, c, d, e⟩
  · rintro ⟨rfl, a, b, c⟩
    exact ⟨m, v, h, mi, m1, m2, a, b, c, by omega⟩
def minL (M : Nat) (X : Int) : List Int := (ups M).flatMap fun mi : Nat => [X + (mi : Int) * 60]
def hourL (H M : Nat) (X : Int) : List Int := (ups H).flatMap fun h : Nat => minL M (X + (h : Int) * 3600)
def monL (H M : Nat) (m : Int) (set : Nat) : List Int := (ups set).flatMap fun v : Nat => hourL H M (midA m v)
theorem flat_len {α : Type} {l : List α} {f : α → List Int} {c : Nat} (h : ∀ a ∈ l, (f a).length = c) : (l.flatMap f).length = l.length * c := by
  induction l with
  | nil => simp
  | cons a l ih => rw [List.flatMap_cons, List.length_append, h a (by simp), ih (fun b hb => h b (by simp [hb])), List.length_cons, Nat.add_mul]; omega
theorem minL_len (M : Nat) (X : Int) : (minL M X).length = pc M := by unfold minL; rw [flat_len (c := 1) (fun _ _ => rfl)]; simp [pc]
theorem hourL_len (H M : Nat) (X : Int) : (hourL H M X).length = pc H * pc M := by unfold hourL; rw [flat_len (c := pc M) (fun _ _ => minL_len _ _)]; rfl
theorem monL_len (H M : Nat) (m : Int) (set : Nat) : (monL H M m set).length = pc set * (pc H * pc M) := by unfold monL; rw [flat_len (c := pc H * pc M) (fun _ _ => hourL_len _ _ _)]; rfl
theorem split60 {x X : Int} {n : Nat} (h1 : X ≤ x) (h2 : x < X + (n : Int) * 60) : ∃ (mi : Nat) (r : Int), mi < n ∧ 0 ≤ r ∧ r < 60 ∧ x = X + (mi : Int) * 60 + r :=
  ⟨((x - X) / 60).toNat, (x - X) % 60, by omega, by omega, by omega, by omega⟩
section
variable {s : Sp} {H M : Nat} (hH : Under H 24) (hM : Under M 60) {m : Int} (m1 : 12 ≤ m) (m2 : m ≤ 119999) {v : Nat} (v1 : 1 ≤ v) (v2 : (v : Int) ≤ ln m)
include hH hM m1 m2 v1 v2
theorem mins_IV {h : Nat} (hh : h < 24) (hd : (mdays s m).testBit v = true) (hb : H.testBit h = true) (j : Nat) (hj : j ≤ 60) :
    IV s H M (midA m v + (h : Int) * 3600) (midA m v + (h : Int) * 3600 + (j : Int) * 60) ((ups (M % 2 ^ j)).flatMap fun mi : Nat => [midA m v + (h : Int) * 3600 + (mi : Int) * 60]) := by
  have h9 := IV_ups (s := s) (H := H) (M := M) (fun mi : Nat => [midA m v + (h : Int) * 3600 + (mi : Int) * 60]) M (midA m v + (h : Int) * 3600) 60 60 (by omega) (by omega) 0 (by simp [Nat.mod_one]) (fun mi _ hmi => by
    refine ⟨by split <;> simp, fun x => ?_⟩
    constructor
    · intro hx
      split at hx
      · rename_i hm
        simp at hx
        subst hx
        refine ⟨?_, by omega, by omega⟩
        have := (mt_at (s := s) hH hM m1 m2 v1 v2 hh hmi (r := 0) (by omega) (by omega)).2 ⟨rfl, hd, hb, hm⟩
        simpa using this
      · cases hx
    · rintro ⟨hx, hx1, hx2⟩
      have e : x = midA m v + (h : Int) * 3600 + (mi : Int) * 60 + (x - (midA m v + (h : Int) * 3600 + (mi : Int) * 60)) := by omega
      rw [e] at hx
      have h8 := (mt_at (s := s) hH hM m1 m2 v1 v2 hh hmi (by omega) (by omega)).1 hx
      rw [if_pos h8.2.2.2]
      simp; omega) j (by omega) hj
  simpa using h9
theorem hours_IV (hd : (mdays s m).testBit v = true) (j : Nat) (hj : j ≤ 24) : IV s H M (midA m v) (midA m v + (j : Int) * 3600) (hourL (H % 2 ^ j) M (midA m v)) := by
  have h9 := IV_ups (s := s) (H := H) (M := M) (fun h : Nat => minL M (midA m v + (h : Int) * 3600)) H (midA m v) 3600 24 (by omega) (by omega) 0 (by simp [Nat.mod_one]) (fun h _ hh => by
    by_cases hb : H.testBit h = true
    · rw [if_pos hb]
      have h8 := mins_IV (s := s) hH hM m1 m2 v1 v2 hh hd hb 60 (by omega)
      have e : M % 2 ^ 60 = M := by
        apply Nat.eq_of_testBit_eq
        intro i
        rw [mod_test]
        cases hi : M.testBit i
        · rfl
        · have := hM.2 i hi; simp [this]
      rw [e] at h8
      rw [show midA m v + ((h : Int) + 1) * 3600 = midA m v + (h : Int) * 3600 + ((60 : Nat) : Int) * 60 by omega]
      exact h8
    · rw [if_neg hb]
      refine IV.empty (fun x hx a b => hb ?_)
      obtain ⟨mi, r, c, d, e, rfl⟩ := split60 (n := 60) a (by omega)
      exact ((mt_at (s := s) hH hM m1 m2 v1 v2 hh c d e).1 hx).2.2.1) j (by omega) hj
  simpa [hourL] using h9
theorem day_none (hd : ¬ (mdays s m).testBit v = true) {x : Int} (hx : Mt s H M x) (a : midA m v ≤ x) (b : x < midA m v + 86400) : False := by
  have e : x = midA m v + (((x - midA m v) / 3600).toNat : Int) * 3600 + (((x - midA m v) % 3600 / 60).toNat : Int) * 60 + (x - midA m v) % 60 := by omega
  rw [e] at hx
  exact hd ((mt_at (s := s) hH hM m1 m2 v1 v2 (by omega) (by omega) (by omega) (by omega)).1 hx).2.1
end
theorem days_IV {s : Sp} {H M : Nat} (hH : Under H 24) (hM : Under M 60) {m : Int} (m1 : 12 ≤ m) (m2 : m ≤ 119999) (j : Nat) (hj1 : 1 ≤ j) (hj : (j : Int) ≤ ln m + 1) : IV s H M (A m) (midA m j) (monL H M m (mdays s m % 2 ^ j)) := by
  have hl := ln_bd m
  have hz : mdays s m % 2 ^ 1 = 0 := by
    apply Nat.eq_of_testBit_eq
    intro i
    rw [mod_test]
    cases hi : (mdays s m).testBit i
    · simp
    · have := (mdays_in s m).2 i hi
      have h9 : ¬ i < 1 := by omega
      simp [h9]
  have eH : H % 2 ^ 24 = H := by
    apply Nat.eq_of_testBit_eq
    intro i
    rw [mod_test]
    cases hi : H.testBit i
    · rfl
    · have := hH.2 i hi; simp [this]
  have h9 := IV_ups (s := s) (H := H) (M := M) (fun v => hourL H M (midA m v)) (mdays s m) (A m - 86400) 86400 (ln m + 1).toNat (by omega) (by omega) 1 hz (fun v hv hv' => by
    have e1 : A m - 86400 + (v : Int) * 86400 = midA m v := by rw [midA_eq]; unfold A; omega
    have e2 : A m - 86400 + ((v : Int) + 1) * 86400 = midA m v + 86400 := by rw [midA_eq]; unfold A; omega
    rw [e1, e2]
    by_cases hb : (mdays s m).testBit v = true
    · rw [if_pos hb]
      have h8 := hours_IV (s := s) hH hM m1 m2 hv (by omega) hb 24 (by omega)
      rw [eH] at h8
      exact h8
    · rw [if_neg hb]
      exact IV.empty (fun x hx a b => day_none hH hM m1 m2 hv (by omega) hb hx a b)) j hj1 (by omega)
  have e3 : A m - 86400 + ((1 : Nat) : Int) * 86400 = A m := by omega
  have e4 : A m - 86400 + (j : Int) * 86400 = midA m j := by rw [midA_eq]; unfold A; omega
  rw [e3, e4] at h9
  exact h9
theorem month_IV {s : Sp} {H M : Nat} (hH : Under H 24) (hM : Under M 60) {m : Int} (m1 : 12 ≤ m) (m2 : m ≤ 119999) : IV s H M (A m) (A (m + 1)) (monL H M m (mdays s m)) := by
  have hl := ln_bd m
  have h := days_IV (s := s) hH hM m1 m2 (ln m + 1).toNat (by omega) (by omega)
  have e : mdays s m % 2 ^ (ln m + 1).toNat = mdays s m := by
    apply Nat.eq_of_testBit_eq
    intro i
    rw [mod_test]
    cases hi : (mdays s m).testBit i
    · rfl
    · have h8 := (mdays_in s m).2 i hi
      have h7 : (i : Int) ≤ ln m := h8.2
      have : i < (ln m + 1).toNat := by omega
      simp [this]
  rw [e] at h
  have e2 : midA m (ln m + 1).toNat = A (m + 1) := by rw [midA_eq, A_succ m (by omega)]; unfold A; omega
  rw [e2] at h
  exact h
def monsL (s : Sp) (H M : Nat) (a : Int) : Nat → List Int
  | 0 => []
  | k + 1 => monsL s H M a k ++ monL H M (a + k) (mdays s (a + k))
theorem months_IV {s : Sp} {H M : Nat} (hH : Under H 24) (hM : Under M 60) {a : Int} (a1 : 12 ≤ a) : ∀ k : Nat, a + k ≤ 120000 → IV s H M (A a) (A (a + k)) (monsL s H M a k) ∧ (monsL s H M a k).length = DB s a k * (pc H * pc M)
  | 0, _ => ⟨by simp only [monsL]; exact IV.empty (fun x _ h1 h2 => by simp at h2; omega), by simp [monsL, DB]⟩
  | k + 1, h => by
    have ih := months_IV (s := s) hH hM a1 k (by omega)
    have h1 := month_IV (s := s) hH hM (m := a + k) (by omega) (by omega)
    rw [show a + ((k + 1 : Nat) : Int) = a + k + 1 by omega]
    refine ⟨ih.1.append h1 (A_mono (by omega) (by omega)) (A_mono (by omega) (by omega)), ?_⟩
    simp only [monsL, DB, List.length_append, ih.2, monL_len, Nat.add_mul]
end Go.Proofs.YtnijneajlmgkjaaDoor
