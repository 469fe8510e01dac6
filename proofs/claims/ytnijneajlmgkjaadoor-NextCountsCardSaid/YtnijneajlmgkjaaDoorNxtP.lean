/- Which moments the iterators tell: all that match, in order. No program. -/
import Derived.Test.YtnijneajlmgkjaaDoorNxtH0
set_option linter.unusedSimpArgs false
set_option linter.unusedVariables false
namespace Go.Proofs.YtnijneajlmgkjaaDoor
open Go.ChangeShapes Go.WideShapes Go.ChangeAt Go.RowKit Go.Base Go.Civ Go.Nxt Go.Cro

/-- Ahead on a way. -/
def ltd (d : Bool) (a b : Int) : Prop := if d then a < b else b < a
theorem vals_sorted (d : Bool) (n : Nat) : (vals d n).Pairwise (fun a b : Nat => ltd d (a : Int) (b : Int)) := by
  cases d
  · simp only [vals, Bool.false_eq_true, if_false, ltd]
    rw [List.pairwise_reverse]
    exact (ups_sorted n).imp (by omega)
  · simp only [vals, if_true, ltd]
    exact (ups_sorted n).imp (by omega)
/-- A set of numbers below b. -/
def Under (n b : Nat) : Prop := n < 18446744073709551616 ∧ ∀ v, n.testBit v = true → v < b
theorem flat_sorted {α : Type} {r : Int → Int → Prop} {f : α → List Int} {R : α → α → Prop} : ∀ {l : List α}, l.Pairwise R → (∀ a ∈ l, (f a).Pairwise r) → (∀ a ∈ l, ∀ b ∈ l, R a b → ∀ x ∈ f a, ∀ y ∈ f b, r x y) → (l.flatMap f).Pairwise r
  | [], _, _, _ => by simp
  | a :: l, h, h1, h2 => by
    have h' := List.pairwise_cons.1 h
    rw [List.flatMap_cons]
    refine List.pairwise_append.2 ⟨h1 a (by simp), flat_sorted h'.2 (fun b hb => h1 b (by simp [hb])) (fun b hb c hc => h2 b (by simp [hb]) c (by simp [hc])), fun x hx y hy => ?_⟩
    obtain ⟨b, hb, hy⟩ := List.mem_flatMap.1 hy
    exact h2 a (by simp) b (by simp [hb]) (h'.1 b hb) x hx y hy
theorem map_sorted {α : Type} {r : Int → Int → Prop} {f : α → Int} {R : α → α → Prop} {l : List α} (h : l.Pairwise R) (h2 : ∀ a ∈ l, ∀ b ∈ l, R a b → r (f a) (f b)) : (l.map f).Pairwise r := by
  rw [List.pairwise_map]
  exact (List.Pairwise.imp_of_mem (fun {a b} ha hb hr => h2 a ha b hb hr) h)

theorem minsL_mem {d : Bool} {M fh fm h : Nat} {x : Int} (hM : Under M 60) : x ∈ minsL d M fh fm h ↔ ∃ m : Nat, M.testBit m = true ∧ (h = fh → if d then fm ≤ m else m ≤ fm) ∧ x = (h : Int) * 3600 + (m : Int) * 60 := by
  simp only [minsL, List.mem_map, mem_vals]
  constructor
  · rintro ⟨m, ⟨h1, h2⟩, rfl⟩
    by_cases e : h = fh
    · rw [if_pos e, since_test hM.1] at h2
      simp only [Bool.and_eq_true, decide_eq_true_eq] at h2
      exact ⟨m, h2.1, fun _ => h2.2, rfl⟩
    · rw [if_neg e] at h2
      exact ⟨m, h2, fun e' => absurd e' e, rfl⟩
  · rintro ⟨m, h1, h2, rfl⟩
    refine ⟨m, ⟨by have := hM.2 m h1; omega, ?_⟩, rfl⟩
    by_cases e : h = fh
    · rw [if_pos e, since_test hM.1]
      simp only [Bool.and_eq_true, decide_eq_true_eq]
      exact ⟨h1, h2 e⟩
    · rw [if_neg e]; exact h1
theorem clockL_mem {d : Bool} {H M fh fm : Nat} {x : Int} (hH : Under H 24) (hM : Under M 60) (hfm : fm < 60) :
    x ∈ clockL d H M fh fm ↔ ∃ h m : Nat, H.testBit h = true ∧ M.testBit m = true ∧ x = (h : Int) * 3600 + (m : Int) * 60 ∧ (if d then (fh : Int) * 3600 + (fm : Int) * 60 ≤ x else x ≤ (fh : Int) * 3600 + (fm : Int) * 60) := by
  simp only [clockL, List.mem_flatMap, mem_vals, minsL_mem hM, since_test hH.1, Bool.and_eq_true, decide_eq_true_eq]
  constructor
  · rintro ⟨h, ⟨_, h1, h2⟩, m, h3, h4, rfl⟩
    refine ⟨h, m, h1, h3, rfl, ?_⟩
    have := hM.2 m h3
    cases d <;> simp at h2 h4 ⊢ <;> omega
  · rintro ⟨h, m, h1, h3, rfl, h4⟩
    have hm := hM.2 m h3
    have hh := hH.2 h h1
    refine ⟨h, ⟨by omega, h1, ?_⟩, m, h3, ?_, rfl⟩
    · cases d <;> simp at h4 ⊢ <;> omega
    · intro e
      cases d <;> simp at h4 ⊢ <;> omega
theorem clockL_sorted {d : Bool} {H M fh fm : Nat} (hH : Under H 24) (hM : Under M 60) : (clockL d H M fh fm).Pairwise (ltd d) := by
  refine flat_sorted (R := fun a b : Nat => ltd d (a : Int) (b : Int)) (vals_sorted d _) (fun h _ => map_sorted (R := fun a b : Nat => ltd d (a : Int) (b : Int)) (vals_sorted d _) (fun a ha b hb hr => ?_)) (fun a ha b hb hr x hx y hy => ?_)
  · cases d <;> simp only [ltd, Bool.false_eq_true, if_true, if_false] at hr ⊢ <;> omega
  · obtain ⟨m, h1, _, rfl⟩ := (minsL_mem hM).1 hx
    obtain ⟨m', h1', _, rfl⟩ := (minsL_mem hM).1 hy
    have := hM.2 m h1
    have := hM.2 m' h1'
    cases d <;> simp only [ltd, Bool.false_eq_true, if_true, if_false] at hr ⊢ <;> omega

/-- The number of a month's first day. -/
def F (m : Int) : Int := num (m / 12) (m % 12 + 1) 1
def ln (m : Int) : Int := len (m / 12) (m % 12 + 1)
theorem midA_eq (m : Int) (v : Nat) : midA m v = (F m + v - 1) * 86400 := by unfold midA F num; omega
theorem F_succ (m : Int) (h : 0 ≤ m) : F (m + 1) = F m + ln m := by
  unfold F ln
  by_cases h12 : m % 12 = 11
  · have e1 : (m + 1) / 12 = m / 12 + 1 := by omega
    have e2 : (m + 1) % 12 + 1 = 1 := by omega
    rw [e1, e2, show m % 12 + 1 = 12 by omega]
    exact num_turn (m / 12)
  · have e1 : (m + 1) / 12 = m / 12 := by omega
    have e2 : (m + 1) % 12 + 1 = (m % 12 + 1) + 1 := by omega
    rw [e1, e2]
    exact num_next (m / 12) (m % 12 + 1) (by omega) (by omega)
theorem ln_bd (m : Int) : 28 ≤ ln m ∧ ln m ≤ 31 := ⟨len_lo _ _ (by omega) (by omega), (len_bd _ _).2⟩
theorem F_mono {m m' : Int} (h0 : 0 ≤ m) (h : m < m') : F m + ln m ≤ F m' := by
  obtain ⟨k, rfl⟩ : ∃ k : Nat, m' = m + 1 + k := ⟨(m' - m - 1).toNat, by omega⟩
  clear h
  induction k with
  | zero => rw [← F_succ m h0]; simp
  | succ k ih =>
    have h1 := F_succ (m + 1 + k) (by omega)
    have h2 := ln_bd (m + 1 + k)
    rw [show m + 1 + ((k + 1 : Nat) : Int) = m + 1 + k + 1 by omega]; omega
theorem F_400 (m : Int) : F (m + 4800) = F m + 146097 := by
  unfold F
  rw [show (m + 4800) / 12 = m / 12 + 400 by omega, show (m + 4800) % 12 = m % 12 by omega, num_400]
theorem mdays_400 (s : Sp) (m : Int) (h1 : 12 ≤ m) (h2 : m + 4800 ≤ 119999) : mdays s (m + 4800) = mdays s m := by
  have e1 : (m + 4800) / 12 = m / 12 + 400 := by omega
  have e2 : (m + 4800) % 12 = m % 12 := by omega
  unfold mdays
  rw [e1, e2, len_400]
  by_cases h : hasB s.mo (m % 12 + 1) = true
  · rw [if_pos ⟨by omega, h2, h⟩, if_pos ⟨h1, by omega, h⟩]
    congr 1
    funext d
    rw [num_400, wd_400]
  · rw [if_neg (fun h' => h h'.2.2), if_neg (fun h' => h h'.2.2)]
theorem mdays_cycle (s : Sp) (a : Int) (ha : 12 ≤ a) (hz : ∀ i : Int, a ≤ i → i < a + 4800 → mdays s i = 0) : ∀ m : Int, a ≤ m → m ≤ 119999 → mdays s m = 0 := fun m h1 h2 => by
  obtain ⟨k, rfl⟩ : ∃ k : Nat, m = a + k := ⟨(m - a).toNat, by omega⟩
  induction k using Nat.strongRecOn with
  | _ k ih =>
    by_cases hk : (k : Int) < 4800
    · exact hz _ (by omega) (by omega)
    · have e : a + (k : Int) = (a + ((k - 4800 : Nat) : Int)) + 4800 := by omega
      rw [e, mdays_400 s _ (by omega) (by omega)]
      exact ih (k - 4800) (by omega) (by omega) (by omega)
theorem mdays_cycle' (s : Sp) (b : Int) (hb : b ≤ 119999) (hz : ∀ i : Int, b - 4800 < i → i ≤ b → mdays s i = 0) : ∀ m : Int, 12 ≤ m → m ≤ b → mdays s m = 0 := fun m h1 h2 => by
  obtain ⟨k, rfl⟩ : ∃ k : Nat, m = b - k := ⟨(b - m).toNat, by omega⟩
  induction k using Nat.strongRecOn with
  | _ k ih =>
    by_cases hk : (k : Int) < 4800
    · exact hz _ (by omega) (by omega)
    · have e : b - (k : Int) + 4800 = b - ((k - 4800 : Nat) : Int) := by omega
      rw [← mdays_400 s _ (by omega) (by omega), e]
      exact ih (k - 4800) (by omega) (by omega) (by omega)
theorem zero_test {n v : Nat} (h : n = 0) : n.testBit v = false := by subst h; simp
theorem vals_nil {d : Bool} {n : Nat} (hn : n < 18446744073709551616) (h : vals d n = []) : n = 0 := by
  apply Nat.eq_of_testBit_eq
  intro i
  cases hi : n.testBit i
  · simp
  · have h64 : i < 64 := by
      rcases Nat.lt_or_ge i 64 with h | h
      · exact h
      · rw [test_big hn h] at hi; cases hi
    have : i ∈ vals d n := mem_vals.2 ⟨h64, hi⟩
    rw [h] at this; cases this

/-- Of months: behind, on a way. -/
def later (d : Bool) (m m' : Int) : Prop := if d then m < m' else m' < m
theorem midL_mem (d : Bool) (s : Sp) : ∀ (f : Nat) (m : Int) (days : Nat) (e : Int), Fuel d f m → 11 ≤ m → m ≤ 120000 → (if d then 12 ≤ m else m ≤ 119999) → days < 18446744073709551616 → 0 ≤ e → e ≤ 4801 → (1 ≤ e → days = mdays s m) →
    (∀ i : Int, 1 ≤ i → i < e → mdays s (m - stepI d * i) = 0 ∧ 12 ≤ m - stepI d * i ∧ m - stepI d * i ≤ 119999) → ∀ x, x ∈ midL d s f m days e ↔
      ((12 ≤ m ∧ m ≤ 119999 ∧ ∃ v, v < 64 ∧ days.testBit v = true ∧ x = midA m v) ∨ ∃ m', later d m m' ∧ 12 ≤ m' ∧ m' ≤ 119999 ∧ ∃ v, v < 64 ∧ (mdays s m').testBit v = true ∧ x = midA m' v)
  | 0, m, days, e, hF, h1, h2, h3, hd, he0, he1, hee, hinv, x => by
    simp only [midL, List.not_mem_nil, false_iff]
    rintro (⟨a, b, _⟩ | ⟨m', a, b, c, _⟩)
    · cases d <;> simp [Fuel] at hF h3 <;> omega
    · cases d <;> simp [Fuel, later] at hF h3 a <;> omega
  | f + 1, m, days, e, hF, h1, h2, h3, hd, he0, he1, hee, hinv, x => by
    simp only [midL]
    by_cases hg : e ≤ 4800 ∧ 12 ≤ m ∧ m ≤ 119999
    · rw [if_pos hg, List.mem_append]
      have hst : stepI d = if d then 1 else -1 := rfl
      have ih := midL_mem d s f (m + stepI d) (mdays s (m + stepI d)) ((if vals d days = [] then e else 0) + 1) (by cases d <;> simp [Fuel] at hF ⊢ <;> simp [hst] <;> omega) (by cases d <;> simp [hst] <;> omega) (by cases d <;> simp [hst] <;> omega) (by cases d <;> simp [hst] at h3 ⊢ <;> omega) (mdays_lt _ _) (by split <;> omega) (by split <;> omega) (fun _ => rfl) (fun i hi1 hi2 => by
        by_cases hv : vals d days = []
        · rw [if_pos hv] at hi2
          have hz := vals_nil hd hv
          by_cases hi : i = 1
          · subst hi
            rw [show m + stepI d - stepI d * 1 = m by omega]
            exact ⟨by rw [← hee (by omega)]; exact hz, hg.2.1, hg.2.2⟩
          · have h9 := hinv (i - 1) (by omega) (by omega)
            have e9 : m - stepI d * (i - 1) = m + stepI d - stepI d * i := by rw [Int.mul_sub]; omega
            rw [e9] at h9; exact h9
        · rw [if_neg hv] at hi2; omega) x
      rw [ih]
      constructor
      · rintro (h | h | h)
        · obtain ⟨v, hv, rfl⟩ := List.mem_map.1 h
          exact .inl ⟨hg.2.1, hg.2.2, v, (mem_vals.1 hv).1, (mem_vals.1 hv).2, rfl⟩
        · obtain ⟨a, b, v, c, d', e'⟩ := h
          exact .inr ⟨m + stepI d, by cases d <;> simp [later, hst] <;> omega, a, b, v, c, d', e'⟩
        · obtain ⟨m', a, b⟩ := h
          exact .inr ⟨m', by cases d <;> simp [later, hst] at a ⊢ <;> omega, b⟩
      · rintro (⟨_, _, v, c, d', rfl⟩ | ⟨m', a, b⟩)
        · exact .inl (List.mem_map.2 ⟨v, mem_vals.2 ⟨c, d'⟩, rfl⟩)
        · by_cases hm : m' = m + stepI d
          · subst hm; exact .inr (.inl b)
          · exact .inr (.inr ⟨m', by cases d <;> simp [later, hst] at a hm ⊢ <;> omega, b⟩)
    · rw [if_neg hg]
      simp only [List.not_mem_nil, false_iff]
      have key : ∀ m' : Int, (m' = m ∨ later d m m') → 12 ≤ m' → m' ≤ 119999 → mdays s m' = 0 ∧ e = 4801 := fun m' ha hb hc => by
        have hE : e = 4801 := by
          by_cases h9 : e ≤ 4800
          · exfalso
            cases d <;> simp [later] at ha h3 <;> omega
          · omega
        subst hE
        refine ⟨?_, rfl⟩
        cases d
        · have h0 := hinv 4800 (by omega) (by omega)
          simp only [stepI, Bool.false_eq_true, if_false] at h0 hinv
          refine mdays_cycle' s (m + 4800) (by omega) (fun i hi1 hi2 => ?_) m' hb (by simp [later] at ha; omega)
          have h9 := hinv (i - m) (by omega) (by omega)
          rw [show m - -1 * (i - m) = i by omega] at h9
          exact h9.1
        · have h0 := hinv 4800 (by omega) (by omega)
          simp only [stepI, if_true] at h0 hinv
          refine mdays_cycle s (m - 4800) (by omega) (fun i hi1 hi2 => ?_) m' (by simp [later] at ha; omega) hc
          have h9 := hinv (m - i) (by omega) (by omega)
          rw [show m - 1 * (m - i) = i by omega] at h9
          exact h9.1
      rintro (⟨a, b, v, c, d', _⟩ | ⟨m', a, b, c, v, c', d', _⟩)
      · have h9 := key m (.inl rfl) a b
        rw [hee (by omega), zero_test h9.1] at d'; cases d'
      · have h9 := key m' (.inr a) b c
        rw [zero_test h9.1] at d'; cases d'

theorem midL_sub (d : Bool) (s : Sp) : ∀ (f : Nat) (m : Int) (days : Nat) (e : Int) (x : Int), DaysIn m days → x ∈ midL d s f m days e → ∃ (m' : Int) (v : Nat), (m' = m ∨ later d m m') ∧ 12 ≤ m' ∧ m' ≤ 119999 ∧ 1 ≤ v ∧ (v : Int) ≤ ln m' ∧ x = midA m' v
  | 0, m, days, e, x, hD, h => by simp [midL] at h
  | f + 1, m, days, e, x, hD, h => by
    simp only [midL] at h
    split at h
    · rename_i hg
      rcases List.mem_append.1 h with h | h
      · obtain ⟨v, hv, rfl⟩ := List.mem_map.1 h
        have h9 := hD.2 v (mem_vals.1 hv).2
        exact ⟨m, v, .inl rfl, hg.2.1, hg.2.2, h9.1, h9.2, rfl⟩
      · obtain ⟨m', v, a, b⟩ := midL_sub d s f _ _ _ x (mdays_in s _) h
        refine ⟨m', v, .inr ?_, b⟩
        have hst : stepI d = if d then 1 else -1 := rfl
        cases d <;> simp [later, hst] at a ⊢ <;> omega
    · cases h
theorem midA_later {d : Bool} {m m' : Int} {v v' : Nat} (h0 : 0 ≤ m) (h0' : 0 ≤ m') (h : later d m m') (h1 : 1 ≤ v) (h2 : (v : Int) ≤ ln m) (h1' : 1 ≤ v') (h2' : (v' : Int) ≤ ln m') : ltd d (midA m v) (midA m' v') := by
  rw [midA_eq, midA_eq]
  cases d
  · simp only [later, ltd, Bool.false_eq_true, if_false] at h ⊢
    have := F_mono h0' h; omega
  · simp only [later, ltd, if_true] at h ⊢
    have := F_mono h0 h; omega
theorem midL_sorted (d : Bool) (s : Sp) : ∀ (f : Nat) (m : Int) (days : Nat) (e : Int), DaysIn m days → (midL d s f m days e).Pairwise (ltd d)
  | 0, m, days, e, hD => by simp [midL]
  | f + 1, m, days, e, hD => by
    simp only [midL]
    split
    · rename_i hg
      refine List.pairwise_append.2 ⟨map_sorted (R := fun a b : Nat => ltd d (a : Int) (b : Int)) (vals_sorted d _) (fun a _ b _ hr => ?_), midL_sorted d s f _ _ _ (mdays_in s _), fun x hx y hy => ?_⟩
      · rw [midA_eq, midA_eq]
        cases d <;> simp only [ltd, Bool.false_eq_true, if_true, if_false] at hr ⊢ <;> omega
      · obtain ⟨v, hv, rfl⟩ := List.mem_map.1 hx
        have h9 := hD.2 v (mem_vals.1 hv).2
        obtain ⟨m', v', a, b, c, d1, d2, rfl⟩ := midL_sub d s f _ _ _ y (mdays_in s _) hy
        have hst : stepI d = if d then 1 else -1 := rfl
        refine midA_later (by omega) (by omega) ?_ h9.1 h9.2 d1 d2
        cases d <;> simp [later, hst] at a ⊢ <;> omega
    · exact List.Pairwise.nil

/-- A moment that a spec matches. -/
def Mt (s : Sp) (H M : Nat) (x : Int) : Prop := ∃ (m : Int) (v h mi : Nat), 12 ≤ m ∧ m ≤ 119999 ∧ (mdays s m).testBit v = true ∧ H.testBit h = true ∧ M.testBit mi = true ∧ x = midA m v + ((h : Int) * 3600 + (mi : Int) * 60)
theorem At.first {t n y : Int} {k : Nat} {sec : Int} (h : At t n y k sec) {dd : Nat} (hd : n + 719162 - ah y - cum y k + 1 = dd) : midA (y * 12 + ((k : Int) + 1) - 1) dd = 86400 * n ∧ (1 ≤ dd ∧ (dd : Int) ≤ ln (y * 12 + ((k : Int) + 1) - 1)) := by
  have hk := h.k1
  have e1 : (y * 12 + ((k : Int) + 1) - 1) / 12 = y := by omega
  have e2 : (y * 12 + ((k : Int) + 1) - 1) % 12 + 1 = (k : Int) + 1 := by omega
  have h1 := h.dlo
  have h2 := h.dhi
  have h3 : cum y (k + 1) = cum y k + len y ((k : Int) + 1) := rfl
  refine ⟨?_, by omega, ?_⟩
  · unfold midA Go.Civ.num
    rw [e1, e2, show ((k : Int) + 1 - 1).toNat = k by omega]; omega
  · unfold ln; rw [e1, e2]; omega

theorem dayL_mem {d : Bool} {H M : Nat} {TD : Int} {hh mm : Nat} {X x : Int} (hH : Under H 24) (hM : Under M 60) (hmm : mm < 60) :
    x ∈ dayL d H M TD hh mm X ↔ ∃ h m : Nat, H.testBit h = true ∧ M.testBit m = true ∧ x = X + ((h : Int) * 3600 + (m : Int) * 60) ∧ (X = TD → if d then (hh : Int) * 3600 + (mm : Int) * 60 ≤ x - X else x - X ≤ (hh : Int) * 3600 + (mm : Int) * 60) := by
  unfold dayL
  by_cases e : X = TD
  · rw [if_pos e, if_pos e]
    simp only [List.mem_map, clockL_mem hH hM hmm]
    constructor
    · rintro ⟨c, ⟨h, m, h1, h2, rfl, h3⟩, rfl⟩
      refine ⟨h, m, h1, h2, rfl, fun _ => ?_⟩
      rw [show X + ((h : Int) * 3600 + (m : Int) * 60) - X = (h : Int) * 3600 + (m : Int) * 60 by omega]; exact h3
    · rintro ⟨h, m, h1, h2, rfl, h3⟩
      refine ⟨(h : Int) * 3600 + (m : Int) * 60, ⟨h, m, h1, h2, rfl, ?_⟩, rfl⟩
      have h4 := h3 e
      rw [show X + ((h : Int) * 3600 + (m : Int) * 60) - X = (h : Int) * 3600 + (m : Int) * 60 by omega] at h4; exact h4
  · rw [if_neg e, if_neg e]
    simp only [List.mem_map, clockL_mem hH hM (show startM d < 60 by cases d <;> decide)]
    constructor
    · rintro ⟨c, ⟨h, m, h1, h2, rfl, h3⟩, rfl⟩
      exact ⟨h, m, h1, h2, rfl, fun e' => absurd e' e⟩
    · rintro ⟨h, m, h1, h2, rfl, h3⟩
      refine ⟨(h : Int) * 3600 + (m : Int) * 60, ⟨h, m, h1, h2, rfl, ?_⟩, rfl⟩
      have := hH.2 h h1
      have := hM.2 m h2
      cases d <;> simp [startH, startM] <;> omega
theorem dayL_sorted {d : Bool} {H M : Nat} {TD : Int} {hh mm : Nat} {X : Int} (hH : Under H 24) (hM : Under M 60) : (dayL d H M TD hh mm X).Pairwise (ltd d) :=
  map_sorted (R := ltd d) (clockL_sorted hH hM) (fun a _ b _ h => by cases d <;> simp only [ltd, Bool.false_eq_true, if_true, if_false] at h ⊢ <;> omega)

theorem momL_mem {d : Bool} {s : Sp} {H M : Nat} (hH : Under H 24) (hM : Under M 60) {t n y : Int} {k dd hh mm : Nat} {sec : Int} (hAt : At t n y k sec) (h60 : sec % 60 = 0) (hdd : n + 719162 - ah y - cum y k + 1 = dd) (hhh : sec / 3600 = hh) (hmm : sec % 3600 / 60 = mm) (x : Int) :
    x ∈ momL d s H M (y * 12 + ((k : Int) + 1) - 1) dd (fl t 86400) hh mm ↔ Mt s H M x ∧ if d then t ≤ x else x ≤ t := by
  obtain ⟨hmd, hd1, hd2⟩ := hAt.first hdd
  have hk := hAt.k1
  have hy0 := hAt.y0
  have hy1 := hAt.y1
  have hday := hAt.day
  have hs0 := hAt.s0
  have hs1 := hAt.s1
  have hfl : fl t 86400 = 86400 * n := by have h4 := hAt.lo; have h5 := hAt.hi; unfold fl; rw [if_neg (by omega), if_neg (by omega)]; omega
  have hsec : (hh : Int) * 3600 + (mm : Int) * 60 = sec := by omega
  have hmm60 : mm < 60 := by omega
  generalize hm : y * 12 + ((k : Int) + 1) - 1 = m at *
  have hm1 : 12 ≤ m := by omega
  have hm2 : m ≤ 119999 := by omega
  have hmi := midL_mem d s (fuel0 d m) m (since d (mdays s m) dd) 0 (fuel_ok d m (by omega) (by omega)) (by omega) (by omega) (by cases d <;> simp <;> omega) (since_lt (mdays_lt _ _)) (by omega) (by omega) (fun h => by omega) (fun i h1 h2 => by omega)
  unfold momL
  rw [List.mem_flatMap]
  simp only [dayL_mem hH hM hmm60, hmi]
  have hin := fun m' => (mdays_in s m').2
  constructor
  · rintro ⟨X, hX, h, mi, h1, h2, rfl, h3⟩
    have hh24 := hH.2 h h1
    have hm60 := hM.2 mi h2
    rcases hX with ⟨_, _, v, hv, hv', rfl⟩ | ⟨m', hl, a, b, v, hv, hv', rfl⟩
    · rw [since_test (mdays_lt _ _)] at hv'
      simp only [Bool.and_eq_true, decide_eq_true_eq] at hv'
      refine ⟨⟨m, v, h, mi, hm1, hm2, hv'.1, h1, h2, rfl⟩, ?_⟩
      have e1 := midA_eq m v
      have e2 := midA_eq m dd
      rw [hfl, ← hmd] at h3
      by_cases hvd : v = dd
      · subst hvd
        have h9 := h3 rfl
        cases d <;> simp at h9 ⊢ <;> omega
      · cases d <;> simp at hv' ⊢ <;> omega
    · refine ⟨⟨m', v, h, mi, a, b, hv', h1, h2, rfl⟩, ?_⟩
      have hv9 := hin m' v hv'
      have h9 := midA_later (by omega) (by omega) hl hd1 hd2 hv9.1 hv9.2
      have e1 := midA_eq m' v
      have e2 := midA_eq m dd
      cases d <;> simp only [ltd, Bool.false_eq_true, if_true, if_false] at h9 ⊢ <;> omega
  · rintro ⟨⟨m', v, h, mi, a, b, hv', h1, h2, rfl⟩, hx⟩
    have hh24 := hH.2 h h1
    have hm60 := hM.2 mi h2
    have hv9 := hin m' v hv'
    have e1 := midA_eq m' v
    have e2 := midA_eq m dd
    have hl31 := ln_bd m'
    have hv64 : v < 64 := by have h8 : (v : Int) ≤ ln m' := hv9.2; omega
    refine ⟨midA m' v, ?_, h, mi, h1, h2, rfl, fun hT => ?_⟩
    · rcases Int.lt_trichotomy m' m with hlt | heq | hgt
      · cases d
        · exact .inr ⟨m', by simpa [later] using hlt, a, b, v, hv64, hv', rfl⟩
        · exfalso
          have h9 := midA_later (d := true) (by omega) (by omega) (show later true m' m by simpa [later] using hlt) hv9.1 hv9.2 hd1 hd2
          simp only [ltd, if_true] at h9 hx; omega
      · subst heq
        refine .inl ⟨hm1, hm2, v, hv64, ?_, rfl⟩
        rw [since_test (mdays_lt _ _)]
        simp only [Bool.and_eq_true, decide_eq_true_eq]
        refine ⟨hv', ?_⟩
        cases d <;> simp at hx ⊢ <;> omega
      · cases d
        · exfalso
          have h9 := midA_later (d := false) (by omega) (by omega) (show later false m' m by simpa [later] using hgt) hv9.1 hv9.2 hd1 hd2
          simp only [ltd, Bool.false_eq_true, if_false] at h9 hx; omega
        · exact .inr ⟨m', by simpa [later] using hgt, a, b, v, hv64, hv', rfl⟩
    · rw [hfl] at hT
      rw [hT]
      cases d <;> simp at hx ⊢ <;> omega
theorem momL_sorted {d : Bool} {s : Sp} {H M : Nat} (hH : Under H 24) (hM : Under M 60) (m : Int) (dd : Nat) (TD : Int) (hh mm : Nat) (hmm : mm < 60) : (momL d s H M m dd TD hh mm).Pairwise (ltd d) := by
  have hD := since_in (d := d) (v := dd) (mdays_in s m)
  have hmul : ∀ X ∈ midL d s (fuel0 d m) m (since d (mdays s m) dd) 0, ∃ N : Int, X = 86400 * N := fun X hX => by
    obtain ⟨m', v, _, _, _, _, _, rfl⟩ := midL_sub d s _ _ _ _ X hD hX
    exact ⟨F m' + v - 1, by rw [midA_eq]; omega⟩
  refine flat_sorted (R := ltd d) (midL_sorted d s _ m _ 0 hD) (fun X _ => dayL_sorted hH hM) (fun X hX Y hY hr x hx y hy => ?_)
  obtain ⟨N, rfl⟩ := hmul X hX
  obtain ⟨N', rfl⟩ := hmul Y hY
  obtain ⟨h, mi, h1, h2, rfl, _⟩ := (dayL_mem hH hM hmm).1 hx
  obtain ⟨h', mi', h1', h2', rfl, _⟩ := (dayL_mem hH hM hmm).1 hy
  have := hH.2 h h1
  have := hM.2 mi h2
  have := hH.2 h' h1'
  have := hM.2 mi' h2'
  cases d <;> simp only [ltd, Bool.false_eq_true, if_true, if_false] at hr ⊢ <;> omega
end Go.Proofs.YtnijneajlmgkjaaDoor
