/- WavePlays, in plain words: what an advice says; what becomes of the steps. -/
import Derived.Test.YtcbnankocjlobaaWavO
set_option linter.unusedSimpArgs false
set_option linter.unusedVariables false
namespace Go.Proofs.Ytcbnankocjlobaa
open Go.ChangeShapes Go.WideShapes Go.ChangeAt Go.RowKit Go.Base Go.Maps

theorem stV_at (l : List Nat) {k : Nat} (hk : k < l.length) : (stV l)[k]? = some (.int .i64 (l[k] : Int)) := by simp [stV, hk]
theorem skV_at : ∀ (l : List (Nat × Int)) (k : Nat) (x : Nat × Int), l[k]? = some x → (skV l)[k * 2]? = some (.int .i64 (x.1 : Int)) ∧ (skV l)[k * 2 + 1]? = some (.int .i64 x.2)
  | y :: l, 0, x, h => by
    have : y = x := by simpa using h
    subst this
    exact ⟨rfl, rfl⟩
  | y :: l, k + 1, x, h => by
    have h2 := skV_at l k x (by simpa using h)
    show ([Value.int .i64 (y.1 : Int), .int .i64 y.2] ++ skV l)[(k + 1) * 2]? = _ ∧ ([Value.int .i64 (y.1 : Int), .int .i64 y.2] ++ skV l)[(k + 1) * 2 + 1]? = _
    rw [List.getElem?_append_right (by simp; omega), List.getElem?_append_right (by simp; omega)]
    simp only [List.length_cons, List.length_nil]
    rw [show (k + 1) * 2 - (0 + 1 + 1) = k * 2 by omega, show (k + 1) * 2 + 1 - (0 + 1 + 1) = k * 2 + 1 by omega]
    exact h2
theorem AdvW.start_at {w : World} {B cs ck : Nat} {As Ak : Option Addr} {a : Adv} (h : AdvW w B As cs Ak ck a) {k : Nat} (hk : k < a.start.length) : ∃ g, As = some ⟨g, 0, none⟩ ∧ w.cell? ⟨g, k, none⟩ = some (.int .i64 (a.start[k] : Int)) := by
  obtain ⟨g, e, hc⟩ := own_cell h.s rfl k (by omega)
  exact ⟨g, e, hc.trans (stV_at _ hk)⟩
theorem AdvW.skip_at {w : World} {B cs ck : Nat} {As Ak : Option Addr} {a : Adv} (h : AdvW w B As cs Ak ck a) {k : Nat} (hk : k < a.skip.length) : ∃ g, Ak = some ⟨g, 0, none⟩ ∧ w.cell? ⟨g, k * 2, none⟩ = some (.int .i64 (a.skip[k].1 : Int)) ∧ w.cell? ⟨g, k * 2 + 1, none⟩ = some (.int .i64 a.skip[k].2) := by
  obtain ⟨g, e, hc⟩ := own_cell h.k rfl (k * 2) (by omega)
  obtain ⟨g', e', hc'⟩ := own_cell h.k rfl (k * 2 + 1) (by omega)
  rw [e] at e'
  injection e' with e'
  injection e' with e'
  subst e'
  obtain ⟨q1, q2⟩ := skV_at a.skip k a.skip[k] (List.getElem?_eq_getElem hk)
  exact ⟨g, e, hc.trans q1, hc'.trans q2⟩
/-- What the first k places of an advice say. -/
structure AF (fai par : Int) (l : List Stp) (now on : Int) (a : Adv) (k : Nat) : Prop where
  skip : ∀ e ∈ a.skip, e.1 < k ∧ (l.getD e.1 default).st = 1
  start : ∀ x ∈ a.start, x < k ∧ (l.getD x default).st = 1 ∧ (l.getD x default).at_ ≤ now ∧ now < (l.getD x default).un ∧ openB fai l (l.getD x default).wv = true
  dis : ∀ x ∈ a.start, ∀ e ∈ a.skip, e.1 ≠ x
  room : a.start = [] ∨ par ≤ 0 ∨ on + (a.start.length : Nat) ≤ par
  late : ∀ j, j < k → (l.getD j default).st = 1 → (l.getD j default).un ≤ now → ∃ e ∈ a.skip, e.1 = j
  rsk : a.skip.Pairwise (fun x y => x.1 < y.1)
  rst : a.start.Pairwise (· < ·)
theorem af_adv (fai par : Int) (l : List Stp) (now on : Int) : ∀ k, AF fai par l now on (advK fai par l now on k) k
  | 0 => ⟨(fun e h => by cases h), (fun e h => by cases h), (fun e h => by cases h), .inl rfl, (fun j h => by omega), List.Pairwise.nil, List.Pairwise.nil⟩
  | k + 1 => by
    have ih := af_adv fai par l now on k
    show AF fai par l now on (stepAdv fai par l now on (advK fai par l now on k) k (l.getD k default)) (k + 1)
    generalize advK fai par l now on k = a at ih
    have hs := fun e he => ih.skip e he
    have ht := fun e he => ih.start e he
    have sk1 : ∀ e ∈ a.skip, e.1 < k + 1 ∧ (l.getD e.1 default).st = 1 := fun e he => ⟨by have := (hs e he).1; omega, (hs e he).2⟩
    have st1 : ∀ x ∈ a.start, x < k + 1 ∧ (l.getD x default).st = 1 ∧ (l.getD x default).at_ ≤ now ∧ now < (l.getD x default).un ∧ openB fai l (l.getD x default).wv = true := fun x hx => ⟨by have := (ht x hx).1; omega, (ht x hx).2⟩
    unfold stepAdv
    by_cases h1 : ((l.getD k default).st == 1) = false
    · rw [if_pos h1]
      refine ⟨sk1, st1, ih.dis, ih.room, ?_, ih.rsk, ih.rst⟩
      intro j hj h
      rcases (by omega : j < k ∨ j = k) with hj | rfl
      · exact ih.late j hj h
      · rw [h] at h1; exact absurd h1 (by decide)
    · rw [if_neg h1]
      have h1' : (l.getD k default).st = 1 := by simpa using h1
      have skN : ∀ r : Int, (∀ e ∈ a.skip ++ [(k, r)], e.1 < k + 1 ∧ (l.getD e.1 default).st = 1) := fun r e he => by
        rcases List.mem_append.1 he with he | he
        · exact sk1 e he
        · have : e = (k, r) := by simpa using he
          subst this; exact ⟨by omega, h1'⟩
      have disN : ∀ r : Int, ∀ x ∈ a.start, ∀ e ∈ a.skip ++ [(k, r)], e.1 ≠ x := fun r x hx e he => by
        rcases List.mem_append.1 he with he | he
        · exact ih.dis x hx e he
        · have : e = (k, r) := by simpa using he
          subst this
          have := (ht x hx).1
          show k ≠ x
          omega
      have rskN : ∀ r : Int, (a.skip ++ [(k, r)]).Pairwise (fun x y => x.1 < y.1) := fun r => by
        rw [List.pairwise_append]
        refine ⟨ih.rsk, by simp, fun x hx y hy => ?_⟩
        have : y = (k, r) := by simpa using hy
        subst this
        exact (hs x hx).1
      have lateN : ∀ (r : Int) j, j < k + 1 → (l.getD j default).st = 1 → (l.getD j default).un ≤ now → ∃ e ∈ a.skip ++ [(k, r)], e.1 = j := fun r j hj h hu => by
        rcases (by omega : j < k ∨ j = k) with hj | rfl
        · obtain ⟨e, he, e2⟩ := ih.late j hj h hu
          exact ⟨e, List.mem_append_left _ he, e2⟩
        · exact ⟨(j, r), by simp, rfl⟩
      by_cases h2 : (l.getD k default).un ≤ now
      · rw [if_pos h2]
        exact ⟨skN 3, st1, disN 3, ih.room, lateN 3, rskN 3, ih.rst⟩
      · rw [if_neg h2]
        have lateS : ∀ j, j < k + 1 → (l.getD j default).st = 1 → (l.getD j default).un ≤ now → ∃ e ∈ a.skip, e.1 = j := fun j hj h hu => by
          rcases (by omega : j < k ∨ j = k) with hj | rfl
          · exact ih.late j hj h hu
          · exact absurd hu h2
        by_cases h3 : haltB fai l (l.getD k default).wv = true
        · rw [if_pos h3]
          exact ⟨skN 5, st1, disN 5, ih.room, lateN 5, rskN 5, ih.rst⟩
        · rw [if_neg h3]
          by_cases h4 : (openB fai l (l.getD k default).wv && decide ((l.getD k default).at_ ≤ now) && roomB par (on + (a.start.length : Nat))) = true
          · rw [if_pos h4]
            simp only [Bool.and_eq_true, decide_eq_true_eq] at h4
            obtain ⟨⟨h5, h6⟩, h7⟩ := h4
            refine ⟨sk1, fun x hx => ?_, fun x hx e he => ?_, .inr ?_, lateS, ih.rsk, ?_⟩
            · rcases List.mem_append.1 hx with hx | hx
              · exact st1 x hx
              · have : x = k := by simpa using hx
                subst this; exact ⟨by omega, h1', h6, by omega, h5⟩
            · rcases List.mem_append.1 hx with hx | hx
              · exact ih.dis x hx e he
              · have : x = k := by simpa using hx
                subst this
                have := (hs e he).1
                omega
            · unfold roomB at h7
              simp only [Bool.or_eq_true, decide_eq_true_eq] at h7
              rcases h7 with h7 | h7
              · exact .inl h7
              · refine .inr ?_
                simp only [List.length_append, List.length_cons, List.length_nil]
                omega
            · rw [List.pairwise_append]
              refine ⟨ih.rst, by simp, fun x hx y hy => ?_⟩
              have : y = k := by simpa using hy
              subst this
              exact (ht x hx).1
          · rw [if_neg h4]
            exact ⟨sk1, st1, ih.dis, ih.room, lateS, ih.rsk, ih.rst⟩
/-- What has become of the steps, some left out and some sent. -/
structure Became (L0 L : List Stp) (sk : List (Nat × Int)) (st : List Nat) : Prop where
  len : L.length = L0.length
  same : ∀ j, j < L0.length → (L.getD j default).at_ = (L0.getD j default).at_ ∧ (L.getD j default).un = (L0.getD j default).un ∧ (L.getD j default).wv = (L0.getD j default).wv
  skip : ∀ e ∈ sk, (L.getD e.1 default).st = 4
  start : ∀ x ∈ st, (L.getD x default).st = 2
  other : ∀ j, j < L0.length → (∀ e ∈ sk, e.1 ≠ j) → (∀ x ∈ st, x ≠ j) → (L.getD j default).st = (L0.getD j default).st
theorem Became.refl (L : List Stp) : Became L L [] [] := ⟨rfl, (fun _ _ => ⟨rfl, rfl, rfl⟩), (fun e h => by cases h), (fun e h => by cases h), (fun _ _ _ _ => rfl)⟩
theorem getD_set_same {L : List Stp} {k : Nat} (hk : k < L.length) (s : Stp) : (L.set k s).getD k default = s := by simp [hk]
theorem getD_set_other {L : List Stp} {k j : Nat} (h : j ≠ k) (s : Stp) : (L.set k s).getD j default = L.getD j default := by
  simp only [List.getD_eq_getElem?_getD]
  rw [List.getElem?_set_ne (fun e => h e.symm)]
theorem Became.skipOne {L0 L : List Stp} {sk : List (Nat × Int)} {e : Nat × Int} (h : Became L0 L sk []) (he : e.1 < L0.length) (hd : ∀ x ∈ sk, x.1 < e.1) {s : Stp} (hs : s.st = 4) (h1 : s.at_ = (L.getD e.1 default).at_) (h2 : s.un = (L.getD e.1 default).un) (h3 : s.wv = (L.getD e.1 default).wv) :
    Became L0 (L.set e.1 s) (sk ++ [e]) [] := by
  have hl : e.1 < L.length := by rw [h.len]; exact he
  refine ⟨(by rw [List.length_set]; exact h.len), fun j hj => ?_, fun x hx => ?_, (fun x hx => by cases hx), fun j hj h4 _ => ?_⟩
  · by_cases ej : j = e.1
    · subst ej
      rw [getD_set_same hl, h1, h2, h3]
      exact h.same _ hj
    · rw [getD_set_other ej]
      exact h.same _ hj
  · rcases List.mem_append.1 hx with hx | hx
    · rw [getD_set_other (by have := hd x hx; omega)]
      exact h.skip x hx
    · have : x = e := by simpa using hx
      subst this
      rw [getD_set_same hl]; exact hs
  · have hne : e.1 ≠ j := h4 e (by simp)
    rw [getD_set_other (fun e => hne e.symm)]
    exact h.other j hj (fun x hx => h4 x (List.mem_append_left _ hx)) (fun x (hx : x ∈ []) => by cases hx)
theorem Became.startOne {L0 L : List Stp} {sk : List (Nat × Int)} {st : List Nat} {k : Nat} (h : Became L0 L sk st) (hk : k < L0.length) (hd : ∀ x ∈ st, x < k) (hds : ∀ e ∈ sk, e.1 ≠ k) {s : Stp} (hs : s.st = 2) (h1 : s.at_ = (L.getD k default).at_) (h2 : s.un = (L.getD k default).un) (h3 : s.wv = (L.getD k default).wv) :
    Became L0 (L.set k s) sk (st ++ [k]) := by
  have hl : k < L.length := by rw [h.len]; exact hk
  refine ⟨(by rw [List.length_set]; exact h.len), fun j hj => ?_, fun x hx => ?_, fun x hx => ?_, fun j hj h4 h5 => ?_⟩
  · by_cases ej : j = k
    · subst ej
      rw [getD_set_same hl, h1, h2, h3]
      exact h.same _ hj
    · rw [getD_set_other ej]
      exact h.same _ hj
  · rw [getD_set_other (hds x hx)]
    exact h.skip x hx
  · rcases List.mem_append.1 hx with hx | hx
    · rw [getD_set_other (by have := hd x hx; omega)]
      exact h.start x hx
    · have : x = k := by simpa using hx
      subst this
      rw [getD_set_same hl]; exact hs
  · have hne : k ≠ j := h5 k (by simp)
    rw [getD_set_other (fun e => hne e.symm)]
    exact h.other j hj h4 (fun x hx => h5 x (List.mem_append_left _ hx))
/-- Setting one element turns a count by what it was and is. -/
theorem cnt_set (p : Stp → Bool) : ∀ (L : List Stp) (k : Nat) (hk : k < L.length) (s : Stp), cnt p (L.set k s) + (p (L.getD k default)).toNat = cnt p L + (p s).toNat
  | x :: L, 0, hk, s => by
    have e : ∀ y, cnt p (y :: L) = cnt p L + (p y).toNat := fun y => by unfold cnt; rw [List.countP_cons]; cases p y <;> rfl
    show cnt p (s :: L) + (p x).toNat = cnt p (x :: L) + (p s).toNat
    rw [e, e]; omega
  | x :: L, k + 1, hk, s => by
    have e : ∀ (M : List Stp), cnt p (x :: M) = cnt p M + (p x).toNat := fun M => by unfold cnt; rw [List.countP_cons]; cases p x <;> rfl
    have ih := cnt_set p L k (by simpa using hk) s
    have e2 : (x :: L).getD (k + 1) default = L.getD k default := by simp
    show cnt p (x :: L.set k s) + (p ((x :: L).getD (k + 1) default)).toNat = cnt p (x :: L) + (p s).toNat
    rw [e, e, e2]; omega
theorem getD_at {L : List Stp} {k : Nat} (hk : k < L.length) : L.getD k default = L[k] := by rw [List.getD_eq_getElem?_getD, List.getElem?_eq_getElem hk]; rfl
/-- Of a wave that is open nothing ahead is left. -/
theorem open_left {fai : Int} {l : List Stp} {x : Int} (h : openB fai l x = true) {j : Nat} (hj : j < l.length) (hlt : (l.getD j default).wv < x) : (l.getD j default).st ≠ 1 ∧ (l.getD j default).st ≠ 2 := by
  rw [getD_at hj] at hlt ⊢
  unfold openB at h
  rw [List.all_eq_true] at h
  have h1 := h l[j] (List.getElem_mem hj)
  rw [decide_eq_true hlt] at h1
  have h2 : endB l l[j].wv = true := by
    unfold shutC at h1
    cases hq : endB l l[j].wv
    · rw [hq] at h1; simp at h1
    · rfl
  unfold endB at h2
  have h3 : cnt (andW leftB l[j].wv) l = 0 := by simpa using h2
  unfold cnt at h3
  rw [List.countP_eq_zero] at h3
  have h4 := h3 l[j] (List.getElem_mem hj)
  simp only [andW, leftB, beq_self_eq_true, Bool.and_true, Bool.or_eq_true, beq_iff_eq] at h4
  exact ⟨fun e => h4 (.inl e), fun e => h4 (.inr e)⟩
theorem cnt_isS_zero {l : List Stp} {k : Int} (h : ∀ j, j < l.length → (l.getD j default).st ≠ k) : cnt (isS k) l = 0 := by
  unfold cnt
  rw [List.countP_eq_zero]
  intro s hs
  obtain ⟨j, hj, rfl⟩ := List.mem_iff_getElem.1 hs
  have := h j hj
  rw [getD_at hj] at this
  simpa [isS] using this
theorem cnt_isS_none {l : List Stp} {k : Int} (h : cnt (isS k) l = 0) : ∀ j, j < l.length → (l.getD j default).st ≠ k := fun j hj e => by
  unfold cnt at h
  rw [List.countP_eq_zero] at h
  have := h l[j] (List.getElem_mem hj)
  rw [getD_at hj] at e
  simp [isS, e] at this
end Go.Proofs.Ytcbnankocjlobaa
