/- The reference's own items and fields, as functions, and that they say what the plain functions say. -/
import Derived.Test.YtbbleedepmcdfaaDoorCrpH
set_option linter.unusedSimpArgs false
set_option linter.unusedVariables false
namespace Go.Proofs.YtbbleedepmcdfaaDoor
open Go.ChangeShapes Go.WideShapes Go.ChangeAt Go.RowKit Go.Base Go.Cro Go.Civ

/-- An item: its bits, whether its range is a star, what is at fault. -/
def refItem (k : Nat) (l : Bytes) : Int × Bool × Int :=
  if (refSpan k (cutB 47 l).1 (cutB 47 l).2.2).2.2 = 20 then (0, false, 20) else
  match (if (cutB 47 l).2.2 then stepB (cutB 47 l).2.1 else some 1) with
  | none => (0, false, 20)
  | some s => if (refSpan k (cutB 47 l).1 (cutB 47 l).2.2).2.2 ≠ 0 ∨ s = 0 then (0, false, 21) else
    (valsB (scB k) (refSpan k (cutB 47 l).1 (cutB 47 l).2.2).1 (refSpan k (cutB 47 l).1 (cutB 47 l).2.2).2.1 s, (cutB 47 l).1 == [42], 0)
def itemR (k : Nat) (l : Bytes) : Int × Bool × Int := match itemB (rdB k) l with
  | none => (0, false, 20)
  | some it => if withinB it (scB k) then (itValsB it (scB k), it.star, 0) else (0, false, 21)

theorem nameB_len (names : List Bytes) (first : Int) (l : Bytes) (h : ∀ x ∈ names, x.length = 3) (hl : l.length ≠ 3) : nameB names first l = none := by
  unfold nameB
  have : names.findIdx? (· == l) = none := by
    rw [List.findIdx?_eq_none_iff]
    intro x hx
    have := h x hx
    simp only [beq_eq_false_iff_ne]
    rintro rfl
    exact hl this
  rw [this]; rfl
theorem numB_three (l : Bytes) (hl : l.length = 3) : numB l = none := by
  match l, hl with
  | [_, _, _], _ => rfl
theorem months_three : ∀ x ∈ months, x.length = 3 := by decide
theorem week_three : ∀ x ∈ weekdays, x.length = 3 := by decide
theorem name_bd (names : List Bytes) (first : Int) (l : Bytes) (n : Int) (h : nameB names first l = some n) : first ≤ n ∧ n < first + names.length := by
  unfold nameB at h
  cases hf : names.findIdx? (· == l) with
  | none => rw [hf] at h; cases h
  | some i =>
    rw [hf] at h
    simp only [Option.map_some, Option.some.injEq] at h
    have := (List.findIdx?_eq_some_iff_getElem.1 hf).1
    omega
/-- A number of a field: read alike, and held against what may stand there. -/
theorem refNum_eq (k : Nat) (hk : k < 5) (l : Bytes) : refNum k l = match rdB k l with
    | none => (0, 20)
    | some n => if n < (scB k).least ∨ (scB k).said < n then (0, 21) else (n, 0) := by
  have key : ∀ (names : List Bytes) (first : Int), (∀ x ∈ names, x.length = 3) → (∀ n, nameB names first l = some n → (scB k).least ≤ n ∧ n ≤ (scB k).said) →
      (match nameB names first l with
        | some n => (n, 0)
        | none => match numB l with
          | none => ((0 : Int), (20 : Int))
          | some n => if n < (scB k).least ∨ (scB k).said < n then (0, 21) else (n, 0)) =
      match namB names first l with
        | none => (0, 20)
        | some n => if n < (scB k).least ∨ (scB k).said < n then (0, 21) else (n, 0) := fun names first h3 hb => by
    by_cases hl : l.length = 3
    · have this : namB names first l = nameB names first l := by
        unfold namB nameB
        rw [if_pos hl]
        cases names.findIdx? (· == l) <;> rfl
      rw [this, numB_three l hl]
      cases hn : nameB names first l with
      | none => rfl
      | some n =>
        have := hb n hn
        simp only
        rw [if_neg (by omega)]
    · unfold namB
      rw [if_neg hl, nameB_len names first l h3 hl]
  rcases (by omega : k = 0 ∨ k = 1 ∨ k = 2 ∨ k = 3 ∨ k = 4) with rfl | rfl | rfl | rfl | rfl
  · rfl
  · rfl
  · rfl
  · exact key months 1 months_three (fun n h => by have := name_bd _ _ _ _ h; simp only [scB]; simp [months] at this; omega)
  · exact key weekdays 0 week_three (fun n h => by have := name_bd _ _ _ _ h; simp only [scB]; simp [weekdays] at this; omega)

theorem item_eq (k : Nat) (hk : k < 5) (l : Bytes) : refItem k l = itemR k l := by
  unfold refItem itemR itemB
  have hn := refNum_eq k hk
  have hsc : (scB k).least ≤ (scB k).most ∧ (scB k).most ≤ (scB k).said := by
    rcases (by omega : k = 0 ∨ k = 1 ∨ k = 2 ∨ k = 3 ∨ k = 4) with rfl | rfl | rfl | rfl | rfl <;> simp [scB]
  generalize hc : cutB 47 l = c
  obtain ⟨a, b, st⟩ := c
  simp only
  have span : ∀ (s : Int) (b : Bool), (refSpan k a b).2.2 = 20 ∧ spanB (rdB k) a s b = none ∨ (refSpan k a b).2.2 ≠ 20 ∧ ∃ it, spanB (rdB k) a s b = some it ∧ it.step = s ∧ it.star = (a == [42]) ∧
      ((refSpan k a b).2.2 = 0 ∧ (it.star = true ∨ (scB k).least ≤ it.first ∧ it.last ≤ (scB k).said ∧ it.first ≤ it.last) ∧ itValsB it (scB k) = valsB (scB k) (refSpan k a b).1 (refSpan k a b).2.1 s ∨
       (refSpan k a b).2.2 ≠ 0 ∧ ¬ (it.star = true ∨ (scB k).least ≤ it.first ∧ it.last ≤ (scB k).said ∧ it.first ≤ it.last)) := fun s b => by
    unfold refSpan spanB
    by_cases h42 : a = [42]
    · rw [if_pos h42, if_pos h42]
      refine .inr ⟨by simp, _, rfl, rfl, by simp [h42], .inl ⟨rfl, .inl rfl, ?_⟩⟩
      unfold itValsB; simp
    · rw [if_neg h42, if_neg h42]
      have hs42 : (a == [42]) = false := by simpa using h42
      generalize hd : cutB 45 a = d
      obtain ⟨x, y, two⟩ := d
      simp only
      rw [hn x, hn y]
      cases hx : rdB k x with
      | none =>
        cases two
        · left
          simp [refOne]
        · left
          simp [refTwo]
      | some f =>
        cases two
        · right
          simp only [Bool.false_eq_true, if_false]
          by_cases hr : f < (scB k).least ∨ (scB k).said < f
          · rw [if_pos hr]
            refine ⟨by simp [refOne], _, rfl, rfl, by simp [hs42], .inr ⟨by simp [refOne], ?_⟩⟩
            simp; omega
          · rw [if_neg hr]
            refine ⟨?_, _, rfl, rfl, by simp [hs42], .inl ⟨?_, .inr ⟨show (scB k).least ≤ f by omega, show f ≤ (scB k).said by omega, Int.le_refl f⟩, ?_⟩⟩
            · unfold refOne; split <;> simp
            · unfold refOne; split <;> simp
            · unfold itValsB refOne
              cases b
              · simp
              · by_cases hm : f ≤ (scB k).most
                · simp [hm]; congr 1; omega
                · simp [hm]; congr 1; omega
        · cases hy : rdB k y with
          | none => left; simp [refTwo]
          | some t =>
            right
            simp only [if_true, Option.map_some]
            by_cases hr : f < (scB k).least ∨ (scB k).said < f
            · rw [if_pos hr]
              by_cases hr2 : t < (scB k).least ∨ (scB k).said < t
              · rw [if_pos hr2]
                refine ⟨by simp [refTwo], _, rfl, rfl, by simp [hs42], .inr ⟨by simp [refTwo], ?_⟩⟩
                simp; omega
              · rw [if_neg hr2]
                refine ⟨by simp [refTwo], _, rfl, rfl, by simp [hs42], .inr ⟨by simp [refTwo], ?_⟩⟩
                simp; omega
            · rw [if_neg hr]
              by_cases hr2 : t < (scB k).least ∨ (scB k).said < t
              · rw [if_pos hr2]
                refine ⟨by simp [refTwo], _, rfl, rfl, by simp [hs42], .inr ⟨by simp [refTwo], ?_⟩⟩
                simp; omega
              · rw [if_neg hr2]
                by_cases hlt : t < f
                · refine ⟨by simp [refTwo, hlt], _, rfl, rfl, by simp [hs42], .inr ⟨by simp [refTwo, hlt], ?_⟩⟩
                  simp; omega
                · refine ⟨by simp [refTwo, hlt], _, rfl, rfl, by simp [hs42], .inl ⟨by simp [refTwo, hlt], .inr ⟨show (scB k).least ≤ f by omega, show t ≤ (scB k).said by omega, show f ≤ t by omega⟩, ?_⟩⟩
                  unfold itValsB refTwo; simp [hlt]
  have fin : ∀ (s : Int) (b : Bool), (if (refSpan k a b).2.2 = 20 then ((0 : Int), false, (20 : Int)) else if (refSpan k a b).2.2 ≠ 0 ∨ s = 0 then (0, false, 21) else (valsB (scB k) (refSpan k a b).1 (refSpan k a b).2.1 s, a == [42], 0)) =
      match spanB (rdB k) a s b with
      | none => (0, false, 20)
      | some it => if withinB it (scB k) = true then (itValsB it (scB k), it.star, 0) else (0, false, 21) := fun s b => by
    rcases span s b with ⟨h1, h2⟩ | ⟨h1, it, h2, h3, h4, h5⟩
    · rw [if_pos h1, h2]
    · rw [if_neg h1, h2]
      simp only
      rcases h5 with ⟨h6, h7, h8⟩ | ⟨h6, h7⟩
      · by_cases hs0 : s = 0
        · rw [if_pos (Or.inr hs0), if_neg (by unfold withinB; rw [h3, hs0]; simp)]
        · rw [if_neg (by omega), if_pos (by unfold withinB; rw [h3]; simp [hs0]; rcases h7 with h | h; exact .inl h; exact .inr ⟨⟨h.1, h.2.1⟩, h.2.2⟩), h8, h4]
      · rw [if_pos (Or.inl h6), if_neg (by unfold withinB; intro hw; simp at hw; exact h7 (by rcases hw.2 with h | h; exact .inl h; exact .inr ⟨h.1.1, h.1.2, h.2⟩))]
  cases st
  · simp only [Bool.false_eq_true, if_false]
    exact fin 1 false
  · simp only [if_true]
    cases hs : stepB b with
    | none => simp only; split <;> rfl
    | some s => exact fin s true
end Go.Proofs.YtbbleedepmcdfaaDoor
