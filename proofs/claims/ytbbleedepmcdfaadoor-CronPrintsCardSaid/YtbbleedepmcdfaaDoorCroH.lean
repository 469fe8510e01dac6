/- Walk of package cron: an item of a field, all ways together. -/
import Derived.Test.YtbbleedepmcdfaaDoorCroG
set_option linter.unusedSimpArgs false
set_option linter.unusedVariables false
namespace Go.Proofs.YtbbleedepmcdfaaDoor
open Go.ChangeShapes Go.WideShapes Go.ChangeAt Go.RowKit Go.Base Go.Cro

theorem item_An (rd : Bytes → Option Int) (l sp af : Bytes) (w : World) (hl : l.length ≤ maxLen) (hrd : ∀ x : Bytes, x.length ≤ maxLen → Rdn w x (rd x)) (hst : cutB 47 l = (sp, af, false)) :
    Calls Tryd.prog 41 #[.string ⟨l.toArray⟩, .func (.func 37) #[] #[]] w fun e w' => e = .returned (itOpt (spanB rd sp 1 false)) ∧ Below w.heap.size w w' := by
  have hsp : sp.length ≤ maxLen := by have := cutB_len 47 l; rw [hst] at this; simp only at this; omega
  unfold spanB
  by_cases hs : sp = [42]
  · rw [if_pos hs]; exact star_An l sp af w hl hst hs
  rw [if_neg hs]
  obtain ⟨lo, hi, tw, hs2⟩ : ∃ lo hi tw, cutB 45 sp = (lo, hi, tw) := ⟨_, _, _, rfl⟩
  have hlen := cutB_len 45 sp
  rw [hs2] at hlen ⊢
  simp only at hlen ⊢
  have hlo := hrd lo (by omega)
  have hhi := hrd hi (by omega)
  cases hf : rd lo with
  | none =>
    rw [hf] at hlo
    cases tw
    · exact lownof_An l sp af w hl hst hs lo hi hs2 hlo
    · exact lownot_An l sp af w hl hst hs lo hi hs2 hlo
  | some f =>
    rw [hf] at hlo
    cases tw
    · exact one_An l sp af w hl hst hs lo hi hs2 f hlo
    · cases ht : rd hi with
      | none =>
        rw [ht] at hhi
        exact highno_An l sp af w hl hst hs lo hi hs2 f hlo hhi
      | some t =>
        rw [ht] at hhi
        exact two_An l sp af w hl hst hs lo hi hs2 f hlo t hhi

theorem item_Bn (rd : Bytes → Option Int) (l sp af : Bytes) (n : Int) (w : World) (hl : l.length ≤ maxLen) (hrd : ∀ x : Bytes, x.length ≤ maxLen → Rdn w x (rd x)) (hst : cutB 47 l = (sp, af, true)) (hstep : stepB af = some n) :
    Calls Tryd.prog 41 #[.string ⟨l.toArray⟩, .func (.func 37) #[] #[]] w fun e w' => e = .returned (itOpt (spanB rd sp n true)) ∧ Below w.heap.size w w' := by
  have hsp : sp.length ≤ maxLen := by have := cutB_len 47 l; rw [hst] at this; simp only at this; omega
  unfold spanB
  by_cases hs : sp = [42]
  · rw [if_pos hs]; exact star_Bn l sp af n w hl hst hstep hs
  rw [if_neg hs]
  obtain ⟨lo, hi, tw, hs2⟩ : ∃ lo hi tw, cutB 45 sp = (lo, hi, tw) := ⟨_, _, _, rfl⟩
  have hlen := cutB_len 45 sp
  rw [hs2] at hlen ⊢
  simp only at hlen ⊢
  have hlo := hrd lo (by omega)
  have hhi := hrd hi (by omega)
  cases hf : rd lo with
  | none =>
    rw [hf] at hlo
    cases tw
    · exact lownof_Bn l sp af n w hl hst hstep hs lo hi hs2 hlo
    · exact lownot_Bn l sp af n w hl hst hstep hs lo hi hs2 hlo
  | some f =>
    rw [hf] at hlo
    cases tw
    · exact one_Bn l sp af n w hl hst hstep hs lo hi hs2 f hlo
    · cases ht : rd hi with
      | none =>
        rw [ht] at hhi
        exact highno_Bn l sp af n w hl hst hstep hs lo hi hs2 f hlo hhi
      | some t =>
        rw [ht] at hhi
        exact two_Bn l sp af n w hl hst hstep hs lo hi hs2 f hlo t hhi

theorem parseItem_n (rd : Bytes → Option Int) (l : Bytes) (w : World) (hl : l.length ≤ maxLen) (hrd : ∀ x : Bytes, x.length ≤ maxLen → Rdn w x (rd x)) :
    Calls Tryd.prog 41 #[.string ⟨l.toArray⟩, .func (.func 37) #[] #[]] w fun e w' => e = .returned (itOpt (itemB rd l)) ∧ Below w.heap.size w w' := by
  unfold itemB
  obtain ⟨sp, af, st, hst⟩ : ∃ sp af st, cutB 47 l = (sp, af, st) := ⟨_, _, _, rfl⟩
  rw [hst]
  cases st
  · exact item_An rd l sp af w hl hrd hst
  · simp only [if_true]
    cases hstep : stepB af with
    | none => exact stepno_n l sp af w hl hst hstep
    | some n => exact item_Bn rd l sp af n w hl hrd hst hstep

theorem item_Am (pa pb : Addr) (rd : Bytes → Option Int) (l sp af : Bytes) (w : World) (hl : l.length ≤ maxLen) (hrd : ∀ x : Bytes, x.length ≤ maxLen → Rdm pa pb w x (rd x)) (hst : cutB 47 l = (sp, af, false)) :
    Calls Tryd.prog 41 #[.string ⟨l.toArray⟩, .func (.func 57) #[] #[.pointer (some pa), .pointer (some pb)]] w fun e w' => e = .returned (itOpt (spanB rd sp 1 false)) ∧ Below w.heap.size w w' := by
  have hsp : sp.length ≤ maxLen := by have := cutB_len 47 l; rw [hst] at this; simp only at this; omega
  unfold spanB
  by_cases hs : sp = [42]
  · rw [if_pos hs]; exact star_Am pa pb l sp af w hl hst hs
  rw [if_neg hs]
  obtain ⟨lo, hi, tw, hs2⟩ : ∃ lo hi tw, cutB 45 sp = (lo, hi, tw) := ⟨_, _, _, rfl⟩
  have hlen := cutB_len 45 sp
  rw [hs2] at hlen ⊢
  simp only at hlen ⊢
  have hlo := hrd lo (by omega)
  have hhi := hrd hi (by omega)
  cases hf : rd lo with
  | none =>
    rw [hf] at hlo
    cases tw
    · exact lownof_Am pa pb l sp af w hl hst hs lo hi hs2 hlo
    · exact lownot_Am pa pb l sp af w hl hst hs lo hi hs2 hlo
  | some f =>
    rw [hf] at hlo
    cases tw
    · exact one_Am pa pb l sp af w hl hst hs lo hi hs2 f hlo
    · cases ht : rd hi with
      | none =>
        rw [ht] at hhi
        exact highno_Am pa pb l sp af w hl hst hs lo hi hs2 f hlo hhi
      | some t =>
        rw [ht] at hhi
        exact two_Am pa pb l sp af w hl hst hs lo hi hs2 f hlo t hhi

theorem item_Bm (pa pb : Addr) (rd : Bytes → Option Int) (l sp af : Bytes) (n : Int) (w : World) (hl : l.length ≤ maxLen) (hrd : ∀ x : Bytes, x.length ≤ maxLen → Rdm pa pb w x (rd x)) (hst : cutB 47 l = (sp, af, true)) (hstep : stepB af = some n) :
    Calls Tryd.prog 41 #[.string ⟨l.toArray⟩, .func (.func 57) #[] #[.pointer (some pa), .pointer (some pb)]] w fun e w' => e = .returned (itOpt (spanB rd sp n true)) ∧ Below w.heap.size w w' := by
  have hsp : sp.length ≤ maxLen := by have := cutB_len 47 l; rw [hst] at this; simp only at this; omega
  unfold spanB
  by_cases hs : sp = [42]
  · rw [if_pos hs]; exact star_Bm pa pb l sp af n w hl hst hstep hs
  rw [if_neg hs]
  obtain ⟨lo, hi, tw, hs2⟩ : ∃ lo hi tw, cutB 45 sp = (lo, hi, tw) := ⟨_, _, _, rfl⟩
  have hlen := cutB_len 45 sp
  rw [hs2] at hlen ⊢
  simp only at hlen ⊢
  have hlo := hrd lo (by omega)
  have hhi := hrd hi (by omega)
  cases hf : rd lo with
  | none =>
    rw [hf] at hlo
    cases tw
    · exact lownof_Bm pa pb l sp af n w hl hst hstep hs lo hi hs2 hlo
    · exact lownot_Bm pa pb l sp af n w hl hst hstep hs lo hi hs2 hlo
  | some f =>
    rw [hf] at hlo
    cases tw
    · exact one_Bm pa pb l sp af n w hl hst hstep hs lo hi hs2 f hlo
    · cases ht : rd hi with
      | none =>
        rw [ht] at hhi
        exact highno_Bm pa pb l sp af n w hl hst hstep hs lo hi hs2 f hlo hhi
      | some t =>
        rw [ht] at hhi
        exact two_Bm pa pb l sp af n w hl hst hstep hs lo hi hs2 f hlo t hhi

theorem parseItem_m (pa pb : Addr) (rd : Bytes → Option Int) (l : Bytes) (w : World) (hl : l.length ≤ maxLen) (hrd : ∀ x : Bytes, x.length ≤ maxLen → Rdm pa pb w x (rd x)) :
    Calls Tryd.prog 41 #[.string ⟨l.toArray⟩, .func (.func 57) #[] #[.pointer (some pa), .pointer (some pb)]] w fun e w' => e = .returned (itOpt (itemB rd l)) ∧ Below w.heap.size w w' := by
  unfold itemB
  obtain ⟨sp, af, st, hst⟩ : ∃ sp af st, cutB 47 l = (sp, af, st) := ⟨_, _, _, rfl⟩
  rw [hst]
  cases st
  · exact item_Am pa pb rd l sp af w hl hrd hst
  · simp only [if_true]
    cases hstep : stepB af with
    | none => exact stepno_m pa pb l sp af w hl hst hstep
    | some n => exact item_Bm pa pb rd l sp af n w hl hrd hst hstep

theorem rd_number (w : World) (x : Bytes) (hx : x.length ≤ maxLen) : Rdn w x (numB x) := fun w' _ => number_any x w' hx
theorem rd_months (pa pb : Addr) (w : World) (ha : w.cell? pa = some (.string monthsT)) (hb : w.cell? pb = some (.int .i64 1)) (x : Bytes) (hx : x.length ≤ maxLen) : Rdm pa pb w x (namB months 1 x) := fun w' hw =>
  named_any months monthsT 12 (by decide) rfl months_ext rfl 1 (by decide) (by decide) x hx pa pb w' ((hw.cell (World.block_lt_of_cell? w _ ha)).trans ha) ((hw.cell (World.block_lt_of_cell? w _ hb)).trans hb)
theorem rd_week (pa pb : Addr) (w : World) (ha : w.cell? pa = some (.string weekT)) (hb : w.cell? pb = some (.int .i64 0)) (x : Bytes) (hx : x.length ≤ maxLen) : Rdm pa pb w x (namB weekdays 0 x) := fun w' hw =>
  named_any weekdays weekT 7 (by decide) rfl week_ext rfl 0 (by decide) (by decide) x hx pa pb w' ((hw.cell (World.block_lt_of_cell? w _ ha)).trans ha) ((hw.cell (World.block_lt_of_cell? w _ hb)).trans hb)

/-- The reader of the field at a place: what it is, and that it lies where it must. -/
def IsRd (w : World) (rv : Value) (k : Nat) : Prop :=
  (k ≠ 3 ∧ k ≠ 4 ∧ rv = .func (.func 37) #[] #[]) ∨
  (∃ pa pb : Addr, rv = .func (.func 57) #[] #[.pointer (some pa), .pointer (some pb)] ∧
    ((k = 3 ∧ w.cell? pa = some (.string monthsT) ∧ w.cell? pb = some (.int .i64 1)) ∨ (k = 4 ∧ w.cell? pa = some (.string weekT) ∧ w.cell? pb = some (.int .i64 0))))
theorem IsRd.later {w w' : World} {rv : Value} {k : Nat} (h : IsRd w rv k) (hb : Below w.heap.size w w') : IsRd w' rv k := by
  have c : ∀ (a : Addr) (v : Value), w.cell? a = some v → w'.cell? a = some v := fun a v h => (hb.cell (World.block_lt_of_cell? w _ h)).trans h
  rcases h with h | ⟨pa, pb, h, h3 | h4⟩
  · exact .inl h
  · exact .inr ⟨pa, pb, h, .inl ⟨h3.1, c _ _ h3.2.1, c _ _ h3.2.2⟩⟩
  · exact .inr ⟨pa, pb, h, .inr ⟨h4.1, c _ _ h4.2.1, c _ _ h4.2.2⟩⟩
theorem parseItem_any (rv : Value) (k : Nat) (l : Bytes) (w : World) (hl : l.length ≤ maxLen) (hr : IsRd w rv k) :
    Calls Tryd.prog 41 #[.string ⟨l.toArray⟩, rv] w fun e w' => e = .returned (itOpt (itemB (rdB k) l)) ∧ Below w.heap.size w w' := by
  rcases hr with ⟨h3, h4, rfl⟩ | ⟨pa, pb, rfl, ⟨rfl, ha, hb⟩ | ⟨rfl, ha, hb⟩⟩
  · have : rdB k = numB := by
      funext x; unfold rdB; split
      · exact absurd rfl h3
      · exact absurd rfl h4
      · rfl
    rw [this]
    exact parseItem_n numB l w hl (fun x hx => rd_number w x hx)
  · exact parseItem_m pa pb (namB months 1) l w hl (fun x hx => rd_months pa pb w ha hb x hx)
  · exact parseItem_m pa pb (namB weekdays 0) l w hl (fun x hx => rd_week pa pb w ha hb x hx)
end Go.Proofs.YtbbleedepmcdfaaDoor
