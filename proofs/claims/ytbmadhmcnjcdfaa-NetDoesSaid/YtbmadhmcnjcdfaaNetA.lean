/- Plain: what a net holds, and what each call makes of it. No function of the program. -/
import Derived.Test.YtbmadhmcnjcdfaaBase
set_option linter.unusedSimpArgs false
set_option linter.unusedVariables false
namespace Go.Net
/-- A packet. -/
structure Pk where
  id : Int
  fr : Int
  dst : Int
  body : List UInt8
/-- A net. -/
structure St where
  places : Int
  last : Int
  lost : Int
  l : List Pk
def isP (s : St) (x : Int) : Prop := 0 ≤ x ∧ x < s.places
instance (s : St) (x : Int) : Decidable (isP s x) := inferInstanceAs (Decidable (_ ∧ _))
def idx (l : List Pk) (i : Int) : Nat := l.findIdx (fun p => p.id == i)
def addS (s : St) (fr dst : Int) (b : List UInt8) : (Int × Int) × St :=
  if 4096 ≤ s.l.length then ((0, 2), { s with lost := s.lost + 1 }) else ((s.last + 1, 0), { s with last := s.last + 1, l := s.l ++ [⟨s.last + 1, fr, dst, b⟩] })
def sendS (s : St) (fr dst : Int) (b : List UInt8) : (Int × Int) × St :=
  if ¬ (isP s fr ∧ isP s dst) then ((0, 1), s) else if 32832 < b.length then ((0, 3), s) else addS s fr dst b
def takeS (s : St) (i : Int) : St := { s with l := s.l.eraseIdx (idx s.l i) }
def dropS (s : St) (i : Int) : Int × St := if idx s.l i < s.l.length then (0, { takeS s i with lost := s.lost + 1 }) else (4, s)
def againS (s : St) (i : Int) : (Int × Int) × St :=
  if h : idx s.l i < s.l.length then addS s s.l[idx s.l i].fr s.l[idx s.l i].dst s.l[idx s.l i].body else ((0, 4), s)
/-- Between two places, both ways. -/
def btw (a b : Int) (p : Pk) : Bool := (p.fr == a && p.dst == b) || (p.fr == b && p.dst == a)
def left (l : List Pk) (a b : Int) : List Pk := l.filter (fun p => !btw a b p)
def partS (s : St) (a b : Int) : (Int × Int) × St :=
  if ¬ (isP s a ∧ isP s b) then ((0, 1), s) else (((s.l.length : Int) - ((left s.l a b).length : Int), 0), { s with l := left s.l a b, lost := s.lost + ((s.l.length : Int) - ((left s.l a b).length : Int)) })
/-- What holds of every net. -/
structure NOk (s : St) : Prop where
  p0 : 1 ≤ s.places
  p1 : s.places ≤ 65537
  few : s.l.length ≤ 4096
  asc : s.l.Pairwise (fun a b => a.id < b.id)
  ids : ∀ p ∈ s.l, 1 ≤ p.id ∧ p.id ≤ s.last
  bod : ∀ p ∈ s.l, p.body.length ≤ 32832
  last0 : 0 ≤ s.last
  lost0 : 0 ≤ s.lost
theorem left_le (l : List Pk) (a b : Int) : (left l a b).length ≤ l.length := List.length_filter_le _ _
theorem good_new {n : Int} (h0 : 1 ≤ n) (h1 : n ≤ 65537) : NOk ⟨n, 0, 0, []⟩ := ⟨h0, h1, by simp, List.Pairwise.nil, fun p h => by simp at h, fun p h => by simp at h, Int.le_refl _, Int.le_refl _⟩
section
variable {s : St}
theorem NOk.lostMore (h : NOk s) {k : Int} (hk : s.lost ≤ k) : NOk { s with lost := k } := ⟨h.p0, h.p1, h.few, h.asc, h.ids, h.bod, h.last0, Int.le_trans h.lost0 hk⟩
theorem NOk.sub (h : NOk s) {l : List Pk} (hl : l.Sublist s.l) : NOk { s with l := l } :=
  ⟨h.p0, h.p1, Nat.le_trans hl.length_le h.few, h.asc.sublist hl, fun p hp => h.ids p (hl.subset hp), fun p hp => h.bod p (hl.subset hp), h.last0, h.lost0⟩
theorem good_add (h : NOk s) (fr dst : Int) {b : List UInt8} (hb : b.length ≤ 32832) : NOk (addS s fr dst b).2 := by
  unfold addS
  by_cases hf : 4096 ≤ s.l.length
  · rw [if_pos hf]; exact h.lostMore (by omega)
  · rw [if_neg hf]
    refine ⟨h.p0, h.p1, by simp; omega, ?_, fun p hp => ?_, fun p hp => ?_, by have := h.last0; show (0 : Int) ≤ s.last + 1; omega, h.lost0⟩
    · rw [List.pairwise_append]
      refine ⟨h.asc, List.pairwise_singleton _ _, fun a ha b hb => ?_⟩
      have := h.ids a ha
      obtain rfl := List.mem_singleton.1 hb
      show a.id < s.last + 1
      omega
    · show 1 ≤ p.id ∧ p.id ≤ s.last + 1
      rcases List.mem_append.1 hp with h1 | h1
      · have := h.ids p h1; omega
      · obtain rfl := List.mem_singleton.1 h1
        have := h.last0
        exact ⟨by show 1 ≤ s.last + 1; omega, Int.le_refl _⟩
    · rcases List.mem_append.1 hp with h1 | h1
      · exact h.bod p h1
      · obtain rfl := List.mem_singleton.1 h1
        exact hb
theorem good_send (h : NOk s) (fr dst : Int) (b : List UInt8) : NOk (sendS s fr dst b).2 := by
  unfold sendS
  split
  · exact h
  · split
    · exact h
    · exact good_add h fr dst (by omega)
theorem good_take (h : NOk s) (i : Int) : NOk (takeS s i) := h.sub (List.eraseIdx_sublist ..)
theorem good_drop (h : NOk s) (i : Int) : NOk (dropS s i).2 := by
  unfold dropS
  split
  · exact (good_take h i).lostMore (by show s.lost ≤ s.lost + 1; omega)
  · exact h
theorem good_again (h : NOk s) (i : Int) : NOk (againS s i).2 := by
  unfold againS
  split
  · exact good_add h _ _ (h.bod _ (List.getElem_mem _))
  · exact h
theorem good_part (h : NOk s) (a b : Int) : NOk (partS s a b).2 := by
  unfold partS
  split
  · exact h
  · have := left_le s.l a b
    exact (h.sub (List.filter_sublist ..)).lostMore (by show s.lost ≤ s.lost + _; omega)
/-- Where an Id stands, it stands alone. -/
theorem idx_at (h : s.l.Pairwise (fun a b => a.id < b.id)) {k : Nat} (hk : k < s.l.length) : idx s.l s.l[k].id = k := by
  unfold idx
  rw [List.findIdx_eq hk]
  refine ⟨by simp, fun j hj => ?_⟩
  have := List.pairwise_iff_getElem.1 h j k (by omega) hk hj
  simp; omega
theorem idx_hit {l : List Pk} {i : Int} (h : idx l i < l.length) : l[idx l i].id = i := by
  have := List.findIdx_getElem (w := h)
  exact eq_of_beq this
theorem idx_miss {l : List Pk} {i : Int} (h : ¬ idx l i < l.length) {k : Nat} (hk : k < l.length) : l[k].id ≠ i := by
  have h1 : l.findIdx (fun p => p.id == i) = l.length := Nat.le_antisymm List.findIdx_le_length (Nat.le_of_not_lt h)
  have := List.findIdx_eq_length.1 h1 l[k] (List.getElem_mem hk)
  simpa using this
end
end Go.Net
