/- Plain facts on labels that are sorted: each key has its value; they may be. -/
import Derived.Test.YtpkjllliidpgoaaGreatDoorLabM
import Derived.Test.YtpkjllliidpgoaaGreatDoorLabG
set_option linter.unusedSimpArgs false
set_option linter.unusedVariables false
namespace Go.Proofs.YtpkjllliidpgoaaGreatDoor
open Go.Lab

theorem sortB_ok {l o : List Lb} (h : sortB l = .ok o) : (∀ x ∈ l, mayOne x = true) ∧ Rises o ∧ o.Perm l ∧ l.length ≤ 16 := by
  have hp := sortB_perm h
  unfold sortB at h
  split at h
  · cases h
  · next hall =>
    cases hi : insAll [] l with
    | none => rw [hi] at h; cases h
    | some x =>
      rw [hi] at h
      have h1 := insAll_some List.Pairwise.nil hi
      simp only at h
      split at h
      · cases h
      · injection h with h; subst h
        refine ⟨fun y hy => ?_, h1.1, hp, by omega⟩
        cases hm : mayOne y
        · exact absurd (List.all_eq_false.2 ⟨y, hy, by rw [hm]; decide⟩) hall
        · rfl
theorem rises_key {o : List Lb} (h : Rises o) : ∀ x ∈ o, ∀ y ∈ o, x.key = y.key → x = y := by
  intro x hx y hy e
  obtain ⟨i, hi, rfl⟩ := List.mem_iff_getElem.1 hx
  obtain ⟨j, hj, rfl⟩ := List.mem_iff_getElem.1 hy
  rcases Nat.lt_trichotomy i j with hlt | rfl | hlt
  · have := List.pairwise_iff_getElem.1 h i j hi hj hlt
    unfold ltK at this; rw [e, bl_irrefl] at this; cases this
  · rfl
  · have := List.pairwise_iff_getElem.1 h j i hj hi hlt
    unfold ltK at this; rw [e, bl_irrefl] at this; cases this
theorem getB_sorted {l o : List Lb} (h : sortB l = .ok o) {x : Lb} (hx : x ∈ l) : getB o x.key = some x.val := by
  obtain ⟨_, hr, hp, _⟩ := sortB_ok h
  have hxo : x ∈ o := hp.symm.subset hx
  unfold getB
  cases hf : o.find? (fun y => y.key == x.key) with
  | none => exact absurd (beq_self_eq_true x.key) (by simpa using List.find?_eq_none.1 hf x hxo)
  | some y =>
    have h1 := List.find?_some hf
    have h2 := List.mem_of_find?_eq_some hf
    rw [rises_key hr y h2 x hxo (by simpa using h1)]
    rfl
theorem mayB_sorted {l o : List Lb} (h : sortB l = .ok o) : mayB o = true := by
  obtain ⟨ha, hr, hp, hn⟩ := sortB_ok h
  have hs : sortB o = .ok o := by
    have hall : o.all mayOne = true := List.all_eq_true.2 (fun x hx => ha x (hp.subset hx))
    have hi : insAll [] o = some o := sorted_is (List.Perm.refl o) (hr.imp (fun h => ltK_asymm h)) (fun i hi e => by
      have := List.pairwise_iff_getElem.1 hr i (i + 1) (by omega) hi (by omega)
      unfold ltK at this; rw [e, bl_irrefl] at this; cases this)
    have hlen := hp.length_eq
    unfold sortB
    rw [hall, if_neg (by decide), hi]
    simp only
    rw [if_neg (by omega)]
  unfold mayB; rw [hs]; simp
/-- .. and a selector of their own key and value matches them. -/
theorem mGets {l o : List Lb} (h : sortB l = .ok o) {x : Lb} (hx : x ∈ l) : mOne o 1 x.key [x.val] = true ∧ mOne o 3 x.key [] = true := by
  have hg := getB_sorted h hx
  rw [mOne_1, mOne_3]
  unfold inB hasS
  rw [hg]
  simp
end Go.Proofs.YtpkjllliidpgoaaGreatDoor
