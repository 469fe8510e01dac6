/- Plain facts on labels in the order of their keys. No program. -/
import Derived.Test.YtpkjllliidpgoaaGreatDoorLabA
import Derived.Sort.Walk0
set_option linter.unusedSimpArgs false
set_option linter.unusedVariables false
namespace Go.Lab
open Go Go.Op

theorem bl_irrefl (a : Bytes) : bytesLess a a = false := by
  rw [Go.Proofs.bytesLess_eq]; simp [List.lt_irrefl]
theorem bl_trans {a b c : Bytes} (h1 : bytesLess a b = true) (h2 : bytesLess b c = true) : bytesLess a c = true := by
  rw [Go.Proofs.bytesLess_eq] at *
  simp only [decide_eq_true_eq] at *
  exact List.lt_trans h1 h2
theorem bl_tri (a b : Bytes) : bytesLess a b = true ∨ a = b ∨ bytesLess b a = true := by
  rw [Go.Proofs.bytesLess_eq, Go.Proofs.bytesLess_eq]
  simp only [decide_eq_true_eq]
  by_cases h : a < b
  · exact .inl h
  · by_cases h2 : b < a
    · exact .inr (.inr h2)
    · exact .inr (.inl (List.le_antisymm (List.not_lt.1 h2) (List.not_lt.1 h)))
def ltK (x y : Lb) : Bool := bytesLess x.key y.key
def cmpLb (x y : Lb) : Int := if ltK x y then -1 else if x.key == y.key then 0 else 1
theorem lt_cmp (x y : Lb) : decide (cmpLb x y < 0) = ltK x y := by
  unfold cmpLb
  cases ltK x y
  · by_cases h : (x.key == y.key) = true <;> simp [h]
  · simp
theorem ltK_irrefl (x : Lb) : ltK x x = false := bl_irrefl _
theorem ltK_trans {x y z : Lb} (h1 : ltK x y = true) (h2 : ltK y z = true) : ltK x z = true := bl_trans h1 h2
theorem ltK_asymm {x y : Lb} (h1 : ltK x y = true) : ltK y x = false := by
  cases h : ltK y x
  · rfl
  · have := ltK_trans h1 h; rw [ltK_irrefl] at this; cases this
theorem ltK_not {x y : Lb} (h : ltK x y = false) : x.key = y.key ∨ ltK y x = true := by
  rcases bl_tri x.key y.key with h1 | h1 | h1
  · unfold ltK at h; rw [h] at h1; cases h1
  · exact .inl h1
  · exact .inr h1
theorem ltK_ntrans (x y z : Lb) (h1 : ltK x y = false) (h2 : ltK y z = false) : ltK x z = false := by
  cases h : ltK x z
  · rfl
  · rcases ltK_not h1 with e1 | e1
    · rcases ltK_not h2 with e2 | e2
      · unfold ltK at h; rw [e1, e2, bl_irrefl] at h; cases h
      · have : ltK z x = true := by unfold ltK at *; rw [e1]; exact e2
        rw [ltK_asymm h] at this; cases this
    · rcases ltK_not h2 with e2 | e2
      · have : ltK x y = true := by unfold ltK at *; rw [e2]; exact h
        rw [h1] at this; cases this
      · have := ltK_trans e2 e1
        rw [ltK_asymm h] at this; cases this

/-- One more label among others that rise: where, and whether its key is there. -/
def spotOf (out : List Lb) (x : Lb) : Nat := (out.takeWhile fun y => ltK y x).length
def insStep (out : List Lb) (x : Lb) : Option (List Lb) :=
  if (out[spotOf out x]?.map (·.key)) = some x.key then none else some (out.take (spotOf out x) ++ x :: out.drop (spotOf out x))
def insAll : List Lb → List Lb → Option (List Lb)
  | out, [] => some out
  | out, x :: l => (insStep out x).bind fun o => insAll o l
/-- Labels by rising keys, or why not: 40, 5, 3. -/
def sortB (l : List Lb) : Except Int (List Lb) :=
  if l.all mayOne = false then .error 40 else match insAll [] l with
  | none => .error 5
  | some o => if 16 < l.length then .error 3 else .ok o
abbrev Rises (l : List Lb) : Prop := l.Pairwise fun x y => ltK x y = true
theorem spot_le (out : List Lb) (x : Lb) : spotOf out x ≤ out.length := (List.takeWhile_prefix _).length_le
theorem spot_take (out : List Lb) (x : Lb) : ∀ y ∈ out.take (spotOf out x), ltK y x = true := by
  intro y hy
  unfold spotOf at hy
  have e : out.take (out.takeWhile fun y => ltK y x).length = out.takeWhile fun y => ltK y x := by
    have := List.prefix_iff_eq_take.1 (List.takeWhile_prefix (p := fun y => ltK y x) (l := out))
    exact this.symm
  rw [e] at hy
  exact List.all_eq_true.1 (List.all_takeWhile (p := fun y => ltK y x) (l := out)) y hy
theorem spot_drop {out : List Lb} {x y : Lb} (h : out[spotOf out x]? = some y) : ltK y x = false := by
  unfold spotOf at h
  induction out with
  | nil => simp at h
  | cons z out ih =>
    rw [List.takeWhile_cons] at h
    cases hz : ltK z x
    · rw [hz] at h; simp at h; subst h; exact hz
    · rw [hz] at h; simp at h; exact ih h
theorem insStep_some {out o : List Lb} {x : Lb} (hr : Rises out) (h : insStep out x = some o) : Rises o ∧ o.Perm (x :: out) := by
  unfold insStep at h
  split at h
  · cases h
  · rename_i hne
    injection h with h
    subst h
    have hsp : out.take (spotOf out x) ++ out.drop (spotOf out x) = out := List.take_append_drop _ _
    refine ⟨?_, ?_⟩
    · rw [Rises, List.pairwise_append]
      have hr2 : Rises (out.take (spotOf out x) ++ out.drop (spotOf out x)) := by rw [hsp]; exact hr
      rw [Rises, List.pairwise_append] at hr2
      refine ⟨hr2.1, ?_, ?_⟩
      · rw [List.pairwise_cons]
        refine ⟨fun y hy => ?_, hr2.2.1⟩
        cases hd : out.drop (spotOf out x) with
        | nil => rw [hd] at hy; cases hy
        | cons z zs =>
          have hz : out[spotOf out x]? = some z := by
            have := List.getElem?_drop (xs := out) (i := spotOf out x) (j := 0)
            rw [hd] at this; simpa using this.symm
          have hxz : ltK x z = true := by
            rcases ltK_not (spot_drop hz) with e | e
            · rw [hz] at hne; exact absurd (by simp [e]) hne
            · exact e
          rw [hd] at hy hr2
          rcases List.mem_cons.1 hy with rfl | hy
          · exact hxz
          · exact ltK_trans hxz ((List.pairwise_cons.1 hr2.2.1).1 y hy)
      · intro a ha b hb
        rcases List.mem_cons.1 hb with rfl | hb
        · exact spot_take out b a ha
        · exact hr2.2.2 a ha b hb
    · refine List.perm_middle.trans ?_
      rw [hsp]
theorem insStep_none {out : List Lb} {x : Lb} (h : insStep out x = none) : ∃ y ∈ out, y.key = x.key := by
  unfold insStep at h
  split at h
  · rename_i he
    cases hs : out[spotOf out x]? with
    | none => rw [hs] at he; cases he
    | some y => rw [hs] at he; simp at he; exact ⟨y, List.mem_of_getElem? hs, he⟩
  · cases h
theorem insAll_some : ∀ {l out o : List Lb}, Rises out → insAll out l = some o → Rises o ∧ o.Perm (out ++ l)
  | [], out, o, hr, h => by injection h with h; subst h; exact ⟨hr, by simp⟩
  | x :: l, out, o, hr, h => by
    unfold insAll at h
    cases hs : insStep out x with
    | none => rw [hs] at h; cases h
    | some o1 =>
      rw [hs] at h
      have h1 := insStep_some hr hs
      have h2 := insAll_some h1.1 h
      exact ⟨h2.1, h2.2.trans ((h1.2.append_right l).trans (by
        have : (x :: out ++ l) = x :: (out ++ l) := rfl
        rw [this]
        exact List.perm_middle.symm))⟩
theorem rises_nodup {l : List Lb} (h : Rises l) : (l.map (·.key)).Nodup := by
  rw [List.Nodup, List.pairwise_map]
  exact h.imp fun {a b} hab e => by unfold ltK at hab; rw [e, bl_irrefl] at hab; cases hab
theorem insAll_none : ∀ {l out : List Lb}, Rises out → insAll out l = none → ¬ ((out ++ l).map (·.key)).Nodup
  | [], out, hr, h => by cases h
  | x :: l, out, hr, h => by
    unfold insAll at h
    cases hs : insStep out x with
    | none =>
      obtain ⟨y, hy, e⟩ := insStep_none hs
      intro hn
      rw [List.map_append, List.map_cons, List.nodup_append] at hn
      exact hn.2.2 y.key (List.mem_map_of_mem hy) x.key (by simp) e
    | some o1 =>
      rw [hs] at h
      have h1 := insStep_some hr hs
      have h2 := insAll_none h1.1 h
      intro hn
      refine h2 ?_
      have hp : (o1 ++ l).Perm (out ++ x :: l) := (h1.2.append_right l).trans (by
        have : (x :: out ++ l) = x :: (out ++ l) := rfl
        rw [this]
        exact List.perm_middle.symm)
      exact ((hp.map (·.key)).nodup_iff).2 hn
theorem rises_unique : ∀ {a b : List Lb}, Rises a → Rises b → a.Perm b → a = b
  | [], b, _, _, h => (List.nil_perm.1 h).symm
  | x :: a, [], _, _, h => by have := h.length_eq; simp at this
  | x :: a, y :: b, ha, hb, h => by
    have hxy : x = y := by
      have h1 : x ∈ y :: b := h.subset (by simp)
      have h2 : y ∈ x :: a := h.symm.subset (by simp)
      rcases List.mem_cons.1 h1 with h1 | h1
      · exact h1
      · rcases List.mem_cons.1 h2 with h2 | h2
        · exact h2.symm
        · have e1 := (List.pairwise_cons.1 hb).1 x h1
          have e2 := (List.pairwise_cons.1 ha).1 y h2
          rw [ltK_asymm e1] at e2; cases e2
    subst hxy
    rw [rises_unique (List.pairwise_cons.1 ha).2 (List.pairwise_cons.1 hb).2 (List.Perm.cons_inv h)]
/-- What a sort leaves: where no two neighbours have one key, just the labels by rising keys. -/
theorem sorted_is {l d : List Lb} (hp : d.Perm l) (hs : d.Pairwise fun x y => ltK y x = false) (hn : ∀ i (h : i + 1 < d.length), d[i + 1].key ≠ d[i].key) : insAll [] l = some d := by
  have hr : Rises d := by
    have key : ∀ d : List Lb, (d.Pairwise fun x y => ltK y x = false) → (∀ i (h : i + 1 < d.length), d[i + 1].key ≠ d[i].key) → Rises d := by
      intro d
      induction d with
      | nil => intro _ _; exact List.Pairwise.nil
      | cons x d ih =>
        intro hs hn
        rw [List.pairwise_cons] at hs
        have ihd := ih hs.2 (fun i h => by have := hn (i + 1) (by simp; omega); simpa using this)
        rw [Rises, List.pairwise_cons]
        refine ⟨fun y hy => ?_, ihd⟩
        cases d with
        | nil => cases hy
        | cons z d =>
          have hz : ltK x z = true := by
            rcases ltK_not (hs.1 z (by simp)) with e | e
            · exact absurd e (by have := hn 0 (by simp); simpa using this)
            · exact e
          rcases List.mem_cons.1 hy with rfl | hy
          · exact hz
          · exact ltK_trans hz ((List.pairwise_cons.1 ihd).1 y hy)
    exact key d hs hn
  cases h : insAll [] l with
  | none => 
    have := insAll_none List.Pairwise.nil h
    rw [List.nil_append] at this
    exact absurd (((hp.map (·.key)).nodup_iff).1 (rises_nodup hr)) this
  | some o =>
    have h1 := insAll_some List.Pairwise.nil h
    rw [List.nil_append] at h1
    rw [rises_unique hr h1.1 (hp.trans h1.2.symm)]
theorem sorted_not {l d : List Lb} (hp : d.Perm l) {i : Nat} (h : i + 1 < d.length) (he : d[i + 1].key = d[i].key) : insAll [] l = none := by
  cases hi : insAll [] l with
  | none => rfl
  | some o =>
    have h1 := insAll_some List.Pairwise.nil hi
    rw [List.nil_append] at h1
    have hn := (((h1.2.trans hp.symm).map (·.key)).nodup_iff).1 (rises_nodup h1.1)
    have := List.pairwise_iff_getElem.1 hn i (i + 1) (by simp; omega) (by simpa using h) (by omega)
    simp at this
    exact absurd he.symm this
end Go.Lab
