/- Plain: the reference's row of timers against a queue's set of timers. -/
import Derived.Test.YtllkallodgbpmaaQrE
import Derived.Test.YtllkallodgbpmaaQueQ
set_option linter.unusedSimpArgs false
set_option linter.unusedVariables false
namespace Go.Proofs.Ytllkallodgbpmaa
open Go.ChangeShapes Go.WideShapes Go.ChangeAt Go.RowKit Go.Base Go.Que

def pairT (t : Tm) : Int × Int := (t.at_, t.id)
/-- The row l shows the n timers S, the next one first; L is the same with the turns. -/
structure Sim (L : List Tm) (S : Tm → Prop) (n : Nat) (l : List (Int × Int)) (turns : Int) : Prop where
  len : n = L.length
  mem : ∀ t, S t ↔ t ∈ L
  row : l = L.map pairT
  asc : L.Pairwise lt
  once : L.Pairwise (fun a b => a.id ≠ b.id)
  old : ∀ t ∈ L, t.turn ≤ turns
section
variable {L : List Tm} {S S' : Tm → Prop} {n m : Nat} {l : List (Int × Int)} {turns : Int}
theorem Sim.nil : Sim [] (fun _ => False) 0 [] 0 := ⟨rfl, fun t => by simp, rfl, List.Pairwise.nil, List.Pairwise.nil, fun t h => by cases h⟩
theorem Sim.lenl (h : Sim L S n l turns) : n = l.length := by rw [h.row, List.length_map]; exact h.len
theorem once_id {L : List Tm} (h : L.Pairwise (fun a b => a.id ≠ b.id)) {t u : Tm} (ht : t ∈ L) (hu : u ∈ L) (e : t.id = u.id) : t = u := by
  induction L with
  | nil => cases ht
  | cons a r ih =>
    obtain ⟨h1, h2⟩ := List.pairwise_cons.1 h
    rcases List.mem_cons.1 ht with rfl | ht'
    · rcases List.mem_cons.1 hu with rfl | hu'
      · rfl
      · exact absurd e (h1 _ hu')
    · rcases List.mem_cons.1 hu with rfl | hu'
      · exact absurd e.symm (h1 _ ht')
      · exact ih h2 ht' hu'
theorem Sim.when_hit (h : Sim L S n l turns) {t : Tm} (ht : S t) : whenP l t.id = some t.at_ := by
  have hm := (h.mem t).1 ht
  rw [h.row]
  unfold whenP
  have : (L.map pairT).find? (fun u => u.2 == t.id) = some (pairT t) := by
    rw [List.find?_map]
    have : L.find? ((fun u : Int × Int => u.2 == t.id) ∘ pairT) = some t := by
      have hs : (L.find? ((fun u : Int × Int => u.2 == t.id) ∘ pairT)).isSome = true := by
        rw [List.find?_isSome]; exact ⟨t, hm, by simp [pairT]⟩
      obtain ⟨u, hu⟩ := Option.isSome_iff_exists.1 hs
      have h1 := List.find?_some hu
      have h2 := List.mem_of_find?_eq_some hu
      rw [hu, once_id h.once h2 hm (by simpa [pairT] using h1)]
    rw [this]; rfl
  rw [this]; rfl
theorem Sim.when_miss (h : Sim L S n l turns) {id : Int} (hn : ∀ t, S t → t.id ≠ id) : whenP l id = none := by
  refine find_none (fun t ht => ?_)
  rw [h.row] at ht
  obtain ⟨u, hu, rfl⟩ := List.mem_map.1 ht
  exact hn u ((h.mem u).2 hu)
theorem Sim.cases (h : Sim L S n l turns) (id : Int) : (∃ t, S t ∧ t.id = id) ∨ ∀ t, S t → t.id ≠ id := by
  by_cases hx : ∃ t, S t ∧ t.id = id
  · exact .inl hx
  · exact .inr (fun t ht e => hx ⟨t, ht, e⟩)
theorem Sim.drop_miss (h : Sim L S n l turns) {id : Int} (hn : ∀ t, S t → t.id ≠ id) : dropP l id = l := by
  refine dropP_none (fun t ht => ?_)
  rw [h.row] at ht
  obtain ⟨u, hu, rfl⟩ := List.mem_map.1 ht
  exact hn u ((h.mem u).2 hu)
theorem eraseP_map (L : List Tm) (id : Int) : (L.map pairT).eraseP (fun t => t.2 == id) = (L.eraseP (fun t => t.id == id)).map pairT := by
  induction L with
  | nil => rfl
  | cons a r ih =>
    rw [List.map_cons, List.eraseP_cons, List.eraseP_cons]
    by_cases e : a.id == id
    · rw [e]; simp [pairT, e]
    · have e : (a.id == id) = false := by simpa using e
      simp [pairT, e] at ih ⊢
      exact ih
theorem mem_eraseP {L : List Tm} (h : L.Pairwise (fun a b => a.id ≠ b.id)) (id : Int) (t : Tm) : t ∈ L.eraseP (fun u => u.id == id) ↔ t ∈ L ∧ t.id ≠ id := by
  induction L with
  | nil => simp
  | cons a r ih =>
    obtain ⟨h1, h2⟩ := List.pairwise_cons.1 h
    rw [List.eraseP_cons]
    by_cases e : a.id = id
    · simp only [e, beq_self_eq_true, cond_true, if_true]
      constructor
      · intro ht
        exact ⟨List.mem_cons_of_mem _ ht, fun e2 => h1 t ht (by rw [e, e2])⟩
      · rintro ⟨ht, hne⟩
        rcases List.mem_cons.1 ht with rfl | ht
        · exact absurd e hne
        · exact ht
    · have e2 : (a.id == id) = false := by simpa using e
      simp only [e2, cond_false, Bool.false_eq_true, if_false, List.mem_cons, ih h2]
      constructor
      · rintro (rfl | ⟨ht, hne⟩)
        · exact ⟨.inl rfl, e⟩
        · exact ⟨.inr ht, hne⟩
      · rintro ⟨rfl | ht, hne⟩
        · exact .inl rfl
        · exact .inr ⟨ht, hne⟩
theorem Sim.drop_hit (h : Sim L S n l turns) {t : Tm} (ht : S t) : ∃ m L', n = m + 1 ∧ Sim L' (fun u => S u ∧ u.id ≠ t.id) m (dropP l t.id) turns := by
  have hm := (h.mem t).1 ht
  have hl := List.length_eraseP_of_mem (p := fun u : Tm => u.id == t.id) hm (by simp)
  have hp := List.length_pos_of_mem hm
  refine ⟨n - 1, L.eraseP (fun u => u.id == t.id), by have := h.len; omega, ⟨by rw [hl, ← h.len], fun u => ?_, ?_, h.asc.sublist List.eraseP_sublist, h.once.sublist List.eraseP_sublist, fun u hu => h.old u (List.mem_of_mem_eraseP hu)⟩⟩
  · rw [mem_eraseP h.once, h.mem u]
  · unfold dropP; rw [h.row]; exact eraseP_map L t.id
theorem Sim.same (h : Sim L S n l turns) (e : ∀ t, S t ↔ S' t) : Sim L S' n l turns := ⟨h.len, fun t => (e t).symm.trans (h.mem t), h.row, h.asc, h.once, h.old⟩
/-- A timer comes in whose turn is behind all others. -/
theorem Sim.add (h : Sim L S n l turns) {id at_ : Int} (hn : ∀ t, S t → t.id ≠ id) : ∃ L', Sim L' (fun u => u = ⟨at_, id, turns + 1⟩ ∨ S u) (n + 1) (insP l (at_, id)) (turns + 1) := by
  let p : Tm → Bool := fun u => decide (u.at_ ≤ at_)
  have ha : L.takeWhile p ++ L.dropWhile p = L := List.takeWhile_append_dropWhile
  have hasc := h.asc
  have honce := h.once
  rw [← ha] at hasc honce
  obtain ⟨a1, a2, a3⟩ := List.pairwise_append.1 hasc
  obtain ⟨o1, o2, o3⟩ := List.pairwise_append.1 honce
  have hmem : ∀ u, u ∈ L ↔ u ∈ L.takeWhile p ∨ u ∈ L.dropWhile p := fun u => by rw [← List.mem_append, ha]
  have hlate : ∀ u ∈ L.dropWhile p, at_ < u.at_ := fun u hu => by
    cases hd : L.dropWhile p with
    | nil => rw [hd] at hu; cases hu
    | cons b r =>
      have hb : p b = false := by
        have h9 := List.head?_dropWhile_not (p := p) L
        rw [hd] at h9
        simpa using h9
      have hb : at_ < b.at_ := by simpa [p] using hb
      rw [hd] at hu a2
      rcases List.mem_cons.1 hu with rfl | hu
      · exact hb
      · have := (List.pairwise_cons.1 a2).1 u hu
        unfold lt at this
        omega
  have hearly : ∀ u ∈ L.takeWhile p, u.at_ ≤ at_ := fun u hu => by
    have h9 := List.all_takeWhile (p := p) (l := L)
    rw [List.all_eq_true] at h9
    simpa [p] using h9 u hu
  refine ⟨L.takeWhile p ++ ⟨at_, id, turns + 1⟩ :: L.dropWhile p, ⟨?_, fun u => ?_, ?_, ?_, ?_, fun u hu => ?_⟩⟩
  · have := congrArg List.length ha
    rw [List.length_append] at this ⊢
    rw [List.length_cons, h.len]
    omega
  · rw [h.mem u, hmem u, List.mem_append, List.mem_cons]
    constructor
    · rintro (h | h | h)
      · exact .inr (.inl h)
      · exact .inl h
      · exact .inr (.inr h)
    · rintro (h | h | h)
      · exact .inr (.inl h)
      · exact .inl h
      · exact .inr (.inr h)
  · rw [h.row]
    unfold insP
    rw [List.takeWhile_map, List.dropWhile_map, List.map_append, List.map_cons]
    rfl
  · refine List.pairwise_append.2 ⟨a1, List.pairwise_cons.2 ⟨fun u hu => .inl (hlate u hu), a2⟩, fun u hu v hv => ?_⟩
    rcases List.mem_cons.1 hv with rfl | hv
    · have h1 := hearly u hu
      have h2 := h.old u ((hmem u).2 (.inl hu))
      unfold lt
      show u.at_ < at_ ∨ (u.at_ = at_ ∧ u.turn < turns + 1)
      omega
    · exact a3 u hu v hv
  · refine List.pairwise_append.2 ⟨o1, List.pairwise_cons.2 ⟨fun u hu e => hn u ((h.mem u).2 ((hmem u).2 (.inr hu))) e.symm, o2⟩, fun u hu v hv => ?_⟩
    rcases List.mem_cons.1 hv with rfl | hv
    · exact hn u ((h.mem u).2 ((hmem u).2 (.inl hu)))
    · exact o3 u hu v hv
  · rcases List.mem_append.1 hu with hu | hu
    · have := h.old u ((hmem u).2 (.inl hu)); omega
    · rcases List.mem_cons.1 hu with rfl | hu
      · exact Int.le_refl _
      · have := h.old u ((hmem u).2 (.inr hu)); omega
theorem Sim.first {t : Tm} {r : List Tm} (h : Sim (t :: r) S n l turns) : S t ∧ (∀ u, S u → u.id ≠ t.id → lt t u) ∧ l = pairT t :: r.map pairT ∧ Sim r (fun u => S u ∧ u.id ≠ t.id) (n - 1) (r.map pairT) turns := by
  obtain ⟨a1, a2⟩ := List.pairwise_cons.1 h.asc
  obtain ⟨o1, o2⟩ := List.pairwise_cons.1 h.once
  refine ⟨(h.mem t).2 (List.mem_cons_self ..), fun u hu hne => ?_, h.row, ⟨by rw [h.len, List.length_cons]; omega, fun u => ?_, rfl, a2, o2, fun u hu => h.old u (List.mem_cons_of_mem _ hu)⟩⟩
  · rcases List.mem_cons.1 ((h.mem u).1 hu) with rfl | hm
    · exact absurd rfl hne
    · exact a1 u hm
  · rw [h.mem u]
    constructor
    · rintro ⟨hm, hne⟩
      rcases List.mem_cons.1 hm with rfl | hm
      · exact absurd rfl hne
      · exact hm
    · intro hm
      exact ⟨List.mem_cons_of_mem _ hm, fun e => o1 u hm e.symm⟩
end
end Go.Proofs.Ytllkallodgbpmaa
