/- Package store: files by rising names, plain. No function of the program. -/
import Derived.ProofKit
set_option linter.unusedSimpArgs false
set_option linter.unusedVariables false
namespace Go.Sto

/-- A file, as the chapter has it. -/
structure Fil where
  name : List UInt8
  bytes : List UInt8
  sure : Nat
  stays : Bool
/-- A store: its files by rising names, its room, how many calls the power lasts. -/
structure St where
  files : List Fil
  room : Nat
  left : Int
def okByte (c : UInt8) : Bool := (decide (97 ≤ c.toNat) && decide (c.toNat ≤ 122)) || (decide (48 ≤ c.toNat) && decide (c.toNat ≤ 57)) || (c.toNat == 46) || (c.toNat == 45)
def okName (s : List UInt8) : Bool := decide (1 ≤ s.length) && decide (s.length ≤ 24) && s.all okByte
def Rising (l : List Fil) : Prop := l.Pairwise (fun f g => f.name < g.name)
def look (l : List Fil) (s : List UInt8) : Option Fil := l.find? (fun f => f.name == s)
def used (l : List Fil) : Nat := (l.map (·.bytes.length)).sum
/-- A file in its place, for any other one of its name. -/
def ins (f : Fil) : List Fil → List Fil
  | [] => [f]
  | g :: l => if f.name = g.name then f :: l else if f.name < g.name then f :: g :: l else g :: ins f l
def del (s : List UInt8) (l : List Fil) : List Fil := l.filter (fun f => !(f.name == s))
def wear (left : Int) : Int := if 0 < left then left - 1 else left
/-- Why a call is refused, whatever the files are. -/
def refuseN (ok : Bool) (st : St) : Nat := if ok then (if st.left = 0 then 70 else 0) else 1

theorem lt_irr (a : List UInt8) : ¬ a < a := List.lt_irrefl a
theorem lt_tr {a b c : List UInt8} (h : a < b) (h2 : b < c) : a < c := List.lt_trans h h2
theorem lt_or {a b : List UInt8} (h : a ≠ b) (h2 : ¬ a < b) : b < a := by
  exact Classical.byContradiction fun h4 => h (List.le_antisymm h4 h2)
theorem mem_ins {f g : Fil} : ∀ {l : List Fil}, g ∈ ins f l → g = f ∨ g ∈ l
  | [], h => by simpa [ins] using h
  | x :: l, h => by
    unfold ins at h
    split at h
    · rcases List.mem_cons.1 h with h | h
      · exact .inl h
      · exact .inr (List.mem_cons_of_mem _ h)
    · split at h
      · rcases List.mem_cons.1 h with h | h
        · exact .inl h
        · exact .inr h
      · rcases List.mem_cons.1 h with h | h
        · exact .inr (by rw [h]; exact List.mem_cons_self ..)
        · rcases mem_ins h with h | h
          · exact .inl h
          · exact .inr (List.mem_cons_of_mem _ h)
theorem rising_ins {f : Fil} : ∀ {l : List Fil}, Rising l → Rising (ins f l)
  | [], _ => by unfold ins; exact List.pairwise_singleton _ _
  | x :: l, h => by
    obtain ⟨h1, h2⟩ := List.pairwise_cons.1 h
    unfold ins
    split
    · rename_i e
      exact List.pairwise_cons.2 ⟨fun g hg => by rw [e]; exact h1 g hg, h2⟩
    · split
      · rename_i e e2
        refine List.pairwise_cons.2 ⟨fun g hg => ?_, h⟩
        rcases List.mem_cons.1 hg with rfl | hg
        · exact e2
        · exact lt_tr e2 (h1 g hg)
      · rename_i e e2
        refine List.pairwise_cons.2 ⟨fun g hg => ?_, rising_ins h2⟩
        rcases mem_ins hg with rfl | hg
        · exact lt_or e e2
        · exact h1 g hg
theorem rising_del {s : List UInt8} {l : List Fil} (h : Rising l) : Rising (del s l) := List.Pairwise.filter _ h
theorem look_mem {l : List Fil} {s : List UInt8} {f : Fil} (h : look l s = some f) : f ∈ l ∧ f.name = s := ⟨List.mem_of_find?_eq_some h, by simpa using List.find?_some h⟩
theorem look_none {l : List Fil} {s : List UInt8} (h : look l s = none) : ∀ f ∈ l, f.name ≠ s := fun f hf => by simpa using List.find?_eq_none.1 h f hf
theorem look_of_mem : ∀ {l : List Fil}, Rising l → ∀ {f : Fil}, f ∈ l → look l f.name = some f
  | x :: l, h, f, hf => by
    obtain ⟨h1, h2⟩ := List.pairwise_cons.1 h
    unfold look
    rcases List.mem_cons.1 hf with rfl | hf
    · simp
    · have : x.name ≠ f.name := fun e => lt_irr _ (e ▸ h1 f hf)
      rw [List.find?_cons_of_neg (by simpa using this)]
      exact look_of_mem h2 hf
theorem used_le {l : List Fil} {f : Fil} : f ∈ l → f.bytes.length ≤ used l := fun h => by
  unfold used
  induction l with
  | nil => cases h
  | cons x l ih =>
    simp only [List.map_cons, List.sum_cons]
    rcases List.mem_cons.1 h with rfl | h
    · omega
    · have := ih h; omega
/-- Another file in the place of one of its name. -/
def swap (s : List UInt8) (f : Fil) (l : List Fil) : List Fil := l.map fun g => if g.name = s then f else g
theorem ins_swap {f : Fil} : ∀ {l : List Fil}, Rising l → (∃ g ∈ l, g.name = f.name) → ins f l = swap f.name f l
  | [], _, ⟨g, hg, _⟩ => by cases hg
  | x :: l, h, ⟨g, hg, hgn⟩ => by
    obtain ⟨h1, h2⟩ := List.pairwise_cons.1 h
    have rest : (∀ y ∈ l, y.name ≠ f.name) → l.map (fun g => if g.name = f.name then f else g) = l := fun hn => by
      rw [List.map_congr_left (g := id) (fun y hy => by rw [if_neg (hn y hy)]; rfl), List.map_id]
    unfold ins swap
    by_cases e : f.name = x.name
    · rw [if_pos e, List.map_cons, if_pos e.symm, rest (fun y hy e2 => lt_irr x.name (by have := h1 y hy; rw [e2, e] at this; exact this))]
    · have hg2 : g ∈ l := by
        rcases List.mem_cons.1 hg with rfl | hg
        · exact absurd hgn.symm e
        · exact hg
      have hlt : ¬ f.name < x.name := fun h3 => lt_irr f.name (lt_tr h3 (by have := h1 g hg2; rwa [hgn] at this))
      rw [if_neg e, if_neg hlt, List.map_cons, if_neg (fun h => e h.symm), ins_swap h2 ⟨g, hg2, hgn⟩]
      rfl
theorem length_swap (s : List UInt8) (f : Fil) (l : List Fil) : (swap s f l).length = l.length := by unfold swap; simp
end Go.Sto
