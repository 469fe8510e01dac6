/- Package queue: where the map says that each timer is. -/
import Derived.Test.YtkdfkhebjhnbmaaQueE
import Derived.Test.YtkdfkhebjhnbmaaMapE
set_option linter.unusedSimpArgs false
set_option linter.unusedVariables false
namespace Go.Proofs.Ytkdfkhebjhnbmaa
open Go.ChangeShapes Go.WideShapes Go.ChangeAt Go.RowKit Go.Base Go.Que

/-- The map says of each timer's Id where it is. -/
structure Plc (D : DataW Unit) (n : Nat) (f : Nat → Tm) : Prop where
  tidy : Maps.Tidy D
  has : ∀ id : Int, Maps.has D (.int .i64 id) = true ↔ ∃ k, k < n ∧ (f k).id = id
  at_ : ∀ k, k < n → ∀ z, D.atKey (.int .i64 (f k).id) z = .lit (.int .i64 (k : Int))
  size : Maps.size D = n
  once : Once n f
theorem lit_ne {a b : Int} (h : a ≠ b) : Lit.int .i64 a ≠ Lit.int .i64 b := fun e => by injection e with _ e; exact h e
abbrev kv (x : Int) : Lit := .int .i64 x
abbrev dv (x : Nat) : DataW Unit := .lit (.int .i64 (x : Int))
section
variable {D : DataW Unit} {n : Nat} {f : Nat → Tm}
theorem Plc.mem (h : Plc D n f) {k : Nat} (hk : k < n) : Maps.has D (.int .i64 (f k).id) = true := (h.has _).2 ⟨k, hk, rfl⟩
theorem plc_swap (h : Plc D n f) {i j : Nat} (hi : i < n) (hj : j < n) : Plc ((D.put (kv (f j).id) (dv i)).put (kv (f i).id) (dv j)) n (swp f i j) := by
  have ho : Once n (swp f i j) := once_swp hi hj h.once
  have hT1 : Maps.Tidy (D.put (kv (f j).id) (dv i)) := h.tidy.put (by trivial) _
  have hs := same_swp f hi hj
  refine ⟨hT1.put (by trivial) _, fun id => ?_, fun k hk z => ?_, ?_, ho⟩
  · have h2 : (∃ k, k < n ∧ (swp f i j k).id = id) ↔ ∃ k, k < n ∧ (f k).id = id := by
      constructor
      · rintro ⟨k, hk, e⟩
        obtain ⟨m, hm, e2⟩ := (hs (swp f i j k)).2 ⟨k, hk, rfl⟩
        exact ⟨m, hm, by rw [e2]; exact e⟩
      · rintro ⟨k, hk, e⟩
        obtain ⟨m, hm, e2⟩ := (hs (f k)).1 ⟨k, hk, rfl⟩
        exact ⟨m, hm, by rw [e2]; exact e⟩
    rw [h2, ← h.has id]
    by_cases e1 : id = (f i).id
    · subst e1
      rw [show Lit.int .i64 (f i).id = kv (f i).id from rfl, Maps.has_put_same hT1.isMap (by trivial)]
      exact iff_of_true rfl (h.mem hi)
    · rw [Maps.has_put_other (lit_ne e1)]
      by_cases e2 : id = (f j).id
      · subst e2
        rw [show Lit.int .i64 (f j).id = kv (f j).id from rfl, Maps.has_put_same h.tidy.isMap (by trivial)]
        exact iff_of_true rfl (h.mem hj)
      · rw [Maps.has_put_other (lit_ne e2)]
  · by_cases e1 : k = j
    · subst e1
      rw [swp_r]
      exact Maps.atKey_put_same hT1.isMap (by trivial) _ _
    · have n1 : (swp f i j k).id ≠ (f i).id := fun e => e1 (ho k j hk hj (by rw [e, swp_r]))
      rw [Maps.atKey_put_other (lit_ne n1)]
      by_cases e2 : k = i
      · subst e2
        rw [swp_l]
        exact Maps.atKey_put_same h.tidy.isMap (by trivial) _ _
      · have n2 : (swp f i j k).id ≠ (f j).id := fun e => e2 (ho k i hk hi (by rw [e, swp_l]))
        rw [Maps.atKey_put_other (lit_ne n2), swp_o f e2 e1]
        exact h.at_ k hk z
  · rw [Maps.size_put hT1, Maps.size_put h.tidy]
    have h1 := h.mem hj
    have h2 : Maps.has (D.put (kv (f j).id) (dv i)) (kv (f i).id) = true := by
      by_cases e : (f i).id = (f j).id
      · rw [e]; exact Maps.has_put_same h.tidy.isMap (by trivial) _
      · exact (Maps.has_put_other (lit_ne e) _).trans (h.mem hi)
    rw [if_pos h2, if_pos (show Maps.has D (kv (f j).id) = true from h1)]
    exact h.size
theorem plc_push (h : Plc D n f) (t : Tm) (ht : Maps.has D (.int .i64 t.id) = false) : Plc (D.put (kv t.id) (dv n)) (n + 1) (snoc n f t) := by
  have hne : ∀ k, k < n → (f k).id ≠ t.id := fun k hk e => by
    have := h.mem hk
    rw [e, ht] at this; cases this
  refine ⟨h.tidy.put (by trivial) _, fun id => ?_, fun k hk z => ?_, ?_, once_snoc h.once hne⟩
  · by_cases e : id = t.id
    · subst e
      rw [show Lit.int .i64 t.id = kv t.id from rfl, Maps.has_put_same h.tidy.isMap (by trivial)]
      exact iff_of_true rfl ⟨n, by omega, by rw [snoc_at]⟩
    · rw [Maps.has_put_other (lit_ne e), h.has id]
      constructor
      · rintro ⟨k, hk, e2⟩
        exact ⟨k, by omega, by rw [snoc_o f t (by omega)]; exact e2⟩
      · rintro ⟨k, hk, e2⟩
        by_cases e3 : k = n
        · subst e3; rw [snoc_at] at e2; exact absurd e2.symm e
        · rw [snoc_o f t e3] at e2; exact ⟨k, by omega, e2⟩
  · by_cases e3 : k = n
    · subst e3
      rw [snoc_at]
      exact Maps.atKey_put_same h.tidy.isMap (by trivial) _ _
    · rw [snoc_o f t e3, Maps.atKey_put_other (lit_ne (hne k (by omega)))]
      exact h.at_ k (by omega) z
  · rw [Maps.size_put h.tidy, if_neg (by rw [show kv t.id = Lit.int .i64 t.id from rfl, ht]; simp), h.size]
theorem plc_pop {m : Nat} (h : Plc D (m + 1) f) : Plc (D.del (kv (f m).id)) m f := by
  refine ⟨h.tidy.del _, fun id => ?_, fun k hk z => ?_, ?_, fun i j hi hj e => h.once i j (by omega) (by omega) e⟩
  · by_cases e : id = (f m).id
    · subst e
      rw [show Lit.int .i64 (f m).id = kv (f m).id from rfl, Maps.has_del_same]
      refine iff_of_false (by simp) ?_
      rintro ⟨k, hk, e2⟩
      have := h.once k m (by omega) (by omega) e2
      omega
    · rw [Maps.has_del_other (lit_ne e), h.has id]
      constructor
      · rintro ⟨k, hk, e2⟩
        by_cases e3 : k = m
        · subst e3; exact absurd e2.symm e
        · exact ⟨k, by omega, e2⟩
      · rintro ⟨k, hk, e2⟩
        exact ⟨k, by omega, e2⟩
  · have hne : (f k).id ≠ (f m).id := fun e => by have := h.once k m (by omega) (by omega) e; omega
    rw [Maps.atKey_del_other (lit_ne hne)]
    exact h.at_ k (by omega) z
  · have h1 := Maps.size_del (k := kv (f m).id) h.tidy
    rw [if_pos (show Maps.has D (kv (f m).id) = true from h.mem (by omega)), h.size] at h1
    omega
end
/-- A queue: its own cells behind the row's. -/
def qR (mb : Nat) (turns : Int) : Rest := ⟨[.map (some mb), .int .i64 turns], 78⟩
def tfit (t : Tm) : Prop := (-9223372036854775808 ≤ t.at_ ∧ t.at_ ≤ 9223372036854775807) ∧ (-9223372036854775808 ≤ t.id ∧ t.id ≤ 9223372036854775807) ∧ (-9223372036854775808 ≤ t.turn ∧ t.turn ≤ 9223372036854775807)
structure QueX (w : World) (F : Nat → Prop) (q : Nat) (A : Option Addr) (c mb : Nat) (D : DataW Unit) (f : Nat → Tm) (n : Nat) (turns : Int) : Prop where
  row : RowX w q (qR mb turns) A n c f
  map : w.ownsMap Try.prog 3 (plainElem Try.prog 3) mb (Maps.size D) D
  plc : Plc D n f
  fit : ∀ k, k < n → tfit (f k)
  inF : F q ∧ F mb ∧ ∀ k, (Value.slice A n c).ownBlock = some k → F k
/-- Block q is a queue of the timers f 0 .. f (n - 1), as they lie in the heap; F holds of all its blocks. -/
def Que (w : World) (F : Nat → Prop) (q : Nat) (f : Nat → Tm) (n : Nat) (turns : Int) : Prop := ∃ A c mb D, QueX w F q A c mb D f n turns
section
variable {w w' : World} {F G : Nat → Prop} {q c mb n : Nat} {A : Option Addr} {D : DataW Unit} {f : Nat → Tm} {turns : Int}
theorem QueX.cells (h : QueX w F q A c mb D f n turns) : w.cell? ⟨q, 0, none⟩ = some (.slice A n c) ∧ w.cell? ⟨q, 1, none⟩ = some (.map (some mb)) ∧ w.cell? ⟨q, 2, none⟩ = some (.int .i64 turns) :=
  ⟨cell_of_row w q 0 _ _ _ h.row.self, cell_of_row w q 1 _ _ _ h.row.self, cell_of_row w q 2 _ _ _ h.row.self⟩
theorem QueX.map_lies (h : QueX w F q A c mb D f n turns) : ∃ es clock, w.heap[mb]? = some (.map es clock) := by
  obtain ⟨es, clock, hb, _⟩ := h.map
  exact ⟨es, clock, hb⟩
theorem map_ne {k : Nat} {cs : Array Value} {t : TypeId} {z : Nat × Nat} {R : Value → Option (DataW Unit × List MemPlace)} {m : Nat} (h : w.ownsMap Try.prog 3 R mb m D) (hk : w.heap[k]? = some (.cells cs t z)) : k ≠ mb := by
  obtain ⟨es, clock, hb, _⟩ := h
  rintro rfl
  rw [hk] at hb; cases hb
theorem map_apart {v : Value} {s m b : Nat} {e : TypeId} {xs : List Value} {R : Value → Option (DataW Unit × List MemPlace)} {nn : Nat} (h : w.ownsMap Try.prog 3 R mb nn D) (ho : w.ownsRow b e s v m xs) : ∀ k, v.ownBlock = some k → k ≠ mb := fun k hk => by
  rcases ho.2 with ⟨rfl, _⟩ | ⟨g, cap, cur, rfl, _, hg, _⟩
  · cases hk
  · have : g = k := Option.some.inj hk
    subst this
    exact map_ne h hg
theorem QueX.wide (h : QueX w F q A c mb D f n turns) (hG : ∀ k, F k → G k) : QueX w G q A c mb D f n turns := { h with inF := ⟨hG _ h.inF.1, hG _ h.inF.2.1, fun k hk => hG _ (h.inF.2.2 k hk)⟩ }
theorem QueX.kept {p : Nat → Prop} (h : QueX w F q A c mb D f n turns) (hm : Moved p w w') (hn : ∀ k, F k → ¬ p k) : QueX w' F q A c mb D f n turns :=
  { h with row := h.row.moved hm (hn _ h.inF.1) (fun k hk => hn _ (h.inF.2.2 k hk)), map := own_map_moved h.map hm (hn _ h.inF.2.1) }
theorem QueX.later (h : QueX w F q A c mb D f n turns) (hb : Below w.heap.size w w') : QueX w' F q A c mb D f n turns := h.kept (p := fun _ => False) (Below.movedNew hb) (fun _ _ h => h)
end
end Go.Proofs.Ytkdfkhebjhnbmaa
