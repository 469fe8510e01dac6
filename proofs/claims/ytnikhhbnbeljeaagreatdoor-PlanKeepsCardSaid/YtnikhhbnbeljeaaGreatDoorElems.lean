/- A row of the call's own whose elements have m cells each, filled one behind the other. -/
import Derived.Test.YtnikhhbnbeljeaaGreatDoorBase
import Derived.Test.YtnikhhbnbeljeaaGreatDoorMoved
import Derived.Deep.MidRow
import Derived.OwnWalk
set_option linter.unusedSimpArgs false
set_option linter.unusedVariables false
namespace Go.Proofs.YtnikhhbnbeljeaaGreatDoor
open Go.ChangeShapes Go.WideShapes Go.ChangeAt Go.RowKit Go.Base

/-- Block g is a row of n elements of m cells; the first k of them are f's. -/
structure Elems (m : Nat) (t : TypeId) (w : World) (g n k : Nat) (f : Nat → List Value) : Prop where
  row : ∃ cur : Array Value, w.heap[g]? = some (.cells cur t (0, 0)) ∧ cur.size = n * m
  el : ∀ i, i < k → w.rangeAt g (i * m) (f i)
  le : k ≤ n
  len : ∀ i, i < k → (f i).length = m
theorem Elems.lt {m : Nat} {t : TypeId} {w : World} {g n k : Nat} {f : Nat → List Value} (h : Elems m t w g n k f) : g < w.heap.size := by
  obtain ⟨cur, hc, _⟩ := h.row
  exact heap_lt hc
theorem Elems.of_block {m : Nat} {t : TypeId} {w w' : World} {g n k : Nat} {f : Nat → List Value} (h : Elems m t w g n k f) (hb : w'.heap[g]? = w.heap[g]?) : Elems m t w' g n k f :=
  ⟨by rw [hb]; exact h.row, fun i hi j v hv => by rw [World.cell?_of_block (w := w) (a := ⟨g, i * m + j, none⟩) hb]; exact h.el i hi j v hv, h.le, h.len⟩
theorem Elems.later {m : Nat} {t : TypeId} {w w' : World} {g n k : Nat} {f : Nat → List Value} (h : Elems m t w g n k f) (hb : Below w.heap.size w w') : Elems m t w' g n k f :=
  h.of_block (hb.block g h.lt)
theorem Elems.there {m : Nat} {t : TypeId} {w : World} {g n k : Nat} {f : Nat → List Value} (h : Elems m t w g n k f) {i : Nat} (hi : i < n) : w.there g (i * m) m := fun j hj => by
  obtain ⟨cur, hc, hs⟩ := h.row
  obtain ⟨h1, h2⟩ := cells_of_heap hc
  have hlt : i * m + j < cur.size := by
    rw [hs]
    have : (i + 1) * m ≤ n * m := Nat.mul_le_mul_right _ hi
    rw [Nat.add_mul] at this; omega
  exact ⟨by rw [h1, Array.getElem?_eq_getElem hlt]; rfl, h2 _⟩
theorem setCells_block (b : Nat) : ∀ (vs : List Value) (o : Nat) (w : World) (k : Nat), k ≠ b → (w.setCells b o vs).heap[k]? = w.heap[k]?
  | [], _, _, _, _ => rfl
  | v :: vs, o, w, k, h => by
    show ((w.setCell ⟨b, o, none⟩ v).setCells b (o + 1) vs).heap[k]? = _
    rw [setCells_block b vs (o + 1) _ k h]
    exact Below.heap_setCell w ⟨b, o, none⟩ v k h
theorem setCells_moved (b : Nat) : ∀ (vs : List Value) (o : Nat) (w : World), Moved (fun k => k = b) w (w.setCells b o vs)
  | [], _, w => Moved.refl _ w
  | v :: vs, o, w => ((Moved.refl (fun k => k = b) w).setCell (i := o) (g := b) (.inr rfl) v).trans (setCells_moved b vs (o + 1) (w.setCell ⟨b, o, none⟩ v)) (fun _ _ h => h)
theorem setCells_size (b : Nat) : ∀ (vs : List Value) (o : Nat) (w : World), (w.setCells b o vs).heap.size = w.heap.size
  | [], _, _ => rfl
  | v :: vs, o, w => by
    show ((w.setCell ⟨b, o, none⟩ v).setCells b (o + 1) vs).heap.size = _
    rw [setCells_size b vs (o + 1)]; simp
theorem setCells_row (b : Nat) (t : TypeId) : ∀ (vs : List Value) (o : Nat) (w : World) (cur : Array Value), w.heap[b]? = some (.cells cur t (0, 0)) → ∃ cur2 : Array Value, (w.setCells b o vs).heap[b]? = some (.cells cur2 t (0, 0)) ∧ cur2.size = cur.size
  | [], _, _, cur, h => ⟨cur, h, rfl⟩
  | v :: vs, o, w, cur, h => by
    obtain ⟨c2, h2, e2⟩ := setCells_row b t vs (o + 1) (w.setCell ⟨b, o, none⟩ v) _ (heap_set h o v)
    exact ⟨c2, h2, by rw [e2]; simp⟩
theorem Elems.store {m : Nat} {t : TypeId} {w : World} {g n k : Nat} {f : Nat → List Value} (h : Elems m t w g n k f) (hk : k < n) (vs : List Value) (hv : vs.length = m) :
    Elems m t (w.setCells g (k * m) vs) g n (k + 1) (fun i => if i = k then vs else f i) := by
  obtain ⟨cur, hc, hs⟩ := h.row
  obtain ⟨c2, h2, e2⟩ := setCells_row g t vs (k * m) w cur hc
  refine ⟨⟨c2, h2, by rw [e2, hs]⟩, fun i hi => ?_, hk, fun i hi => ?_⟩
  · by_cases e : i = k
    · subst e
      rw [if_pos rfl]
      exact World.rangeAt_setCells_same w g (i * m) vs (by rw [hv]; exact h.there hk)
    · rw [if_neg e]
      have hi' : i < k := by omega
      have hmul : (i + 1) * m ≤ k * m := Nat.mul_le_mul_right _ hi'
      rw [Nat.add_mul, Nat.one_mul] at hmul
      intro j v hj
      have hjm : j < m := by rw [← h.len i hi']; exact (List.getElem?_eq_some_iff.1 hj).1
      rw [World.cell?_setCells_out g vs (k * m) w _ (fun _ _ => .inl (show i * m + j < k * m by omega))]
      exact h.el i hi' j v hj
  · by_cases e : i = k
    · rw [if_pos e, hv]
    · rw [if_neg e]; exact h.len i (by omega)
theorem Elems.congr {m : Nat} {t : TypeId} {w : World} {g n k : Nat} {f f2 : Nat → List Value} (h : Elems m t w g n k f) (he : ∀ i, i < k → f i = f2 i) : Elems m t w g n k f2 :=
  ⟨h.row, fun i hi => he i hi ▸ h.el i hi, h.le, fun i hi => he i hi ▸ h.len i hi⟩
theorem Elems.put {m : Nat} {t : TypeId} {w : World} {g n k : Nat} {f : Nat → List Value} (h : Elems m t w g n k f) (hk : k < n) (vs : List Value) (hv : vs.length = m) (hf : f k = vs) :
    Elems m t (w.setCells g (k * m) vs) g n (k + 1) f :=
  (h.store hk vs hv).congr (fun i hi => by
    by_cases e : i = k
    · subst e; rw [if_pos rfl, hf]
    · rw [if_neg e])
/-- A struct is stored into the next place of a row of the call's own. -/
theorem wpList_store_elem {P : Program} {ops : Array Oper} {rest : List Oper} {o : Oper} {a : Act} {w : World} {Q : Exit → Act → World → Prop} (hgd : o.guard = none) (ty : TypeId) (x y : Operand) (ho : o.op = .store ty x y)
    {m : Nat} {t : TypeId} {g n k : Nat} {f : Nat → List Value} (h : Elems m t w g n k f) (hk : k < n) (off : Nat) (hoff : off = k * m) (cells : Array Value)
    (hx : a.eval x = .pointer (some ⟨g, off, none⟩)) (hy : a.eval y = .agg cells) (hsz : cells.size = m) (hi : (P.info? ty).map (·.size) = some cells.size) (h1 : cells.toList.all (·.oneCell') = true) (hf : f k = cells.toList)
    (hK : ∀ w2 : World, Elems m t w2 g n (k + 1) f → Moved (fun j => j = g) w w2 → w2.heap.size = w.heap.size → wpList P ops Q rest (a.put o.dst undef) w2) :
    wpList P ops Q (o :: rest) a w := by
  subst hoff
  exact wpList_store_mid hgd ty x y ho g (k * m) cells hx hy (by rw [hsz]; exact h.there hk) hi (by rw [← Array.all_toList]; exact h1)
    (hK _ (h.put hk cells.toList (by simpa using hsz) hf) (setCells_moved g _ _ w) (setCells_size g _ _ w))
theorem Elems.of_own {m : Nat} {t : TypeId} {w : World} {base g n : Nat} {xs : List Value} (f : Nat → List Value) (h : w.ownsRow base t m (.slice (some ⟨g, 0, none⟩) n n) n xs) : Elems m t w g n 0 f := by
  rcases h.2 with ⟨hbad, _⟩ | ⟨g', cap, cur, hv, hgb, hheap, hnc, hcm, hcs, _⟩
  · cases hbad
  · injection hv with hv _ hc
    injection hv with hv
    injection hv with hv _ _
    subst hv; subst hc
    exact ⟨⟨cur, hheap, hcs⟩, fun i hi => by omega, Nat.zero_le _, fun i hi => by omega⟩
end Go.Proofs.YtnikhhbnbeljeaaGreatDoor
