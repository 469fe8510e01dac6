/- Walk of package cron: a field. -/
import Derived.Test.YtbbleedepmcdfaaDoorCroH
import Derived.Test.YtbbleedepmcdfaaDoorCroI
set_option linter.unusedSimpArgs false
set_option linter.unusedVariables false
namespace Go.Proofs.YtbbleedepmcdfaaDoor
open Go.ChangeShapes Go.WideShapes Go.ChangeAt Go.RowKit Go.Base Go.Cro Go.Shelf
attribute [local go_sem] Oper.semAt_some

theorem fieldFrom_append (rd : Bytes → Option Int) (s : Sc) : ∀ (a r : List Bytes) (b : Int) (st : Bool), fieldFrom rd s (a ++ r) b st = match fieldFrom rd s a b st with
    | .error e => .error e
    | .ok m => fieldFrom rd s r m.1 m.2
  | [], r, b, st => rfl
  | x :: a, r, b, st => by
    simp only [List.cons_append, fieldFrom]
    cases itemB rd x with
    | none => rfl
    | some it =>
      simp only
      split
      · exact fieldFrom_append rd s a r _ _
      · rfl
theorem row_kept {W W' : World} {row : Option Nat} {k : Nat} {cs : Array Value} {t : TypeId} {fr : Nat × Nat} (h : W.heap[k]? = some (.cells cs t fr)) (hg : W.grownBy W' row)
    (hr : ∀ r, row = some r → ∃ o : Obj, W.heap[r]? = some o ∧ o.isCells = false) : W'.heap[k]? = some (.cells cs t fr) :=
  (hg.block k (Array.getElem?_eq_some_iff.1 h).1 (fun e => by obtain ⟨o, ho, hc⟩ := hr k e.symm; rw [h] at ho; cases ho; cases hc)).trans h
theorem row_set {w : World} {g i : Nat} {cs : Array Value} {t : TypeId} {fr : Nat × Nat} (v : Value) (h : w.heap[g]? = some (.cells cs t fr)) : (w.setCell ⟨g, i, none⟩ v).heap[g]? = some (.cells (cs.setIfInBounds i v) t fr) := by
  rw [setCell_eq_setRow w g i cs t fr v h]; exact setRow_heap w g cs _ t fr h
theorem row_other {w : World} {g k i : Nat} {x : Obj} (v : Value) (hk : k ≠ g) (h : w.heap[k]? = some x) : (w.setCell ⟨g, i, none⟩ v).heap[k]? = some x := (Below.heap_setCell w ⟨g, i, none⟩ v k hk).trans h
theorem row_below {w w' : World} {B k : Nat} {x : Obj} (hb : Below B w w') (hk : k < B) (h : w.heap[k]? = some x) : w'.heap[k]? = some x := (hb.block k hk).trans h
theorem heap_at {w : World} {n : Nat} (o : Obj) (h : n = w.heap.size) : (w.alloc o).heap[n]? = some o := by subst h; exact heap_new w o

theorem cells_alloc {W : World} {g : Nat} {cs : Array Value} {t : TypeId} (h : W.heap[g]? = some (.cells cs t (0, 0))) : (∀ o i, (W.alloc o).cell? ⟨g, i, none⟩ = cs[i]?) ∧ (∀ o i, (W.alloc o).frozen? ⟨g, i, none⟩ = false) :=
  ⟨fun o i => (cells_of_heap (heap_old o (Array.getElem?_eq_some_iff.1 h).1 h)).1 i, fun o i => (cells_of_heap (heap_old o (Array.getElem?_eq_some_iff.1 h).1 h)).2 i⟩

/-- The world in which the range over a field's items begins. -/
def pfW (w : World) (least most said : Int) (rv : Value) (s : ByteArray) : World :=
  ((((((w.alloc (.cells #[.int .i64 least, .int .i64 most, .int .i64 said] 56)).alloc (.cells #[rv] 46)).alloc (.cells #[.int .u64 0, .bool false] 43)).alloc (.cells #[.int .i64 0] 25)).alloc
    (.cells #[.int .u64 0, .bool false] 43)).alloc (.cells #[.string s] 9)).alloc (.cells #[.func (.func 40) #[] #[]] 52)
section
variable (w : World) (least most said : Int) (rv : Value) (s : ByteArray)
theorem pf_size : (pfW w least most said rv s).heap.size = w.heap.size + 7 := by simp [pfW]
theorem pf_below : Below w.heap.size w (pfW w least most said rv s) := by
  unfold pfW
  exact ((((((below_alloc _ _).alloc (by simp) _).alloc (by simp <;> omega) _).alloc (by simp <;> omega) _).alloc (by simp <;> omega) _).alloc (by simp <;> omega) _).alloc (by simp <;> omega) _
theorem pf_r0 : (pfW w least most said rv s).heap[w.heap.size]? = some (.cells #[.int .i64 least, .int .i64 most, .int .i64 said] 56 (0, 0)) := by
  unfold pfW
  iterate 6 (refine heap_old _ (by simp <;> omega) ?_)
  exact heap_at _ (by simp)
theorem pf_r1 : (pfW w least most said rv s).heap[w.heap.size + 1]? = some (.cells #[rv] 46 (0, 0)) := by
  unfold pfW
  iterate 5 (refine heap_old _ (by simp <;> omega) ?_)
  exact heap_at _ (by simp)
theorem pf_r2 : (pfW w least most said rv s).heap[w.heap.size + 1 + 1]? = some (.cells #[.int .u64 0, .bool false] 43 (0, 0)) := by
  unfold pfW
  iterate 4 (refine heap_old _ (by simp <;> omega) ?_)
  exact heap_at _ (by simp)
theorem pf_r3 : (pfW w least most said rv s).heap[w.heap.size + 1 + 1 + 1]? = some (.cells #[.int .i64 0] 25 (0, 0)) := by
  unfold pfW
  iterate 3 (refine heap_old _ (by simp <;> omega) ?_)
  exact heap_at _ (by simp)
theorem pf_r4 : (pfW w least most said rv s).heap[w.heap.size + 1 + 1 + 1 + 1]? = some (.cells #[.int .u64 0, .bool false] 43 (0, 0)) := by
  unfold pfW
  iterate 2 (refine heap_old _ (by simp <;> omega) ?_)
  exact heap_at _ (by simp)
theorem pf_r5 : (pfW w least most said rv s).heap[w.heap.size + 1 + 1 + 1 + 1 + 1]? = some (.cells #[.string s] 9 (0, 0)) := by
  unfold pfW
  iterate 1 (refine heap_old _ (by simp <;> omega) ?_)
  exact heap_at _ (by simp)
theorem pf_r6 : (pfW w least most said rv s).heap[w.heap.size + 1 + 1 + 1 + 1 + 1 + 1]? = some (.cells #[.func (.func 40) #[] #[]] 52 (0, 0)) := by
  unfold pfW
  exact heap_at _ (by simp)
end

/-- Between two items: what lies in the call's own blocks. -/
structure PfI (w : World) (k : Nat) (least most said : Int) (rv : Value) (pre : List Part) (W : World) : Prop where
  r0 : W.heap[w.heap.size]? = some (.cells #[.int .i64 least, .int .i64 most, .int .i64 said] 56 (0, 0))
  r1 : W.heap[w.heap.size + 1]? = some (.cells #[rv] 46 (0, 0))
  r2 : W.heap[w.heap.size + 1 + 1]? = some (.cells #[.int .u64 0, .bool false] 43 (0, 0))
  r3 : W.heap[w.heap.size + 1 + 1 + 1]? = some (.cells #[.int .i64 0] 25 (0, 0))
  r4 : ∃ b st, fieldFrom (rdB k) (scB k) (pre.map (·.1)) 0 false = .ok (b, st) ∧ W.heap[w.heap.size + 1 + 1 + 1 + 1]? = some (.cells #[.int .u64 b, .bool st] 43 (0, 0))
  big : w.heap.size + 7 ≤ W.heap.size
/-- An item is at fault. -/
structure PfX (w : World) (k : Nat) (c : Code) (pre : List Part) (W : World) : Prop where
  ret : c = .ret
  bad : ∃ e', fieldFrom (rdB k) (scB k) (pre.map (·.1)) 0 false = .error e' ∧ W.heap[w.heap.size + 1 + 1]? = some (.cells #[.int .u64 0, .bool false] 43 (0, 0)) ∧
    W.heap[w.heap.size + 1 + 1 + 1]? = some (.cells #[.int .i64 e'] 25 (0, 0))
theorem pfI_own (w : World) (k : Nat) (least most said : Int) (rv : Value) : Own (PfI w k least most said rv) := fun s A B row hs hg hr => by
  obtain ⟨r0, r1, r2, r3, ⟨b, st, h, r4⟩, hbig⟩ := hs
  exact ⟨row_kept r0 hg hr, row_kept r1 hg hr, row_kept r2 hg hr, row_kept r3 hg hr, ⟨b, st, h, row_kept r4 hg hr⟩, Nat.le_trans hbig hg.size⟩
theorem pfX_own (w : World) (k : Nat) (c : Code) : Own (PfX w k c) := fun s A B row hs hg hr => by
  obtain ⟨rfl, ⟨e', h, r2, r3⟩⟩ := hs
  exact ⟨rfl, ⟨e', h, row_kept r2 hg hr, row_kept r3 hg hr⟩⟩

theorem keepsOthers_below {W W' : World} (h : Below W.heap.size W W') : KeepsOthers W W' := ⟨h.size, fun k o hk _ => (h.block k (Array.getElem?_eq_some_iff.1 hk).1).trans hk⟩

theorem pfI_rows {w : World} {k : Nat} {xs : List Part} {W V : World} {e' : Int} (hbig : w.heap.size + 7 ≤ W.heap.size) (hB : Below w.heap.size w W) (hb : Below W.heap.size W V)
    (R2 : W.heap[w.heap.size + 1 + 1]? = some (.cells #[.int .u64 0, .bool false] 43 (0, 0))) (R3 : W.heap[w.heap.size + 1 + 1 + 1]? = some (.cells #[.int .i64 0] 25 (0, 0)))
    (hf : fieldFrom (rdB k) (scB k) (xs.map (·.1)) 0 false = .error e') :
    KeepsOthers W (((V.setCell ⟨w.heap.size + 1 + 1, 0, none⟩ (.int .u64 0)).setCell ⟨w.heap.size + 1 + 1, 1, none⟩ (.bool false)).setCell ⟨w.heap.size + 1 + 1 + 1, 0, none⟩ (.int .i64 e')) ∧
    PfX w k .ret xs (((V.setCell ⟨w.heap.size + 1 + 1, 0, none⟩ (.int .u64 0)).setCell ⟨w.heap.size + 1 + 1, 1, none⟩ (.bool false)).setCell ⟨w.heap.size + 1 + 1 + 1, 0, none⟩ (.int .i64 e')) ∧
    Below w.heap.size w (((V.setCell ⟨w.heap.size + 1 + 1, 0, none⟩ (.int .u64 0)).setCell ⟨w.heap.size + 1 + 1, 1, none⟩ (.bool false)).setCell ⟨w.heap.size + 1 + 1 + 1, 0, none⟩ (.int .i64 e')) := by
  have v2 := row_below hb (by omega) R2
  have v3 := row_below hb (by omega) R3
  refine ⟨(((keepsOthers_below hb).trans (KeepsOthers.setCell _ _ _)).trans (KeepsOthers.setCell _ _ _)).trans (KeepsOthers.setCell _ _ _), ⟨rfl, e', hf, ?_, ?_⟩, ?_⟩
  · exact row_other _ (by omega) (row_set (i := 1) (.bool false) (row_set (i := 0) (.int .u64 0) v2))
  · exact row_set (i := 0) (.int .i64 e') (row_other _ (by omega) (row_other _ (by omega) v3))
  · exact (((hB.trans (hb.mono (by omega))).setCell (p := ⟨w.heap.size + 1 + 1, 0, none⟩) (by show w.heap.size ≤ w.heap.size + 1 + 1; omega) _).setCell (p := ⟨w.heap.size + 1 + 1, 1, none⟩) (by show w.heap.size ≤ w.heap.size + 1 + 1; omega) _).setCell (p := ⟨w.heap.size + 1 + 1 + 1, 0, none⟩) (by show w.heap.size ≤ w.heap.size + 1 + 1 + 1; omega) _
theorem pfX_alloc {w : World} {k : Nat} {xs : List Part} {W V : World} (o : Obj) (h : KeepsOthers W V ∧ PfX w k .ret xs V ∧ Below w.heap.size w V) : KeepsOthers W (V.alloc o) ∧ PfX w k .ret xs (V.alloc o) ∧ Below w.heap.size w (V.alloc o) := by
  obtain ⟨h1, ⟨_, e', hf, r2, r3⟩, h3⟩ := h
  exact ⟨h1.trans (KeepsOthers.alloc _ _), ⟨rfl, e', hf, heap_old _ (Array.getElem?_eq_some_iff.1 r2).1 r2, heap_old _ (Array.getElem?_eq_some_iff.1 r3).1 r3⟩, h3.alloc h3.size _⟩
/-- An item's bits are laid to the others. -/
theorem pfI_step {w : World} {k : Nat} {least most said : Int} {rv : Value} {xs : List Part} {W V : World} {b b2 : Int} {st st2 : Bool} (hbig : w.heap.size + 7 ≤ W.heap.size) (hB : Below w.heap.size w W) (hb : Below W.heap.size W V)
    (R0 : W.heap[w.heap.size]? = some (.cells #[.int .i64 least, .int .i64 most, .int .i64 said] 56 (0, 0))) (R1 : W.heap[w.heap.size + 1]? = some (.cells #[rv] 46 (0, 0)))
    (R2 : W.heap[w.heap.size + 1 + 1]? = some (.cells #[.int .u64 0, .bool false] 43 (0, 0))) (R3 : W.heap[w.heap.size + 1 + 1 + 1]? = some (.cells #[.int .i64 0] 25 (0, 0)))
    (R4 : W.heap[w.heap.size + 1 + 1 + 1 + 1]? = some (.cells #[.int .u64 b, .bool st] 43 (0, 0)))
    (hf : fieldFrom (rdB k) (scB k) (xs.map (·.1)) 0 false = .ok (b2, st2)) :
    KeepsOthers W ((V.setCell ⟨w.heap.size + 1 + 1 + 1 + 1, 0, none⟩ (.int .u64 b2)).setCell ⟨w.heap.size + 1 + 1 + 1 + 1, 1, none⟩ (.bool st2)) ∧
    Same2 (w.heap.size + 1 + 1 + 1 + 1 + 1) (w.heap.size + 1 + 1 + 1 + 1 + 1 + 1) W ((V.setCell ⟨w.heap.size + 1 + 1 + 1 + 1, 0, none⟩ (.int .u64 b2)).setCell ⟨w.heap.size + 1 + 1 + 1 + 1, 1, none⟩ (.bool st2)) ∧
    PfI w k least most said rv xs ((V.setCell ⟨w.heap.size + 1 + 1 + 1 + 1, 0, none⟩ (.int .u64 b2)).setCell ⟨w.heap.size + 1 + 1 + 1 + 1, 1, none⟩ (.bool st2)) ∧
    Below w.heap.size w ((V.setCell ⟨w.heap.size + 1 + 1 + 1 + 1, 0, none⟩ (.int .u64 b2)).setCell ⟨w.heap.size + 1 + 1 + 1 + 1, 1, none⟩ (.bool st2)) := by
  have hsz := hb.size
  have v0 := row_below hb (by omega) R0
  have v1 := row_below hb (by omega) R1
  have v2 := row_below hb (by omega) R2
  have v3 := row_below hb (by omega) R3
  have v4 := row_below hb (by omega) R4
  refine ⟨((keepsOthers_below hb).trans (KeepsOthers.setCell _ _ _)).trans (KeepsOthers.setCell _ _ _), ⟨?_, ?_⟩, ⟨?_, ?_, ?_, ?_, ⟨b2, st2, hf, ?_⟩, by simp; omega⟩, ?_⟩
  · rw [Below.heap_setCell _ _ _ _ (by show _ ≠ w.heap.size + 1 + 1 + 1 + 1; omega), Below.heap_setCell _ _ _ _ (by show _ ≠ w.heap.size + 1 + 1 + 1 + 1; omega)]; exact hb.block _ (by omega)
  · rw [Below.heap_setCell _ _ _ _ (by show _ ≠ w.heap.size + 1 + 1 + 1 + 1; omega), Below.heap_setCell _ _ _ _ (by show _ ≠ w.heap.size + 1 + 1 + 1 + 1; omega)]; exact hb.block _ (by omega)
  · exact row_other _ (by omega) (row_other _ (by omega) v0)
  · exact row_other _ (by omega) (row_other _ (by omega) v1)
  · exact row_other _ (by omega) (row_other _ (by omega) v2)
  · exact row_other _ (by omega) (row_other _ (by omega) v3)
  · exact row_set (i := 1) (.bool st2) (row_set (i := 0) (.int .u64 b2) v4)
  · exact ((hB.trans (hb.mono (by omega))).setCell (p := ⟨w.heap.size + 1 + 1 + 1 + 1, 0, none⟩) (by show w.heap.size ≤ w.heap.size + 1 + 1 + 1 + 1; omega) _).setCell (p := ⟨w.heap.size + 1 + 1 + 1 + 1, 1, none⟩) (by show w.heap.size ≤ w.heap.size + 1 + 1 + 1 + 1; omega) _
theorem item_step {rd : Bytes → Option Int} {l : Bytes} {it : It} (h : itemB rd l = some it) : 0 ≤ it.step ∧ it.step ≤ 99 := by
  have hs : ∀ sp s b, 0 ≤ s → s ≤ 99 → spanB rd sp s b = some it → 0 ≤ it.step ∧ it.step ≤ 99 := by
    intro sp s b h0 h1 h
    unfold spanB at h
    split at h
    · cases h; exact ⟨h0, h1⟩
    · split at h
      · cases h
      · split at h
        · obtain ⟨t, _, rfl⟩ := Option.map_eq_some_iff.1 h; exact ⟨h0, h1⟩
        · cases h; exact ⟨h0, h1⟩
  unfold itemB at h
  split at h
  · split at h
    · cases h
    · rename_i s hst
      have : numB (cutB 47 l).2.1 = some s := by unfold stepB at hst; split at hst; cases hst; exact hst
      have := numB_bd this
      exact hs _ _ _ this.1 this.2 h
  · exact hs _ _ _ (by omega) (by omega) h

theorem split_call (s : ByteArray) (f : Nat) (w : World) : Calls Tryd.prog 22 #[.string s, .func (.func f) #[] #[]] w fun e w' => e = .returned (.func (.func 39) #[] #[.pointer (some ⟨w.heap.size, 0, none⟩), .pointer (some ⟨w.heap.size + 1, 0, none⟩)]) ∧ w' = (w.alloc (.cells #[.string s] 9)).alloc (.cells #[.func (.func f) #[] #[]] 52) := by
  go_enter Tryd.func22, Tryd.ntmps22
  go_wp2
  go_ret
  exact ⟨rfl, rfl⟩













/-- What parseField hands back. -/
def FieldPost (k : Nat) (l : Bytes) (e : Ending) : Prop := (∀ e', fieldB k l = .error e' → e = .returned (.tuple #[.agg #[.int .u64 0, .bool false], .int .i64 e'])) ∧
  (∀ m, fieldB k l = .ok m → e = .returned (.tuple #[.agg #[.int .u64 m.1, .bool m.2], .int .i64 0]))

set_option maxRecDepth 100000 in
set_option maxHeartbeats 4000000 in
theorem parseField_n (k : Nat) (l : Bytes) (hl : l.length ≤ maxLen) (w : World) (least most said : Int) (hsc : (⟨least, most, said⟩ : Sc) = scB k) (hr : IsRd w (.func (.func 37) #[] #[]) k) :
    CallsIn Fence.wide 3 Tryd.prog 24 #[.string ⟨l.toArray⟩, .agg #[.int .i64 least, .int .i64 most, .int .i64 said], .func (.func 37) #[] #[]] w fun e W' => FieldPost k l e ∧ Below w.heap.size w W' := by
  have HSC := Lib.hid hsc
  have HR := Lib.hid hr
  have HF : Hid (fieldB k l = fieldFrom (rdB k) (scB k) (splitB commaB l) 0 false) := Lib.hid rfl
  clear hsc hr
  refine callsIn_of_wp_marks Tryd.func24 rfl trivial ?_ rfl
  simp only [Tryd.ntmps24, List.size_toArray, List.length_cons, List.length_nil, Nat.reduceAdd, Nat.reduceSub, Array.replicate_succ, Array.replicate_zero, List.push_toArray, List.append_toArray, List.nil_append, List.cons_append]
  gi_wp2_with (refine ⟨trivial, ?_⟩; gi_at_call 22; refine (callsIn_wide.2 (split_call _ _ _)).mono ?_; rintro e w' ⟨rfl, rfl⟩)
  change Code.wpIn _ _ _ _ _ _ (pfW w least most said (.func (.func 37) #[] #[]) ⟨l.toArray⟩)
  have hz := pf_size w least most said (.func (.func 37) #[] #[]) ⟨l.toArray⟩
  have hb := pf_below w least most said (.func (.func 37) #[] #[]) ⟨l.toArray⟩
  have r0 := pf_r0 w least most said (.func (.func 37) #[] #[]) ⟨l.toArray⟩
  have r1 := pf_r1 w least most said (.func (.func 37) #[] #[]) ⟨l.toArray⟩
  have r2 := pf_r2 w least most said (.func (.func 37) #[] #[]) ⟨l.toArray⟩
  have r3 := pf_r3 w least most said (.func (.func 37) #[] #[]) ⟨l.toArray⟩
  have r4 := pf_r4 w least most said (.func (.func 37) #[] #[]) ⟨l.toArray⟩
  have c5 := (cells_of_heap (pf_r5 w least most said (.func (.func 37) #[] #[]) ⟨l.toArray⟩)).1 0
  have c6 := (cells_of_heap (pf_r6 w least most said (.func (.func 37) #[] #[]) ⟨l.toArray⟩)).1 0
  generalize pfW w least most said (.func (.func 37) #[] #[]) ⟨l.toArray⟩ = W0 at *
  have hsz : (⟨l.toArray⟩ : ByteArray).size ≤ maxLen := by simpa [ByteArray.size] using hl
  have hsplit := split_comma 2 (by omega) ⟨l.toArray⟩ hsz (w.heap.size + 1 + 1 + 1 + 1 + 1) (w.heap.size + 1 + 1 + 1 + 1 + 1 + 1) W0 (by omega) (by omega) c5 c6
  refine wpIn_rangeFunc_ownF rfl (by omega) (gf := 39) (lb := #[.pointer (some ⟨w.heap.size + 1 + 1 + 1 + 1 + 1, 0, none⟩), .pointer (some ⟨w.heap.size + 1 + 1 + 1 + 1 + 1 + 1, 0, none⟩)]) rfl trivial (enters_of Tryd.func39 (by kernel_rfl) rfl)
    hsplit Same2.trans (same2_b (by omega) (by omega)) (Below.refl _ _) (fun _ => rfl)
    (fun pre W => PfI w k least most said (.func (.func 37) #[] #[]) pre W ∧ Below w.heap.size w W)
    (fun c pre W => PfX w k c pre W ∧ Below w.heap.size w W)
    (OwnFrom.and (Own.from (pfI_own w k least most said _) _) (ownFrom_below (Nat.le_refl _) (by omega)))
    (fun c => OwnFrom.and (Own.from (pfX_own w k c) _) (ownFrom_below (Nat.le_refl _) (by omega)))
    ⟨⟨r0, r1, r2, r3, ⟨0, false, rfl, r4⟩, by omega⟩, hb⟩
    (fun x => { tmps := #[.string ⟨l.toArray⟩, .agg #[.int .i64 least, .int .i64 most, .int .i64 said], .func (.func 37) #[] #[], undef, .pointer (some ⟨w.heap.size, 0, none⟩), .pointer (some ⟨w.heap.size + 1, 0, none⟩), .pointer (some ⟨w.heap.size + 1 + 1, 0, none⟩), .pointer (some ⟨w.heap.size + 1 + 1 + 1, 0, none⟩), .pointer (some ⟨w.heap.size + 1 + 1 + 1 + 1, 0, none⟩), .string ⟨x.1.toArray⟩, undef, undef, .string ⟨l.toArray⟩, .func (.func 39) #[] #[.pointer (some ⟨w.heap.size + 1 + 1 + 1 + 1 + 1, 0, none⟩), .pointer (some ⟨w.heap.size + 1 + 1 + 1 + 1 + 1 + 1, 0, none⟩)], .string ⟨x.1.toArray⟩, undef, undef, undef, undef, undef, undef, undef, undef, undef, undef, undef, undef, undef, undef, undef, undef, undef, undef, undef, undef, undef, undef, undef, undef, undef, undef, undef, undef, undef], defers := [] }) ?assign ?body ?done ?stop
  case assign =>
    intro l0 x W K hK
    dsimp only [encP]
    gi_wp2
    exact hK
  case body =>
    clear r0 r1 r2 r3 r4 c5 c6 hsplit hb hz hsz hl
    rintro l0 pre x W ⟨⟨r0, r1, r2, r3, ⟨b, st, hfold, r4⟩, hbig⟩, hB⟩ hlen
    have hd1 : 1 ≤ 3 - 1 - 1 := by decide
    have hmx : Tryd.prog.follows .mixedOrders = true := by kernel_rfl
    have hparse := parseItem_any (.func (.func 37) #[] #[]) k x.1 W x.2 (HR.out.later hB)
    have HFO := Lib.hid hfold
    have HBW := Lib.hid hB
    have happ : Hid (fieldFrom (rdB k) (scB k) ((pre ++ [x]).map (·.1)) 0 false = fieldFrom (rdB k) (scB k) [x.1] b st) := Lib.hid (by rw [List.map_append, fieldFrom_append, hfold]; rfl)
    obtain ⟨c0, _⟩ := cells_of_heap r0
    obtain ⟨c1, _⟩ := cells_of_heap r1
    have R2 := Lib.hid r2
    have R3 := Lib.hid r3
    have R4 := Lib.hid r4
    have R0 := Lib.hid r0
    have R1 := Lib.hid r1
    clear r0 r1 r2 r3 r4 hfold hB HFO hlen
    cases hit : itemB (rdB k) x.1 with
    | none =>
      rw [hit] at hparse
      have HI : Hid (CallsIn (Fence.wide.inRound l0) (3 - 1 - 1 - 1) Tryd.prog 41 #[.string ⟨x.1.toArray⟩, .func (.func 37) #[] #[]] W fun e W' => e = .returned (.tuple #[.agg #[.bool false, .int .i64 0, .int .i64 0, .bool false, .int .i64 0, .bool false], .bool false]) ∧ Below W.heap.size W W') :=
        Lib.hid (CallsIn.inRound l0 (callsIn_wide.2 hparse))
      have hbad : Hid (fieldFrom (rdB k) (scB k) [x.1] b st = .error 20) := Lib.hid (by simp only [fieldFrom, hit])
      clear hparse hit
      gi_wp2_with fail
      refine ⟨trivial, ?_⟩
      refine HI.out.mono ?_
      rintro e W1 ⟨rfl, hb1⟩
      have za := hb1.size; have ya0 : w.heap.size < W1.heap.size := (by omega); have ya1 : w.heap.size + 1 < W1.heap.size := (by omega); have ya2 : w.heap.size + 1 + 1 < W1.heap.size := (by omega); have ya3 : w.heap.size + 1 + 1 + 1 < W1.heap.size := (by omega); have ya4 : w.heap.size + 1 + 1 + 1 + 1 < W1.heap.size := (by omega); obtain ⟨ca2, fa2⟩ := cells_of_heap (row_below hb1 (by omega) R2.out); obtain ⟨da2, ga2⟩ := cells_alloc (row_below hb1 (by omega) R2.out); obtain ⟨ca3, fa3⟩ := cells_of_heap (row_below hb1 (by omega) R3.out); obtain ⟨da3, ga3⟩ := cells_alloc (row_below hb1 (by omega) R3.out)
      gi_wp2_with fail
      exact pfX_alloc _ (pfI_rows hbig HBW.out hb1 R2.out R3.out (by rw [happ.out, hbad.out]))
    | some it =>
      rw [hit] at hparse
      have hst99 := item_step hit
      obtain ⟨star, first, last, alone, step, stepped⟩ := it
      have HI : Hid (CallsIn (Fence.wide.inRound l0) (3 - 1 - 1 - 1) Tryd.prog 41 #[.string ⟨x.1.toArray⟩, .func (.func 37) #[] #[]] W fun e W' => e = .returned (.tuple #[(.agg #[.bool star, .int .i64 first, .int .i64 last, .bool alone, .int .i64 step, .bool stepped]), .bool true]) ∧ Below W.heap.size W W') :=
        Lib.hid (CallsIn.inRound l0 (callsIn_wide.2 hparse))
      cases hwi : withinB ⟨star, first, last, alone, step, stepped⟩ ⟨least, most, said⟩
      · have HW : Hid (∀ V, CallsIn (Fence.wide.inRound l0) (3 - 1 - 1 - 1) Tryd.prog 42 #[(.agg #[.bool star, .int .i64 first, .int .i64 last, .bool alone, .int .i64 step, .bool stepped]), .agg #[.int .i64 least, .int .i64 most, .int .i64 said]] V fun e V' => e = .returned (.bool false) ∧ Below V.heap.size V V') :=
          Lib.hid (fun V => CallsIn.inRound l0 (callsIn_wide.2 (by have := within_any ⟨star, first, last, alone, step, stepped⟩ ⟨least, most, said⟩ V; rw [hwi] at this; exact this)))
        have hbad : Hid (fieldFrom (rdB k) (scB k) [x.1] b st = .error 21) := Lib.hid (by simp only [fieldFrom, hit]; rw [← HSC.out, hwi]; rfl)
        clear hparse hit hwi hst99
        gi_wp2_with fail
        refine ⟨trivial, ?_⟩
        refine HI.out.mono ?_
        rintro e W1 ⟨rfl, hb1⟩
        have za := hb1.size; have ya0 : w.heap.size < W1.heap.size := (by omega); have ya1 : w.heap.size + 1 < W1.heap.size := (by omega); have ya2 : w.heap.size + 1 + 1 < W1.heap.size := (by omega); have ya3 : w.heap.size + 1 + 1 + 1 < W1.heap.size := (by omega); have ya4 : w.heap.size + 1 + 1 + 1 + 1 < W1.heap.size := (by omega); obtain ⟨ca0, fa0⟩ := cells_of_heap (row_below hb1 (by omega) R0.out); obtain ⟨da0, ga0⟩ := cells_alloc (row_below hb1 (by omega) R0.out); obtain ⟨ca2, fa2⟩ := cells_of_heap (row_below hb1 (by omega) R2.out); obtain ⟨da2, ga2⟩ := cells_alloc (row_below hb1 (by omega) R2.out); obtain ⟨ca3, fa3⟩ := cells_of_heap (row_below hb1 (by omega) R3.out); obtain ⟨da3, ga3⟩ := cells_alloc (row_below hb1 (by omega) R3.out)
        gi_wp2_with fail
        refine ⟨trivial, ?_⟩
        refine (HW.out _).mono ?_
        rintro e W2 ⟨rfl, hb2⟩
        have hbW2 : Below W.heap.size W W2 := (hb1.alloc za _).trans (hb2.mono (by simp; omega))
        have zb := hbW2.size; have yb0 : w.heap.size < W2.heap.size := (by omega); have yb1 : w.heap.size + 1 < W2.heap.size := (by omega); have yb2 : w.heap.size + 1 + 1 < W2.heap.size := (by omega); have yb3 : w.heap.size + 1 + 1 + 1 < W2.heap.size := (by omega); have yb4 : w.heap.size + 1 + 1 + 1 + 1 < W2.heap.size := (by omega); obtain ⟨cb2, fb2⟩ := cells_of_heap (row_below hbW2 (by omega) R2.out); obtain ⟨db2, gb2⟩ := cells_alloc (row_below hbW2 (by omega) R2.out); obtain ⟨cb3, fb3⟩ := cells_of_heap (row_below hbW2 (by omega) R3.out); obtain ⟨db3, gb3⟩ := cells_alloc (row_below hbW2 (by omega) R3.out)
        clear hb2 ca0 da0 ca2 da2 ca3 da3
        gi_wp2_with fail
        exact pfI_rows hbig HBW.out hbW2 R2.out R3.out (by rw [happ.out, hbad.out])
      · have HW : Hid (∀ V, CallsIn (Fence.wide.inRound l0) (3 - 1 - 1 - 1) Tryd.prog 42 #[(.agg #[.bool star, .int .i64 first, .int .i64 last, .bool alone, .int .i64 step, .bool stepped]), .agg #[.int .i64 least, .int .i64 most, .int .i64 said]] V fun e V' => e = .returned (.bool true) ∧ Below V.heap.size V V') :=
          Lib.hid (fun V => CallsIn.inRound l0 (callsIn_wide.2 (by have := within_any ⟨star, first, last, alone, step, stepped⟩ ⟨least, most, said⟩ V; rw [hwi] at this; exact this)))
        obtain ⟨bv, hbv⟩ : ∃ bv, itValsB ⟨star, first, last, alone, step, stepped⟩ ⟨least, most, said⟩ = bv := ⟨_, rfl⟩
        have HV : Hid (∀ V, CallsIn (Fence.wide.inRound l0) (3 - 1 - 1 - 1) Tryd.prog 43 #[(.agg #[.bool star, .int .i64 first, .int .i64 last, .bool alone, .int .i64 step, .bool stepped]), .agg #[.int .i64 least, .int .i64 most, .int .i64 said]] V fun e V' => e = .returned (.int .u64 bv) ∧ Below V.heap.size V V') :=
          Lib.hid (fun V => CallsIn.inRound l0 (callsIn_wide.2 (by have := itVals_any ⟨star, first, last, alone, step, stepped⟩ ⟨least, most, said⟩ V (by rw [HSC.out]; exact scOk k) hwi hst99.1 hst99.2; rw [hbv] at this; exact this)))
        have hgood : Hid (fieldFrom (rdB k) (scB k) [x.1] b st = .ok (bits .or .u64 b bv, st || star)) := Lib.hid (by simp only [fieldFrom, hit]; rw [← HSC.out, hwi, hbv]; rfl)
        clear hparse hit hwi hst99 hbv
        gi_wp2_with fail
        refine ⟨trivial, ?_⟩
        refine HI.out.mono ?_
        rintro e W1 ⟨rfl, hb1⟩
        have za := hb1.size; have ya0 : w.heap.size < W1.heap.size := (by omega); have ya1 : w.heap.size + 1 < W1.heap.size := (by omega); have ya2 : w.heap.size + 1 + 1 < W1.heap.size := (by omega); have ya3 : w.heap.size + 1 + 1 + 1 < W1.heap.size := (by omega); have ya4 : w.heap.size + 1 + 1 + 1 + 1 < W1.heap.size := (by omega); obtain ⟨ca0, fa0⟩ := cells_of_heap (row_below hb1 (by omega) R0.out); obtain ⟨da0, ga0⟩ := cells_alloc (row_below hb1 (by omega) R0.out); obtain ⟨ca2, fa2⟩ := cells_of_heap (row_below hb1 (by omega) R2.out); obtain ⟨da2, ga2⟩ := cells_alloc (row_below hb1 (by omega) R2.out); obtain ⟨ca3, fa3⟩ := cells_of_heap (row_below hb1 (by omega) R3.out); obtain ⟨da3, ga3⟩ := cells_alloc (row_below hb1 (by omega) R3.out)
        gi_wp2_with fail
        refine ⟨trivial, ?_⟩
        refine (HW.out _).mono ?_
        rintro e W2 ⟨rfl, hb2⟩
        have hbW2 : Below W.heap.size W W2 := (hb1.alloc za _).trans (hb2.mono (by simp; omega))
        have zit : W1.heap.size < W2.heap.size := (by have := hb2.size; simp at this; omega)
        obtain ⟨cit, _⟩ := cells_of_heap (kept_new hb2)
        have zb := hbW2.size; have yb0 : w.heap.size < W2.heap.size := (by omega); have yb1 : w.heap.size + 1 < W2.heap.size := (by omega); have yb2 : w.heap.size + 1 + 1 < W2.heap.size := (by omega); have yb3 : w.heap.size + 1 + 1 + 1 < W2.heap.size := (by omega); have yb4 : w.heap.size + 1 + 1 + 1 + 1 < W2.heap.size := (by omega); obtain ⟨cb0, fb0⟩ := cells_of_heap (row_below hbW2 (by omega) R0.out); obtain ⟨db0, gb0⟩ := cells_alloc (row_below hbW2 (by omega) R0.out); obtain ⟨cb2, fb2⟩ := cells_of_heap (row_below hbW2 (by omega) R2.out); obtain ⟨db2, gb2⟩ := cells_alloc (row_below hbW2 (by omega) R2.out); obtain ⟨cb3, fb3⟩ := cells_of_heap (row_below hbW2 (by omega) R3.out); obtain ⟨db3, gb3⟩ := cells_alloc (row_below hbW2 (by omega) R3.out); obtain ⟨cb4, fb4⟩ := cells_of_heap (row_below hbW2 (by omega) R4.out); obtain ⟨db4, gb4⟩ := cells_alloc (row_below hbW2 (by omega) R4.out)
        have hRit := kept_new hb2
        have HRit := Lib.hid hRit
        clear hb2 ca0 da0 ca2 da2 ca3 da3 hRit
        gi_wp2_with fail
        gi_region_with_o (refine ⟨trivial, ?_⟩; refine (HV.out _).mono ?_; rintro e W3 ⟨rfl, hb3⟩; have hbW3 := hbW2.drew.trans (hb3.mono zb); have zc := (hbW2.drew.trans (hb3.mono zb)).size; have yc0 : w.heap.size < W3.heap.size := (by omega); have yc1 : w.heap.size + 1 < W3.heap.size := (by omega); have yc2 : w.heap.size + 1 + 1 < W3.heap.size := (by omega); have yc3 : w.heap.size + 1 + 1 + 1 < W3.heap.size := (by omega); have yc4 : w.heap.size + 1 + 1 + 1 + 1 < W3.heap.size := (by omega); obtain ⟨cc4, fc4⟩ := cells_of_heap (row_below (hbW2.drew.trans (hb3.mono zb)) (by omega) R4.out); obtain ⟨dc4, gc4⟩ := cells_alloc (row_below (hbW2.drew.trans (hb3.mono zb)) (by omega) R4.out); obtain ⟨cit3, _⟩ := cells_of_heap (row_below hb3 zit HRit.out))
        all_goals
          cases st
          all_goals
            gi_wp2
            exact pfI_step hbig HBW.out hbW3 R0.out R1.out R2.out R3.out R4.out (by rw [happ.out, hgood.out]; rfl)
  case done =>
    clear r0 r1 r2 r3 r4 c5 c6 hsplit
    rintro D xs W hD hS ⟨⟨r0, r1, r2, r3, ⟨b, st, hfold, r4⟩, hbig⟩, hB⟩ hK
    have hok : Hid (fieldB k l = .ok (b, st)) := Lib.hid (by rw [HF.out]; rw [hS] at hfold; exact hfold)
    obtain ⟨c4, _⟩ := cells_of_heap r4
    obtain ⟨c2, f2⟩ := cells_of_heap r2
    obtain ⟨c3, f3⟩ := cells_of_heap r3
    have HK := Lib.hid hK
    have HB := Lib.hid hB
    have R2 := Lib.hid r2
    have R3 := Lib.hid r3
    clear r0 r1 r2 r3 r4 hfold hS hK hB
    gi_wp2
    have hK' := (((KeepsOthers.setCell W ⟨w.heap.size + 1 + 1, 0, none⟩ (.int .u64 b)).trans (KeepsOthers.setCell _ ⟨w.heap.size + 1 + 1, 1, none⟩ (.bool st))).trans (KeepsOthers.setCell _ ⟨w.heap.size + 1 + 1 + 1, 0, none⟩ (.int .i64 0))).same D _ HK.out rfl
    refine ⟨by simp, .inl ⟨_, _, rfl, run_takeDeferred hK', ?_⟩⟩
    have q2 := row_kept (row_other (i := 0) (g := w.heap.size + 1 + 1 + 1) (.int .i64 0) (by omega) (row_set (i := 1) (.bool st) (row_set (i := 0) (.int .u64 b) R2.out))) (grownBy_putObj' _ D (.deferred none)) (fun r e => by cases e; exact ⟨_, hK', rfl⟩)
    have q3 := row_kept (row_set (i := 0) (.int .i64 0) (row_other (i := 1) (g := w.heap.size + 1 + 1) (.bool st) (by omega) (row_other (i := 0) (g := w.heap.size + 1 + 1) (.int .u64 b) (by omega) R3.out))) (grownBy_putObj' _ D (.deferred none)) (fun r e => by cases e; exact ⟨_, hK', rfl⟩)
    obtain ⟨e2, _⟩ := cells_of_heap q2
    obtain ⟨e3, _⟩ := cells_of_heap q3
    refine ⟨.tuple #[.agg #[.int .u64 b, .bool st], .int .i64 0], ?_, ⟨?_, ?_⟩, ?_⟩
    · clear c4 c2 c3 f2 f3
      simp [results, Tryd.f24, go_sem, e2, e3]
    · intro e' he; rw [hok.out] at he; cases he
    · intro m hm; rw [hok.out] at hm; cases hm; rfl
    · exact (((HB.out.setCell (p := ⟨w.heap.size + 1 + 1, 0, none⟩) (by show w.heap.size ≤ w.heap.size + 1 + 1; omega) _).setCell (p := ⟨w.heap.size + 1 + 1, 1, none⟩) (by show w.heap.size ≤ w.heap.size + 1 + 1; omega) _).setCell (p := ⟨w.heap.size + 1 + 1 + 1, 0, none⟩) (by show w.heap.size ≤ w.heap.size + 1 + 1 + 1; omega) _).trans (belowK_b (w := w) (Nat.le_refl _) _ D _ _ (by omega) hK' rfl rfl)
  case stop =>
    clear r0 r1 r2 r3 r4 c5 c6 hsplit
    rintro D c pre W hD hpre ⟨⟨rfl, e', hfold, r2, r3⟩, hB⟩ hK
    have hbad : Hid (fieldB k l = .error e') := Lib.hid (by
      rw [HF.out]
      obtain ⟨t, ht⟩ := hpre
      have : splitB commaB l = pre.map (·.1) ++ t := ht.symm
      rw [this, fieldFrom_append, hfold])
    have HB := Lib.hid hB
    clear hfold hB
    gi_wp2
    refine ⟨by simp, .inl ⟨_, _, rfl, run_takeDeferred hK, ?_⟩⟩
    have q2 := row_kept r2 (grownBy_putObj' _ D (.deferred none)) (fun r e => by cases e; exact ⟨_, hK, rfl⟩)
    have q3 := row_kept r3 (grownBy_putObj' _ D (.deferred none)) (fun r e => by cases e; exact ⟨_, hK, rfl⟩)
    obtain ⟨e2, _⟩ := cells_of_heap q2
    obtain ⟨e3, _⟩ := cells_of_heap q3
    refine ⟨.tuple #[.agg #[.int .u64 0, .bool false], .int .i64 e'], ?_, ⟨?_, ?_⟩, ?_⟩
    · simp [results, Tryd.f24, go_sem, e2, e3]
    · intro e2 he; rw [hbad.out] at he; cases he; rfl
    · intro m hm; rw [hbad.out] at hm; cases hm
    · exact HB.out.trans (belowK_b (w := w) (Nat.le_refl _) _ D _ _ (by omega) hK rfl rfl)

set_option maxRecDepth 100000 in
set_option maxHeartbeats 4000000 in
theorem parseField_m (k : Nat) (pa pb : Addr) (l : Bytes) (hl : l.length ≤ maxLen) (w : World) (least most said : Int) (hsc : (⟨least, most, said⟩ : Sc) = scB k) (hr : IsRd w (.func (.func 57) #[] #[.pointer (some pa), .pointer (some pb)]) k) :
    CallsIn Fence.wide 3 Tryd.prog 24 #[.string ⟨l.toArray⟩, .agg #[.int .i64 least, .int .i64 most, .int .i64 said], .func (.func 57) #[] #[.pointer (some pa), .pointer (some pb)]] w fun e W' => FieldPost k l e ∧ Below w.heap.size w W' := by
  have HSC := Lib.hid hsc
  have HR := Lib.hid hr
  have HF : Hid (fieldB k l = fieldFrom (rdB k) (scB k) (splitB commaB l) 0 false) := Lib.hid rfl
  clear hsc hr
  refine callsIn_of_wp_marks Tryd.func24 rfl trivial ?_ rfl
  simp only [Tryd.ntmps24, List.size_toArray, List.length_cons, List.length_nil, Nat.reduceAdd, Nat.reduceSub, Array.replicate_succ, Array.replicate_zero, List.push_toArray, List.append_toArray, List.nil_append, List.cons_append]
  gi_wp2_with (refine ⟨trivial, ?_⟩; gi_at_call 22; refine (callsIn_wide.2 (split_call _ _ _)).mono ?_; rintro e w' ⟨rfl, rfl⟩)
  change Code.wpIn _ _ _ _ _ _ (pfW w least most said (.func (.func 57) #[] #[.pointer (some pa), .pointer (some pb)]) ⟨l.toArray⟩)
  have hz := pf_size w least most said (.func (.func 57) #[] #[.pointer (some pa), .pointer (some pb)]) ⟨l.toArray⟩
  have hb := pf_below w least most said (.func (.func 57) #[] #[.pointer (some pa), .pointer (some pb)]) ⟨l.toArray⟩
  have r0 := pf_r0 w least most said (.func (.func 57) #[] #[.pointer (some pa), .pointer (some pb)]) ⟨l.toArray⟩
  have r1 := pf_r1 w least most said (.func (.func 57) #[] #[.pointer (some pa), .pointer (some pb)]) ⟨l.toArray⟩
  have r2 := pf_r2 w least most said (.func (.func 57) #[] #[.pointer (some pa), .pointer (some pb)]) ⟨l.toArray⟩
  have r3 := pf_r3 w least most said (.func (.func 57) #[] #[.pointer (some pa), .pointer (some pb)]) ⟨l.toArray⟩
  have r4 := pf_r4 w least most said (.func (.func 57) #[] #[.pointer (some pa), .pointer (some pb)]) ⟨l.toArray⟩
  have c5 := (cells_of_heap (pf_r5 w least most said (.func (.func 57) #[] #[.pointer (some pa), .pointer (some pb)]) ⟨l.toArray⟩)).1 0
  have c6 := (cells_of_heap (pf_r6 w least most said (.func (.func 57) #[] #[.pointer (some pa), .pointer (some pb)]) ⟨l.toArray⟩)).1 0
  generalize pfW w least most said (.func (.func 57) #[] #[.pointer (some pa), .pointer (some pb)]) ⟨l.toArray⟩ = W0 at *
  have hsz : (⟨l.toArray⟩ : ByteArray).size ≤ maxLen := by simpa [ByteArray.size] using hl
  have hsplit := split_comma 2 (by omega) ⟨l.toArray⟩ hsz (w.heap.size + 1 + 1 + 1 + 1 + 1) (w.heap.size + 1 + 1 + 1 + 1 + 1 + 1) W0 (by omega) (by omega) c5 c6
  refine wpIn_rangeFunc_ownF rfl (by omega) (gf := 39) (lb := #[.pointer (some ⟨w.heap.size + 1 + 1 + 1 + 1 + 1, 0, none⟩), .pointer (some ⟨w.heap.size + 1 + 1 + 1 + 1 + 1 + 1, 0, none⟩)]) rfl trivial (enters_of Tryd.func39 (by kernel_rfl) rfl)
    hsplit Same2.trans (same2_b (by omega) (by omega)) (Below.refl _ _) (fun _ => rfl)
    (fun pre W => PfI w k least most said (.func (.func 57) #[] #[.pointer (some pa), .pointer (some pb)]) pre W ∧ Below w.heap.size w W)
    (fun c pre W => PfX w k c pre W ∧ Below w.heap.size w W)
    (OwnFrom.and (Own.from (pfI_own w k least most said _) _) (ownFrom_below (Nat.le_refl _) (by omega)))
    (fun c => OwnFrom.and (Own.from (pfX_own w k c) _) (ownFrom_below (Nat.le_refl _) (by omega)))
    ⟨⟨r0, r1, r2, r3, ⟨0, false, rfl, r4⟩, by omega⟩, hb⟩
    (fun x => { tmps := #[.string ⟨l.toArray⟩, .agg #[.int .i64 least, .int .i64 most, .int .i64 said], .func (.func 57) #[] #[.pointer (some pa), .pointer (some pb)], undef, .pointer (some ⟨w.heap.size, 0, none⟩), .pointer (some ⟨w.heap.size + 1, 0, none⟩), .pointer (some ⟨w.heap.size + 1 + 1, 0, none⟩), .pointer (some ⟨w.heap.size + 1 + 1 + 1, 0, none⟩), .pointer (some ⟨w.heap.size + 1 + 1 + 1 + 1, 0, none⟩), .string ⟨x.1.toArray⟩, undef, undef, .string ⟨l.toArray⟩, .func (.func 39) #[] #[.pointer (some ⟨w.heap.size + 1 + 1 + 1 + 1 + 1, 0, none⟩), .pointer (some ⟨w.heap.size + 1 + 1 + 1 + 1 + 1 + 1, 0, none⟩)], .string ⟨x.1.toArray⟩, undef, undef, undef, undef, undef, undef, undef, undef, undef, undef, undef, undef, undef, undef, undef, undef, undef, undef, undef, undef, undef, undef, undef, undef, undef, undef, undef, undef, undef], defers := [] }) ?assign ?body ?done ?stop
  case assign =>
    intro l0 x W K hK
    dsimp only [encP]
    gi_wp2
    exact hK
  case body =>
    clear r0 r1 r2 r3 r4 c5 c6 hsplit hb hz hsz hl
    rintro l0 pre x W ⟨⟨r0, r1, r2, r3, ⟨b, st, hfold, r4⟩, hbig⟩, hB⟩ hlen
    have hd1 : 1 ≤ 3 - 1 - 1 := by decide
    have hmx : Tryd.prog.follows .mixedOrders = true := by kernel_rfl
    have hparse := parseItem_any (.func (.func 57) #[] #[.pointer (some pa), .pointer (some pb)]) k x.1 W x.2 (HR.out.later hB)
    have HFO := Lib.hid hfold
    have HBW := Lib.hid hB
    have happ : Hid (fieldFrom (rdB k) (scB k) ((pre ++ [x]).map (·.1)) 0 false = fieldFrom (rdB k) (scB k) [x.1] b st) := Lib.hid (by rw [List.map_append, fieldFrom_append, hfold]; rfl)
    obtain ⟨c0, _⟩ := cells_of_heap r0
    obtain ⟨c1, _⟩ := cells_of_heap r1
    have R2 := Lib.hid r2
    have R3 := Lib.hid r3
    have R4 := Lib.hid r4
    have R0 := Lib.hid r0
    have R1 := Lib.hid r1
    clear r0 r1 r2 r3 r4 hfold hB HFO hlen
    cases hit : itemB (rdB k) x.1 with
    | none =>
      rw [hit] at hparse
      have HI : Hid (CallsIn (Fence.wide.inRound l0) (3 - 1 - 1 - 1) Tryd.prog 41 #[.string ⟨x.1.toArray⟩, .func (.func 57) #[] #[.pointer (some pa), .pointer (some pb)]] W fun e W' => e = .returned (.tuple #[.agg #[.bool false, .int .i64 0, .int .i64 0, .bool false, .int .i64 0, .bool false], .bool false]) ∧ Below W.heap.size W W') :=
        Lib.hid (CallsIn.inRound l0 (callsIn_wide.2 hparse))
      have hbad : Hid (fieldFrom (rdB k) (scB k) [x.1] b st = .error 20) := Lib.hid (by simp only [fieldFrom, hit])
      clear hparse hit
      gi_wp2_with fail
      refine ⟨trivial, ?_⟩
      refine HI.out.mono ?_
      rintro e W1 ⟨rfl, hb1⟩
      have za := hb1.size; have ya0 : w.heap.size < W1.heap.size := (by omega); have ya1 : w.heap.size + 1 < W1.heap.size := (by omega); have ya2 : w.heap.size + 1 + 1 < W1.heap.size := (by omega); have ya3 : w.heap.size + 1 + 1 + 1 < W1.heap.size := (by omega); have ya4 : w.heap.size + 1 + 1 + 1 + 1 < W1.heap.size := (by omega); obtain ⟨ca2, fa2⟩ := cells_of_heap (row_below hb1 (by omega) R2.out); obtain ⟨da2, ga2⟩ := cells_alloc (row_below hb1 (by omega) R2.out); obtain ⟨ca3, fa3⟩ := cells_of_heap (row_below hb1 (by omega) R3.out); obtain ⟨da3, ga3⟩ := cells_alloc (row_below hb1 (by omega) R3.out)
      gi_wp2_with fail
      exact pfX_alloc _ (pfI_rows hbig HBW.out hb1 R2.out R3.out (by rw [happ.out, hbad.out]))
    | some it =>
      rw [hit] at hparse
      have hst99 := item_step hit
      obtain ⟨star, first, last, alone, step, stepped⟩ := it
      have HI : Hid (CallsIn (Fence.wide.inRound l0) (3 - 1 - 1 - 1) Tryd.prog 41 #[.string ⟨x.1.toArray⟩, .func (.func 57) #[] #[.pointer (some pa), .pointer (some pb)]] W fun e W' => e = .returned (.tuple #[(.agg #[.bool star, .int .i64 first, .int .i64 last, .bool alone, .int .i64 step, .bool stepped]), .bool true]) ∧ Below W.heap.size W W') :=
        Lib.hid (CallsIn.inRound l0 (callsIn_wide.2 hparse))
      cases hwi : withinB ⟨star, first, last, alone, step, stepped⟩ ⟨least, most, said⟩
      · have HW : Hid (∀ V, CallsIn (Fence.wide.inRound l0) (3 - 1 - 1 - 1) Tryd.prog 42 #[(.agg #[.bool star, .int .i64 first, .int .i64 last, .bool alone, .int .i64 step, .bool stepped]), .agg #[.int .i64 least, .int .i64 most, .int .i64 said]] V fun e V' => e = .returned (.bool false) ∧ Below V.heap.size V V') :=
          Lib.hid (fun V => CallsIn.inRound l0 (callsIn_wide.2 (by have := within_any ⟨star, first, last, alone, step, stepped⟩ ⟨least, most, said⟩ V; rw [hwi] at this; exact this)))
        have hbad : Hid (fieldFrom (rdB k) (scB k) [x.1] b st = .error 21) := Lib.hid (by simp only [fieldFrom, hit]; rw [← HSC.out, hwi]; rfl)
        clear hparse hit hwi hst99
        gi_wp2_with fail
        refine ⟨trivial, ?_⟩
        refine HI.out.mono ?_
        rintro e W1 ⟨rfl, hb1⟩
        have za := hb1.size; have ya0 : w.heap.size < W1.heap.size := (by omega); have ya1 : w.heap.size + 1 < W1.heap.size := (by omega); have ya2 : w.heap.size + 1 + 1 < W1.heap.size := (by omega); have ya3 : w.heap.size + 1 + 1 + 1 < W1.heap.size := (by omega); have ya4 : w.heap.size + 1 + 1 + 1 + 1 < W1.heap.size := (by omega); obtain ⟨ca0, fa0⟩ := cells_of_heap (row_below hb1 (by omega) R0.out); obtain ⟨da0, ga0⟩ := cells_alloc (row_below hb1 (by omega) R0.out); obtain ⟨ca2, fa2⟩ := cells_of_heap (row_below hb1 (by omega) R2.out); obtain ⟨da2, ga2⟩ := cells_alloc (row_below hb1 (by omega) R2.out); obtain ⟨ca3, fa3⟩ := cells_of_heap (row_below hb1 (by omega) R3.out); obtain ⟨da3, ga3⟩ := cells_alloc (row_below hb1 (by omega) R3.out)
        gi_wp2_with fail
        refine ⟨trivial, ?_⟩
        refine (HW.out _).mono ?_
        rintro e W2 ⟨rfl, hb2⟩
        have hbW2 : Below W.heap.size W W2 := (hb1.alloc za _).trans (hb2.mono (by simp; omega))
        have zb := hbW2.size; have yb0 : w.heap.size < W2.heap.size := (by omega); have yb1 : w.heap.size + 1 < W2.heap.size := (by omega); have yb2 : w.heap.size + 1 + 1 < W2.heap.size := (by omega); have yb3 : w.heap.size + 1 + 1 + 1 < W2.heap.size := (by omega); have yb4 : w.heap.size + 1 + 1 + 1 + 1 < W2.heap.size := (by omega); obtain ⟨cb2, fb2⟩ := cells_of_heap (row_below hbW2 (by omega) R2.out); obtain ⟨db2, gb2⟩ := cells_alloc (row_below hbW2 (by omega) R2.out); obtain ⟨cb3, fb3⟩ := cells_of_heap (row_below hbW2 (by omega) R3.out); obtain ⟨db3, gb3⟩ := cells_alloc (row_below hbW2 (by omega) R3.out)
        clear hb2 ca0 da0 ca2 da2 ca3 da3
        gi_wp2_with fail
        exact pfI_rows hbig HBW.out hbW2 R2.out R3.out (by rw [happ.out, hbad.out])
      · have HW : Hid (∀ V, CallsIn (Fence.wide.inRound l0) (3 - 1 - 1 - 1) Tryd.prog 42 #[(.agg #[.bool star, .int .i64 first, .int .i64 last, .bool alone, .int .i64 step, .bool stepped]), .agg #[.int .i64 least, .int .i64 most, .int .i64 said]] V fun e V' => e = .returned (.bool true) ∧ Below V.heap.size V V') :=
          Lib.hid (fun V => CallsIn.inRound l0 (callsIn_wide.2 (by have := within_any ⟨star, first, last, alone, step, stepped⟩ ⟨least, most, said⟩ V; rw [hwi] at this; exact this)))
        obtain ⟨bv, hbv⟩ : ∃ bv, itValsB ⟨star, first, last, alone, step, stepped⟩ ⟨least, most, said⟩ = bv := ⟨_, rfl⟩
        have HV : Hid (∀ V, CallsIn (Fence.wide.inRound l0) (3 - 1 - 1 - 1) Tryd.prog 43 #[(.agg #[.bool star, .int .i64 first, .int .i64 last, .bool alone, .int .i64 step, .bool stepped]), .agg #[.int .i64 least, .int .i64 most, .int .i64 said]] V fun e V' => e = .returned (.int .u64 bv) ∧ Below V.heap.size V V') :=
          Lib.hid (fun V => CallsIn.inRound l0 (callsIn_wide.2 (by have := itVals_any ⟨star, first, last, alone, step, stepped⟩ ⟨least, most, said⟩ V (by rw [HSC.out]; exact scOk k) hwi hst99.1 hst99.2; rw [hbv] at this; exact this)))
        have hgood : Hid (fieldFrom (rdB k) (scB k) [x.1] b st = .ok (bits .or .u64 b bv, st || star)) := Lib.hid (by simp only [fieldFrom, hit]; rw [← HSC.out, hwi, hbv]; rfl)
        clear hparse hit hwi hst99 hbv
        gi_wp2_with fail
        refine ⟨trivial, ?_⟩
        refine HI.out.mono ?_
        rintro e W1 ⟨rfl, hb1⟩
        have za := hb1.size; have ya0 : w.heap.size < W1.heap.size := (by omega); have ya1 : w.heap.size + 1 < W1.heap.size := (by omega); have ya2 : w.heap.size + 1 + 1 < W1.heap.size := (by omega); have ya3 : w.heap.size + 1 + 1 + 1 < W1.heap.size := (by omega); have ya4 : w.heap.size + 1 + 1 + 1 + 1 < W1.heap.size := (by omega); obtain ⟨ca0, fa0⟩ := cells_of_heap (row_below hb1 (by omega) R0.out); obtain ⟨da0, ga0⟩ := cells_alloc (row_below hb1 (by omega) R0.out); obtain ⟨ca2, fa2⟩ := cells_of_heap (row_below hb1 (by omega) R2.out); obtain ⟨da2, ga2⟩ := cells_alloc (row_below hb1 (by omega) R2.out); obtain ⟨ca3, fa3⟩ := cells_of_heap (row_below hb1 (by omega) R3.out); obtain ⟨da3, ga3⟩ := cells_alloc (row_below hb1 (by omega) R3.out)
        gi_wp2_with fail
        refine ⟨trivial, ?_⟩
        refine (HW.out _).mono ?_
        rintro e W2 ⟨rfl, hb2⟩
        have hbW2 : Below W.heap.size W W2 := (hb1.alloc za _).trans (hb2.mono (by simp; omega))
        have zit : W1.heap.size < W2.heap.size := (by have := hb2.size; simp at this; omega)
        obtain ⟨cit, _⟩ := cells_of_heap (kept_new hb2)
        have zb := hbW2.size; have yb0 : w.heap.size < W2.heap.size := (by omega); have yb1 : w.heap.size + 1 < W2.heap.size := (by omega); have yb2 : w.heap.size + 1 + 1 < W2.heap.size := (by omega); have yb3 : w.heap.size + 1 + 1 + 1 < W2.heap.size := (by omega); have yb4 : w.heap.size + 1 + 1 + 1 + 1 < W2.heap.size := (by omega); obtain ⟨cb0, fb0⟩ := cells_of_heap (row_below hbW2 (by omega) R0.out); obtain ⟨db0, gb0⟩ := cells_alloc (row_below hbW2 (by omega) R0.out); obtain ⟨cb2, fb2⟩ := cells_of_heap (row_below hbW2 (by omega) R2.out); obtain ⟨db2, gb2⟩ := cells_alloc (row_below hbW2 (by omega) R2.out); obtain ⟨cb3, fb3⟩ := cells_of_heap (row_below hbW2 (by omega) R3.out); obtain ⟨db3, gb3⟩ := cells_alloc (row_below hbW2 (by omega) R3.out); obtain ⟨cb4, fb4⟩ := cells_of_heap (row_below hbW2 (by omega) R4.out); obtain ⟨db4, gb4⟩ := cells_alloc (row_below hbW2 (by omega) R4.out)
        have hRit := kept_new hb2
        have HRit := Lib.hid hRit
        clear hb2 ca0 da0 ca2 da2 ca3 da3 hRit
        gi_wp2_with fail
        gi_region_with_o (refine ⟨trivial, ?_⟩; refine (HV.out _).mono ?_; rintro e W3 ⟨rfl, hb3⟩; have hbW3 := hbW2.drew.trans (hb3.mono zb); have zc := (hbW2.drew.trans (hb3.mono zb)).size; have yc0 : w.heap.size < W3.heap.size := (by omega); have yc1 : w.heap.size + 1 < W3.heap.size := (by omega); have yc2 : w.heap.size + 1 + 1 < W3.heap.size := (by omega); have yc3 : w.heap.size + 1 + 1 + 1 < W3.heap.size := (by omega); have yc4 : w.heap.size + 1 + 1 + 1 + 1 < W3.heap.size := (by omega); obtain ⟨cc4, fc4⟩ := cells_of_heap (row_below (hbW2.drew.trans (hb3.mono zb)) (by omega) R4.out); obtain ⟨dc4, gc4⟩ := cells_alloc (row_below (hbW2.drew.trans (hb3.mono zb)) (by omega) R4.out); obtain ⟨cit3, _⟩ := cells_of_heap (row_below hb3 zit HRit.out))
        all_goals
          cases st
          all_goals
            gi_wp2
            exact pfI_step hbig HBW.out hbW3 R0.out R1.out R2.out R3.out R4.out (by rw [happ.out, hgood.out]; rfl)
  case done =>
    clear r0 r1 r2 r3 r4 c5 c6 hsplit
    rintro D xs W hD hS ⟨⟨r0, r1, r2, r3, ⟨b, st, hfold, r4⟩, hbig⟩, hB⟩ hK
    have hok : Hid (fieldB k l = .ok (b, st)) := Lib.hid (by rw [HF.out]; rw [hS] at hfold; exact hfold)
    obtain ⟨c4, _⟩ := cells_of_heap r4
    obtain ⟨c2, f2⟩ := cells_of_heap r2
    obtain ⟨c3, f3⟩ := cells_of_heap r3
    have HK := Lib.hid hK
    have HB := Lib.hid hB
    have R2 := Lib.hid r2
    have R3 := Lib.hid r3
    clear r0 r1 r2 r3 r4 hfold hS hK hB
    gi_wp2
    have hK' := (((KeepsOthers.setCell W ⟨w.heap.size + 1 + 1, 0, none⟩ (.int .u64 b)).trans (KeepsOthers.setCell _ ⟨w.heap.size + 1 + 1, 1, none⟩ (.bool st))).trans (KeepsOthers.setCell _ ⟨w.heap.size + 1 + 1 + 1, 0, none⟩ (.int .i64 0))).same D _ HK.out rfl
    refine ⟨by simp, .inl ⟨_, _, rfl, run_takeDeferred hK', ?_⟩⟩
    have q2 := row_kept (row_other (i := 0) (g := w.heap.size + 1 + 1 + 1) (.int .i64 0) (by omega) (row_set (i := 1) (.bool st) (row_set (i := 0) (.int .u64 b) R2.out))) (grownBy_putObj' _ D (.deferred none)) (fun r e => by cases e; exact ⟨_, hK', rfl⟩)
    have q3 := row_kept (row_set (i := 0) (.int .i64 0) (row_other (i := 1) (g := w.heap.size + 1 + 1) (.bool st) (by omega) (row_other (i := 0) (g := w.heap.size + 1 + 1) (.int .u64 b) (by omega) R3.out))) (grownBy_putObj' _ D (.deferred none)) (fun r e => by cases e; exact ⟨_, hK', rfl⟩)
    obtain ⟨e2, _⟩ := cells_of_heap q2
    obtain ⟨e3, _⟩ := cells_of_heap q3
    refine ⟨.tuple #[.agg #[.int .u64 b, .bool st], .int .i64 0], ?_, ⟨?_, ?_⟩, ?_⟩
    · clear c4 c2 c3 f2 f3
      simp [results, Tryd.f24, go_sem, e2, e3]
    · intro e' he; rw [hok.out] at he; cases he
    · intro m hm; rw [hok.out] at hm; cases hm; rfl
    · exact (((HB.out.setCell (p := ⟨w.heap.size + 1 + 1, 0, none⟩) (by show w.heap.size ≤ w.heap.size + 1 + 1; omega) _).setCell (p := ⟨w.heap.size + 1 + 1, 1, none⟩) (by show w.heap.size ≤ w.heap.size + 1 + 1; omega) _).setCell (p := ⟨w.heap.size + 1 + 1 + 1, 0, none⟩) (by show w.heap.size ≤ w.heap.size + 1 + 1 + 1; omega) _).trans (belowK_b (w := w) (Nat.le_refl _) _ D _ _ (by omega) hK' rfl rfl)
  case stop =>
    clear r0 r1 r2 r3 r4 c5 c6 hsplit
    rintro D c pre W hD hpre ⟨⟨rfl, e', hfold, r2, r3⟩, hB⟩ hK
    have hbad : Hid (fieldB k l = .error e') := Lib.hid (by
      rw [HF.out]
      obtain ⟨t, ht⟩ := hpre
      have : splitB commaB l = pre.map (·.1) ++ t := ht.symm
      rw [this, fieldFrom_append, hfold])
    have HB := Lib.hid hB
    clear hfold hB
    gi_wp2
    refine ⟨by simp, .inl ⟨_, _, rfl, run_takeDeferred hK, ?_⟩⟩
    have q2 := row_kept r2 (grownBy_putObj' _ D (.deferred none)) (fun r e => by cases e; exact ⟨_, hK, rfl⟩)
    have q3 := row_kept r3 (grownBy_putObj' _ D (.deferred none)) (fun r e => by cases e; exact ⟨_, hK, rfl⟩)
    obtain ⟨e2, _⟩ := cells_of_heap q2
    obtain ⟨e3, _⟩ := cells_of_heap q3
    refine ⟨.tuple #[.agg #[.int .u64 0, .bool false], .int .i64 e'], ?_, ⟨?_, ?_⟩, ?_⟩
    · simp [results, Tryd.f24, go_sem, e2, e3]
    · intro e2 he; rw [hbad.out] at he; cases he; rfl
    · intro m hm; rw [hbad.out] at hm; cases hm
    · exact HB.out.trans (belowK_b (w := w) (Nat.le_refl _) _ D _ _ (by omega) hK rfl rfl)

/-- A FIELD: what parseField hands back, whichever the field; nothing that lay has turned. -/
theorem parseField_any (k : Nat) (rv : Value) (l : Bytes) (hl : l.length ≤ maxLen) (w : World) (hr : IsRd w rv k) :
    Calls Tryd.prog 24 #[.string ⟨l.toArray⟩, scV (scB k), rv] w fun e W' => FieldPost k l e ∧ Below w.heap.size w W' := by
  obtain ⟨⟨least, most, said⟩, hsc⟩ : ∃ sc, sc = scB k := ⟨_, rfl⟩
  rw [← hsc]
  refine (callsIn_wide (n := 3)).1 ?_
  have h := hr
  rcases h with ⟨_, _, rfl⟩ | ⟨pa, pb, rfl, _⟩
  · exact parseField_n k l hl w least most said hsc hr
  · exact parseField_m k pa pb l hl w least most said hsc hr
end Go.Proofs.YtbbleedepmcdfaaDoor
