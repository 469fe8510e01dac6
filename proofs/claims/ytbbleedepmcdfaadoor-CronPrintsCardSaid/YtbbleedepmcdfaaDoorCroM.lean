/- Walk of package cron: the parse of a text: its fields, one by one. -/
import Derived.Test.YtbbleedepmcdfaaDoorCroL
import Derived.Test.YtbbleedepmcdfaaDoorHeld
set_option linter.unusedSimpArgs false
set_option linter.unusedVariables false
namespace Go.Proofs.YtbbleedepmcdfaaDoor
open Go.ChangeShapes Go.WideShapes Go.ChangeAt Go.RowKit Go.Base Go.Cro Go.Shelf
attribute [local go_sem] Oper.semAt_some

/-- The world ahead of the readers. -/
def paW (w : World) : World := (((w.alloc (.cells #[.int .u64 0, .int .u64 0, .int .u64 0, .int .u64 0, .int .u64 0, .bool false, .bool false] 24)).alloc (.cells #[.int .i64 0] 25)).alloc (.cells #[.int .i64 0] 3)).alloc (.cells #[.int .u64 0, .bool false, .int .u64 0, .bool false, .int .u64 0, .bool false, .int .u64 0, .bool false, .int .u64 0, .bool false] 44)
theorem pa_size (w : World) : (paW w).heap.size = w.heap.size + 4 := by simp [paW]
theorem pa_below (w : World) : Below w.heap.size w (paW w) := by
  unfold paW; exact (((below_alloc _ _).alloc (by simp) _).alloc (by simp; omega) _).alloc (by simp; omega) _
theorem pa_r0 (w : World) : (paW w).heap[w.heap.size]? = some (.cells #[.int .u64 0, .int .u64 0, .int .u64 0, .int .u64 0, .int .u64 0, .bool false, .bool false] 24 (0, 0)) := by
  unfold paW; iterate 3 (refine heap_old _ (by simp <;> omega) ?_)
  exact heap_at _ (by simp)
theorem pa_r1 (w : World) : (paW w).heap[w.heap.size + 1]? = some (.cells #[.int .i64 0] 25 (0, 0)) := by
  unfold paW; iterate 2 (refine heap_old _ (by simp <;> omega) ?_)
  exact heap_at _ (by simp)
theorem pa_r2 (w : World) : (paW w).heap[w.heap.size + 1 + 1]? = some (.cells #[.int .i64 0] 3 (0, 0)) := by
  unfold paW; refine heap_old _ (by simp <;> omega) ?_
  exact heap_at _ (by simp)
theorem pa_r3 (w : World) : (paW w).heap[w.heap.size + 1 + 1 + 1]? = some (.cells #[.int .u64 0, .bool false, .int .u64 0, .bool false, .int .u64 0, .bool false, .int .u64 0, .bool false, .int .u64 0, .bool false] 44 (0, 0)) := by
  unfold paW; exact heap_at _ (by simp)
/-- The world in which the range over the fields begins. -/
def pbW (W1 : World) (rs : Array Value) (s : ByteArray) : World := (((W1.alloc (.cells rs 47)).alloc (.cells #[.int .i64 0] 3)).alloc (.cells #[.string s] 9)).alloc (.cells #[.func (.func 23) #[] #[]] 52)
section
variable (W1 : World) (rs : Array Value) (s : ByteArray)
theorem pb_size : (pbW W1 rs s).heap.size = W1.heap.size + 4 := by simp [pbW]
theorem pb_below : Below W1.heap.size W1 (pbW W1 rs s) := by
  unfold pbW; exact (((below_alloc _ _).alloc (by simp) _).alloc (by simp; omega) _).alloc (by simp; omega) _
theorem pb_r0 : (pbW W1 rs s).heap[W1.heap.size]? = some (.cells rs 47 (0, 0)) := by
  unfold pbW; iterate 3 (refine heap_old _ (by simp <;> omega) ?_)
  exact heap_at _ (by simp)
theorem pb_r1 : (pbW W1 rs s).heap[W1.heap.size + 1]? = some (.cells #[.int .i64 0] 3 (0, 0)) := by
  unfold pbW; iterate 2 (refine heap_old _ (by simp <;> omega) ?_)
  exact heap_at _ (by simp)
theorem pb_r2 : (pbW W1 rs s).heap[W1.heap.size + 1 + 1]? = some (.cells #[.string s] 9 (0, 0)) := by
  unfold pbW; refine heap_old _ (by simp <;> omega) ?_
  exact heap_at _ (by simp)
theorem pb_r3 : (pbW W1 rs s).heap[W1.heap.size + 1 + 1 + 1]? = some (.cells #[.func (.func 23) #[] #[]] 52 (0, 0)) := by
  unfold pbW; exact heap_at _ (by simp)
end

/-- The marks of five fields, those that haven't come being none. -/
def pad (ms : List (Int × Bool)) : Array Value := #[.int .u64 (ms.getD 0 (0, false)).1, .bool (ms.getD 0 (0, false)).2, .int .u64 (ms.getD 1 (0, false)).1, .bool (ms.getD 1 (0, false)).2, .int .u64 (ms.getD 2 (0, false)).1, .bool (ms.getD 2 (0, false)).2, .int .u64 (ms.getD 3 (0, false)).1, .bool (ms.getD 3 (0, false)).2, .int .u64 (ms.getD 4 (0, false)).1, .bool (ms.getD 4 (0, false)).2]

/-- Between two parts: what lies in the call's own blocks. -/
structure PaI (w W1 : World) (rs : Array Value) (pre : List Part) (W : World) : Prop where
  r0 : W.heap[w.heap.size]? = some (.cells #[.int .u64 0, .int .u64 0, .int .u64 0, .int .u64 0, .int .u64 0, .bool false, .bool false] 24 (0, 0))
  r1 : W.heap[w.heap.size + 1]? = some (.cells #[.int .i64 0] 25 (0, 0))
  r2 : W.heap[w.heap.size + 1 + 1]? = some (.cells #[.int .i64 0] 3 (0, 0))
  rr : W.heap[W1.heap.size]? = some (.cells rs 47 (0, 0))
  st : ∃ ms, foldP (fsOf pre) [] = .ok ms ∧ ms.length ≤ 5 ∧ W.heap[W1.heap.size + 1]? = some (.cells #[.int .i64 (ms.length : Nat)] 3 (0, 0)) ∧ W.heap[w.heap.size + 1 + 1 + 1]? = some (.cells (pad ms) 44 (0, 0))
  big : W1.heap.size + 4 ≤ W.heap.size
/-- A field is at fault, or there is one too many. -/
structure PaX (w : World) (c : Code) (pre : List Part) (W : World) : Prop where
  ret : c = .ret
  bad : ∃ e' p, foldP (fsOf pre) [] = .error (e', p) ∧ W.heap[w.heap.size]? = some (.cells #[.int .u64 0, .int .u64 0, .int .u64 0, .int .u64 0, .int .u64 0, .bool false, .bool false] 24 (0, 0)) ∧ W.heap[w.heap.size + 1]? = some (.cells #[.int .i64 e'] 25 (0, 0)) ∧ W.heap[w.heap.size + 1 + 1]? = some (.cells #[.int .i64 (p : Nat)] 3 (0, 0))
/-- The readers' own boxes, from block lo on and below block hi. -/
structure RdC (lo hi : Nat) (a3 b3 a4 b4 : Addr) (W : World) : Prop where
  ca3 : W.cell? a3 = some (.string monthsT)
  cb3 : W.cell? b3 = some (.int .i64 1)
  ca4 : W.cell? a4 = some (.string weekT)
  cb4 : W.cell? b4 = some (.int .i64 0)
  la3 : lo ≤ a3.block ∧ a3.block < hi
  lb3 : lo ≤ b3.block ∧ b3.block < hi
  la4 : lo ≤ a4.block ∧ a4.block < hi
  lb4 : lo ≤ b4.block ∧ b4.block < hi
theorem RdC.below {lo hi n : Nat} {a3 b3 a4 b4 : Addr} {W W' : World} (h : RdC lo hi a3 b3 a4 b4 W) (hb : Below n W W') (hn : hi ≤ n) : RdC lo hi a3 b3 a4 b4 W' := by
  obtain ⟨c1, c2, c3, c4, l1, l2, l3, l4⟩ := h
  exact ⟨(hb.cell (by omega)).trans c1, (hb.cell (by omega)).trans c2, (hb.cell (by omega)).trans c3, (hb.cell (by omega)).trans c4, l1, l2, l3, l4⟩
theorem cell_other {W : World} {a : Addr} {g i : Nat} {u v : Value} (h : W.cell? a = some u) (hg : a.block ≠ g) : (W.setCell ⟨g, i, none⟩ v).cell? a = some u :=
  (World.cell?_of_block (w := W) (a := a) (Below.heap_setCell W ⟨g, i, none⟩ v a.block hg)).trans h
theorem RdC.set {lo hi : Nat} {a3 b3 a4 b4 : Addr} {W : World} (h : RdC lo hi a3 b3 a4 b4 W) (g i : Nat) (v : Value) (hg : g < lo ∨ hi ≤ g) : RdC lo hi a3 b3 a4 b4 (W.setCell ⟨g, i, none⟩ v) := by
  obtain ⟨c1, c2, c3, c4, l1, l2, l3, l4⟩ := h
  exact ⟨cell_other c1 (by omega), cell_other c2 (by omega), cell_other c3 (by omega), cell_other c4 (by omega), l1, l2, l3, l4⟩
theorem RdC.own (lo hi : Nat) (a3 b3 a4 b4 : Addr) : Own (fun (_ : List Part) W => RdC lo hi a3 b3 a4 b4 W) := fun s A B row h hg hr => by
  obtain ⟨c1, c2, c3, c4, l1, l2, l3, l4⟩ := h
  exact ⟨cell_kept c1 hg hr, cell_kept c2 hg hr, cell_kept c3 hg hr, cell_kept c4 hg hr, l1, l2, l3, l4⟩
theorem RdC.is {lo hi : Nat} {a3 b3 a4 b4 : Addr} {W : World} (h : RdC lo hi a3 b3 a4 b4 W) : IsRd W (.func (.func 37) #[] #[]) 0 ∧ IsRd W (.func (.func 37) #[] #[]) 1 ∧ IsRd W (.func (.func 37) #[] #[]) 2 ∧ IsRd W (.func (.func 57) #[] #[.pointer (some a3), .pointer (some b3)]) 3 ∧ IsRd W (.func (.func 57) #[] #[.pointer (some a4), .pointer (some b4)]) 4 :=
  ⟨.inl ⟨by decide, by decide, rfl⟩, .inl ⟨by decide, by decide, rfl⟩, .inl ⟨by decide, by decide, rfl⟩, .inr ⟨_, _, rfl, .inl ⟨rfl, h.ca3, h.cb3⟩⟩, .inr ⟨_, _, rfl, .inr ⟨rfl, h.ca4, h.cb4⟩⟩⟩
theorem paI_own (w W1 : World) (rs : Array Value) : Own (PaI w W1 rs) := fun s A B row hs hg hr => by
  obtain ⟨r0, r1, r2, rr, ⟨ms, h1, h2, r4, r5⟩, hbig⟩ := hs
  exact ⟨row_kept r0 hg hr, row_kept r1 hg hr, row_kept r2 hg hr, row_kept rr hg hr, ⟨ms, h1, h2, row_kept r4 hg hr, row_kept r5 hg hr⟩, Nat.le_trans hbig hg.size⟩
theorem paX_own (w : World) (c : Code) : Own (PaX w c) := fun s A B row hs hg hr => by
  obtain ⟨rfl, ⟨e', p, h, r0, r1, r2⟩⟩ := hs
  exact ⟨rfl, ⟨e', p, h, row_kept r0 hg hr, row_kept r1 hg hr, row_kept r2 hg hr⟩⟩

/-- What a round that has found a fault leaves. -/
def Bad (w : World) (xs : List Part) (W W' : World) : Prop := KeepsOthers W W' ∧ PaX w .ret xs W' ∧ Below w.heap.size w W'
theorem Bad.alloc {w : World} {xs : List Part} {W V : World} (o : Obj) (h : Bad w xs W V) : Bad w xs W (V.alloc o) := by
  obtain ⟨h1, ⟨_, e', p, hf, r0, r1, r2⟩, h3⟩ := h
  exact ⟨h1.trans (KeepsOthers.alloc _ _), ⟨rfl, e', p, hf, heap_old _ (Array.getElem?_eq_some_iff.1 r0).1 r0, heap_old _ (Array.getElem?_eq_some_iff.1 r1).1 r1, heap_old _ (Array.getElem?_eq_some_iff.1 r2).1 r2⟩, h3.alloc h3.size _⟩
theorem Bad.drew {w : World} {xs : List Part} {W V : World} (h : Bad w xs W V) : Bad w xs W V.drew := by
  obtain ⟨h1, ⟨_, e', p, hf, r0, r1, r2⟩, h3⟩ := h
  exact ⟨h1.trans (KeepsOthers.drew _), ⟨rfl, e', p, hf, r0, r1, r2⟩, h3.drew⟩
theorem pa_bad {w : World} {xs : List Part} {W V : World} {e' : Int} {p : Nat} (hbig : w.heap.size + 4 ≤ W.heap.size) (hB : Below w.heap.size w W) (hb : Below W.heap.size W V)
    (R0 : W.heap[w.heap.size]? = some (.cells #[.int .u64 0, .int .u64 0, .int .u64 0, .int .u64 0, .int .u64 0, .bool false, .bool false] 24 (0, 0))) (R1 : W.heap[w.heap.size + 1]? = some (.cells #[.int .i64 0] 25 (0, 0))) (R2 : W.heap[w.heap.size + 1 + 1]? = some (.cells #[.int .i64 0] 3 (0, 0)))
    (hf : foldP (fsOf xs) [] = .error (e', p)) : Bad w xs W (((((((((V.setCell ⟨w.heap.size, 0, none⟩ (.int .u64 0)).setCell ⟨w.heap.size, 1, none⟩ (.int .u64 0)).setCell ⟨w.heap.size, 2, none⟩ (.int .u64 0)).setCell ⟨w.heap.size, 3, none⟩ (.int .u64 0)).setCell ⟨w.heap.size, 4, none⟩ (.int .u64 0)).setCell ⟨w.heap.size, 5, none⟩ (.bool false)).setCell ⟨w.heap.size, 6, none⟩ (.bool false)).setCell ⟨w.heap.size + 1, 0, none⟩ (.int .i64 e')).setCell ⟨w.heap.size + 1 + 1, 0, none⟩ (.int .i64 p)) := by
  have v0 := row_below hb (by omega) R0
  have v1 := row_below hb (by omega) R1
  have v2 := row_below hb (by omega) R2
  refine ⟨((((((((((keepsOthers_below hb).trans (KeepsOthers.setCell _ _ _)).trans (KeepsOthers.setCell _ _ _)).trans (KeepsOthers.setCell _ _ _)).trans (KeepsOthers.setCell _ _ _)).trans (KeepsOthers.setCell _ _ _)).trans (KeepsOthers.setCell _ _ _)).trans (KeepsOthers.setCell _ _ _)).trans (KeepsOthers.setCell _ _ _)).trans (KeepsOthers.setCell _ _ _)), ⟨rfl, e', p, hf, ?_, ?_, ?_⟩, ?_⟩
  · exact row_other _ (by omega) (row_other _ (by omega) (row_set (i := 6) (.bool false) (row_set (i := 5) (.bool false) (row_set (i := 4) (.int .u64 0) (row_set (i := 3) (.int .u64 0) (row_set (i := 2) (.int .u64 0) (row_set (i := 1) (.int .u64 0) (row_set (i := 0) (.int .u64 0) v0))))))))
  · exact row_other _ (by omega) (row_set (i := 0) (.int .i64 e') (row_other _ (by omega) (row_other _ (by omega) (row_other _ (by omega) (row_other _ (by omega) (row_other _ (by omega) (row_other _ (by omega) (row_other _ (by omega) v1))))))))
  · exact row_set (i := 0) (.int .i64 p) (row_other _ (by omega) (row_other _ (by omega) (row_other _ (by omega) (row_other _ (by omega) (row_other _ (by omega) (row_other _ (by omega) (row_other _ (by omega) (row_other _ (by omega) v2))))))))
  · have h0 := hB.trans (hb.mono (by omega))
    iterate 9 (refine Below.setCell ?_ (by simp <;> omega) _)
    exact h0

theorem fieldB_err {k : Nat} {l : Bytes} {e : Int} (h : fieldB k l = .error e) : e = 20 ∨ e = 21 := by
  have hg : ∀ (rd : Bytes → Option Int) (s : Sc) (xs : List Bytes) (b : Int) (st : Bool), fieldFrom rd s xs b st = .error e → e = 20 ∨ e = 21 := by
    intro rd s xs
    induction xs with
    | nil => intro b st h; cases h
    | cons x xs ih =>
      intro b st h
      simp only [fieldFrom] at h
      split at h
      · cases h; exact .inl rfl
      · split at h
        · exact ih _ _ h
        · cases h; exact .inr rfl
  exact hg _ _ _ _ _ h
theorem pad_set (ms : List (Int × Bool)) (m : Int × Bool) (h : ms.length < 5) : ((pad ms).setIfInBounds (2 * ms.length) (.int .u64 m.1)).setIfInBounds (2 * ms.length + 1) (.bool m.2) = pad (ms ++ [m]) := by
  rcases ms with _ | ⟨m0, _ | ⟨m1, _ | ⟨m2, _ | ⟨m3, _ | ⟨m4, _ | ⟨m5, r⟩⟩⟩⟩⟩⟩ <;> first | (simp at h; omega) | rfl
/-- What a round that goes on leaves. -/
def Good (w W1 : World) (rs : Array Value) (a3 b3 a4 b4 : Addr) (xs : List Part) (W W' : World) : Prop := KeepsOthers W W' ∧ Same2 (W1.heap.size + 1 + 1) (W1.heap.size + 1 + 1 + 1) W W' ∧ PaI w W1 rs xs W' ∧ Below w.heap.size w W' ∧ RdC (w.heap.size + 4) W1.heap.size a3 b3 a4 b4 W'
theorem Good.alloc {w W1 : World} {rs : Array Value} {a3 b3 a4 b4 : Addr} {xs : List Part} {W V : World} (o : Obj) (hw : W1.heap.size + 4 ≤ W.heap.size) (h : Good w W1 rs a3 b3 a4 b4 xs W V) : Good w W1 rs a3 b3 a4 b4 xs W (V.alloc o) := by
  obtain ⟨h1, h2, ⟨r0, r1, r2, rr, ⟨ms, hf, hm, r4, r5⟩, hbig⟩, h4, h5⟩ := h
  have q : ∀ {k : Nat} {x : Obj}, V.heap[k]? = some x → (V.alloc o).heap[k]? = some x := fun hx => heap_old o (Array.getElem?_eq_some_iff.1 hx).1 hx
  refine ⟨h1.trans (KeepsOthers.alloc _ _), ⟨?_, ?_⟩, ⟨q r0, q r1, q r2, q rr, ⟨ms, hf, hm, q r4, q r5⟩, by simp; omega⟩, h4.alloc h4.size _, h5.below (below_alloc V o) (by omega)⟩
  · rw [Below.heap_alloc V o _ (by omega)]; exact h2.1
  · rw [Below.heap_alloc V o _ (by omega)]; exact h2.2
theorem Good.drew {w W1 : World} {rs : Array Value} {a3 b3 a4 b4 : Addr} {xs : List Part} {W V : World} (h : Good w W1 rs a3 b3 a4 b4 xs W V) : Good w W1 rs a3 b3 a4 b4 xs W V.drew := by
  obtain ⟨h1, h2, ⟨r0, r1, r2, rr, hst, hbig⟩, h4, ⟨c1, c2, c3, c4, l1, l2, l3, l4⟩⟩ := h
  exact ⟨h1.trans (KeepsOthers.drew _), h2, ⟨r0, r1, r2, rr, hst, hbig⟩, h4.drew, ⟨c1, c2, c3, c4, l1, l2, l3, l4⟩⟩
theorem pa_good {w W1 : World} {rs : Array Value} {a3 b3 a4 b4 : Addr} {xs : List Part} {W V : World} {ms : List (Int × Bool)} {m : Int × Bool} (h1 : w.heap.size + 4 ≤ W1.heap.size) (hbig : W1.heap.size + 4 ≤ W.heap.size) (hB : Below w.heap.size w W) (hb : Below W.heap.size W V)
    (R0 : W.heap[w.heap.size]? = some (.cells #[.int .u64 0, .int .u64 0, .int .u64 0, .int .u64 0, .int .u64 0, .bool false, .bool false] 24 (0, 0))) (R1 : W.heap[w.heap.size + 1]? = some (.cells #[.int .i64 0] 25 (0, 0))) (R2 : W.heap[w.heap.size + 1 + 1]? = some (.cells #[.int .i64 0] 3 (0, 0)))
    (R3 : W.heap[W1.heap.size]? = some (.cells rs 47 (0, 0))) (R4 : W.heap[W1.heap.size + 1]? = some (.cells #[.int .i64 (ms.length : Nat)] 3 (0, 0))) (R5 : W.heap[w.heap.size + 1 + 1 + 1]? = some (.cells (pad ms) 44 (0, 0))) (hr : RdC (w.heap.size + 4) W1.heap.size a3 b3 a4 b4 W)
    (hlen : ms.length < 5) (hf : foldP (fsOf xs) [] = .ok (ms ++ [m])) :
    Good w W1 rs a3 b3 a4 b4 xs W (((V.setCell ⟨w.heap.size + 1 + 1 + 1, 2 * ms.length, none⟩ (.int .u64 m.1)).setCell ⟨w.heap.size + 1 + 1 + 1, 2 * ms.length + 1, none⟩ (.bool m.2)).setCell ⟨W1.heap.size + 1, 0, none⟩ (.int .i64 ((ms.length : Nat) + 1))) := by
  have hsz := hb.size
  have v0 := row_below hb (by omega) R0
  have v1 := row_below hb (by omega) R1
  have v2 := row_below hb (by omega) R2
  have v3 := row_below hb (by omega) R3
  have v4 := row_below hb (by omega) R4
  have v5 := row_below hb (by omega) R5
  refine ⟨((keepsOthers_below hb).trans (KeepsOthers.setCell _ _ _)).trans (KeepsOthers.setCell _ _ _) |>.trans (KeepsOthers.setCell _ _ _), ⟨?_, ?_⟩, ⟨?_, ?_, ?_, ?_, ⟨ms ++ [m], hf, by simp; omega, ?_, ?_⟩, by simp; omega⟩, ?_, ?_⟩
  · rw [Below.heap_setCell _ _ _ _ (by show _ ≠ W1.heap.size + 1; omega), Below.heap_setCell _ _ _ _ (by show _ ≠ w.heap.size + 1 + 1 + 1; omega), Below.heap_setCell _ _ _ _ (by show _ ≠ w.heap.size + 1 + 1 + 1; omega)]; exact hb.block _ (by omega)
  · rw [Below.heap_setCell _ _ _ _ (by show _ ≠ W1.heap.size + 1; omega), Below.heap_setCell _ _ _ _ (by show _ ≠ w.heap.size + 1 + 1 + 1; omega), Below.heap_setCell _ _ _ _ (by show _ ≠ w.heap.size + 1 + 1 + 1; omega)]; exact hb.block _ (by omega)
  · exact row_other _ (by omega) (row_other _ (by omega) (row_other _ (by omega) v0))
  · exact row_other _ (by omega) (row_other _ (by omega) (row_other _ (by omega) v1))
  · exact row_other _ (by omega) (row_other _ (by omega) (row_other _ (by omega) v2))
  · exact row_other _ (by omega) (row_other _ (by omega) (row_other _ (by omega) v3))
  · have := row_set (i := 0) (.int .i64 ((ms.length : Nat) + 1)) (row_other (i := 2 * ms.length + 1) (g := w.heap.size + 1 + 1 + 1) (.bool m.2) (by omega) (row_other (i := 2 * ms.length) (g := w.heap.size + 1 + 1 + 1) (.int .u64 m.1) (by omega) v4))
    simpa using this
  · have := row_set (i := 2 * ms.length + 1) (.bool m.2) (row_set (i := 2 * ms.length) (.int .u64 m.1) v5)
    rw [pad_set ms m hlen] at this
    exact row_other _ (by omega) this
  · have h0 := hB.trans (hb.mono (by omega))
    iterate 3 (refine Below.setCell ?_ (by simp <;> omega) _)
    exact h0
  · exact (((hr.below hb (by omega)).set _ _ _ (by omega)).set _ _ _ (by omega)).set _ _ _ (by omega)

theorem kept_drew {w w1 : World} {cs : Array Value} {t : TypeId} (hb : Below (w.alloc (.cells cs t)).drew.heap.size (w.alloc (.cells cs t)).drew w1) : w1.heap[w.heap.size]? = some (.cells cs t (0, 0)) := by
  rw [hb.block _ (by show _ < (w.alloc (.cells cs t)).heap.size; simp)]; exact heap_new _ _
theorem pa_good' {w W1 : World} {rs : Array Value} {a3 b3 a4 b4 : Addr} {xs : List Part} {W V : World} {ms : List (Int × Bool)} (n i j : Nat) (q : Int) (hn : ms.length = n) (hi : 2 * n = i) (hj : 2 * n + 1 = j) (hq : (n : Int) + 1 = q) {b : Int} {t : Bool} (h1 : w.heap.size + 4 ≤ W1.heap.size) (hbig : W1.heap.size + 4 ≤ W.heap.size) (hB : Below w.heap.size w W) (hb : Below W.heap.size W V)
    (R0 : W.heap[w.heap.size]? = some (.cells #[.int .u64 0, .int .u64 0, .int .u64 0, .int .u64 0, .int .u64 0, .bool false, .bool false] 24 (0, 0))) (R1 : W.heap[w.heap.size + 1]? = some (.cells #[.int .i64 0] 25 (0, 0))) (R2 : W.heap[w.heap.size + 1 + 1]? = some (.cells #[.int .i64 0] 3 (0, 0)))
    (R3 : W.heap[W1.heap.size]? = some (.cells rs 47 (0, 0))) (R4 : W.heap[W1.heap.size + 1]? = some (.cells #[.int .i64 (ms.length : Nat)] 3 (0, 0))) (R5 : W.heap[w.heap.size + 1 + 1 + 1]? = some (.cells (pad ms) 44 (0, 0))) (hr : RdC (w.heap.size + 4) W1.heap.size a3 b3 a4 b4 W)
    (hlen : ms.length < 5) (hf : foldP (fsOf xs) [] = .ok (ms ++ [(b, t)])) :
    Good w W1 rs a3 b3 a4 b4 xs W (((V.setCell ⟨w.heap.size + 1 + 1 + 1, i, none⟩ (.int .u64 b)).setCell ⟨w.heap.size + 1 + 1 + 1, j, none⟩ (.bool t)).setCell ⟨W1.heap.size + 1, 0, none⟩ (.int .i64 q)) := by
  subst hi hj hq hn
  exact pa_good (m := (b, t)) h1 hbig hB hb R0 R1 R2 R3 R4 R5 hr hlen hf

/-- The three results' blocks, behind the stores. -/
def Fin3 (w W V : World) (a : Array Value) (e' p : Int) : Prop := KeepsOthers W V ∧ Below w.heap.size w V ∧ V.heap[w.heap.size]? = some (.cells a 24 (0, 0)) ∧ V.heap[w.heap.size + 1]? = some (.cells #[.int .i64 e'] 25 (0, 0)) ∧ V.heap[w.heap.size + 1 + 1]? = some (.cells #[.int .i64 p] 3 (0, 0))
theorem Fin3.drew {w W V : World} {a : Array Value} {e' p : Int} (h : Fin3 w W V a e' p) : Fin3 w W V.drew a e' p := ⟨h.1.trans (KeepsOthers.drew _), h.2.1.drew, h.2.2⟩
theorem fin9 {w W V : World} (v0 v1 v2 v3 v4 v5 v6 : Value) (e' p : Int) (hbig : w.heap.size + 4 ≤ W.heap.size) (hB : Below w.heap.size w W) (hb : Below W.heap.size W V)
    (R0 : W.heap[w.heap.size]? = some (.cells #[.int .u64 0, .int .u64 0, .int .u64 0, .int .u64 0, .int .u64 0, .bool false, .bool false] 24 (0, 0))) (R1 : W.heap[w.heap.size + 1]? = some (.cells #[.int .i64 0] 25 (0, 0))) (R2 : W.heap[w.heap.size + 1 + 1]? = some (.cells #[.int .i64 0] 3 (0, 0))) :
    Fin3 w W (((((((((V.setCell ⟨w.heap.size, 0, none⟩ v0).setCell ⟨w.heap.size, 1, none⟩ v1).setCell ⟨w.heap.size, 2, none⟩ v2).setCell ⟨w.heap.size, 3, none⟩ v3).setCell ⟨w.heap.size, 4, none⟩ v4).setCell ⟨w.heap.size, 5, none⟩ v5).setCell ⟨w.heap.size, 6, none⟩ v6).setCell ⟨w.heap.size + 1, 0, none⟩ (.int .i64 e')).setCell ⟨w.heap.size + 1 + 1, 0, none⟩ (.int .i64 p)) #[v0, v1, v2, v3, v4, v5, v6] e' p := by
  have r0 := row_below hb (by omega) R0
  have r1 := row_below hb (by omega) R1
  have r2 := row_below hb (by omega) R2
  refine ⟨((((((((((keepsOthers_below hb).trans (KeepsOthers.setCell _ _ _)).trans (KeepsOthers.setCell _ _ _)).trans (KeepsOthers.setCell _ _ _)).trans (KeepsOthers.setCell _ _ _)).trans (KeepsOthers.setCell _ _ _)).trans (KeepsOthers.setCell _ _ _)).trans (KeepsOthers.setCell _ _ _)).trans (KeepsOthers.setCell _ _ _)).trans (KeepsOthers.setCell _ _ _)), ?_, ?_, ?_, ?_⟩
  · have h0 := hB.trans (hb.mono (by omega))
    iterate 9 (refine Below.setCell ?_ (by simp <;> omega) _)
    exact h0
  · exact row_other _ (by omega) (row_other _ (by omega) (row_set (i := 6) v6 (row_set (i := 5) v5 (row_set (i := 4) v4 (row_set (i := 3) v3 (row_set (i := 2) v2 (row_set (i := 1) v1 (row_set (i := 0) v0 r0))))))))
  · exact row_other _ (by omega) (row_set (i := 0) (.int .i64 e') (row_other _ (by omega) (row_other _ (by omega) (row_other _ (by omega) (row_other _ (by omega) (row_other _ (by omega) (row_other _ (by omega) (row_other _ (by omega) r1))))))))
  · exact row_set (i := 0) (.int .i64 p) (row_other _ (by omega) (row_other _ (by omega) (row_other _ (by omega) (row_other _ (by omega) (row_other _ (by omega) (row_other _ (by omega) (row_other _ (by omega) (row_other _ (by omega) r2))))))))

theorem fin_put {w W V : World} {a : Array Value} {e' p : Int} {D : Nat} (h : Fin3 w W V a e' p) (hK : V.heap[D]? = some (.deferred (some []))) (hD : w.heap.size ≤ D) :
    ((V.putObj D (.deferred none)).heap[w.heap.size]? = some (.cells a 24 (0, 0)) ∧ (V.putObj D (.deferred none)).heap[w.heap.size + 1]? = some (.cells #[.int .i64 e'] 25 (0, 0)) ∧ (V.putObj D (.deferred none)).heap[w.heap.size + 1 + 1]? = some (.cells #[.int .i64 p] 3 (0, 0))) ∧ Below w.heap.size w (V.putObj D (.deferred none)) := by
  obtain ⟨h1, h2, r0, r1, r2⟩ := h
  exact ⟨⟨row_kept r0 (grownBy_putObj' _ D (.deferred none)) (fun r e => by cases e; exact ⟨_, hK, rfl⟩), row_kept r1 (grownBy_putObj' _ D (.deferred none)) (fun r e => by cases e; exact ⟨_, hK, rfl⟩), row_kept r2 (grownBy_putObj' _ D (.deferred none)) (fun r e => by cases e; exact ⟨_, hK, rfl⟩)⟩,
    h2.trans (belowK_b (w := w) (Nat.le_refl _) _ D _ _ hD hK rfl rfl)⟩

/-- What the call of parseField and its neighbours read. -/
abbrev PaS (g4 gr n : Nat) (least most said : Int) (rv : Value) (W w' : World) : Prop :=
  w'.cell? ⟨g4, 0, none⟩ = some (.int .i64 (n : Nat)) ∧ w'.cell? ⟨0, n * 3, none⟩ = some (.int .i64 least) ∧ w'.cell? ⟨0, n * 3 + 1, none⟩ = some (.int .i64 most) ∧ w'.cell? ⟨0, n * 3 + 2, none⟩ = some (.int .i64 said) ∧ w'.cell? ⟨gr, n, none⟩ = some rv ∧ Below W.heap.size W w'
theorem PaS.later {g4 gr n : Nat} {least most said : Int} {rv : Value} {W V : World} (h : PaS g4 gr n least most said rv W W) (hb : Below W.heap.size W V) : PaS g4 gr n least most said rv W V := by
  obtain ⟨h1, h2, h3, h4, h5, _⟩ := h
  exact ⟨(hb.cell (World.block_lt_of_cell? _ _ h1)).trans h1, (hb.cell (World.block_lt_of_cell? _ _ h2)).trans h2, (hb.cell (World.block_lt_of_cell? _ _ h3)).trans h3, (hb.cell (World.block_lt_of_cell? _ _ h4)).trans h4, (hb.cell (World.block_lt_of_cell? _ _ h5)).trans h5, hb⟩

set_option maxRecDepth 100000 in
set_option maxHeartbeats 4000000 in
theorem parse_in (l : Bytes) (hl : l.length ≤ 256) (w : World) (hsc : ScTab w) :
    CallsIn Fence.wide 3 Tryd.prog 10 #[.string ⟨l.toArray⟩] w fun e W' => ParsePost l e ∧ Below w.heap.size w W' := by
  have HSC := Lib.hid hsc
  have hlm : l.length ≤ maxLen := by unfold maxLen; omega
  have hs : ¬ (256 : Int) < (l.length : Int) := by omega
  have HP : Hid (parseB l = parseFrom (fieldsB l) 0 []) := Lib.hid (by unfold parseB; rw [if_neg (by omega)])
  clear hsc
  refine callsIn_of_wp_marks Tryd.func10 rfl trivial ?_ rfl
  simp only [Tryd.ntmps10, List.size_toArray, List.length_cons, List.length_nil, Nat.reduceAdd, Nat.reduceSub, Array.replicate_succ, Array.replicate_zero, List.push_toArray, List.append_toArray, List.nil_append, List.cons_append]
  gi_wp2_with fail
  refine ⟨trivial, ?_⟩
  change CallsIn _ _ _ _ _ (paW w) _
  refine (callsIn_wide.2 (readers_any _)).mono ?_
  rintro e W1 ⟨a3, b3, a4, b4, rfl, hq, hlo, hb1⟩
  have z1 := hb1.size
  rw [pa_size] at z1
  rw [pa_size] at hlo
  have hrd : RdC (w.heap.size + 4) W1.heap.size a3 b3 a4 b4 W1 := ⟨hq.1, hq.2.1, hq.2.2.1, hq.2.2.2, ⟨hlo.1, World.block_lt_of_cell? _ _ hq.1⟩, ⟨hlo.2.1, World.block_lt_of_cell? _ _ hq.2.1⟩, ⟨hlo.2.2.1, World.block_lt_of_cell? _ _ hq.2.2.1⟩, ⟨hlo.2.2.2, World.block_lt_of_cell? _ _ hq.2.2.2⟩⟩
  have HQ := Lib.hid hrd
  have hbW1 : Below w.heap.size w W1 := (pa_below w).trans (hb1.mono (by rw [pa_size]; omega))
  have v0 := row_below hb1 (by rw [pa_size]; omega) (pa_r0 w)
  have v1 := row_below hb1 (by rw [pa_size]; omega) (pa_r1 w)
  have v2 := row_below hb1 (by rw [pa_size]; omega) (pa_r2 w)
  have v3 := row_below hb1 (by rw [pa_size]; omega) (pa_r3 w)
  have HB1 := Lib.hid hb1
  have V0 := Lib.hid v0
  have V1 := Lib.hid v1
  have V2 := Lib.hid v2
  have V3 := Lib.hid v3
  clear hq hrd hlo hb1 v0 v1 v2 v3
  gi_wp2_with (refine ⟨trivial, ?_⟩; gi_at_call 22; refine (callsIn_wide.2 (split_call _ _ _)).mono ?_; rintro e w' ⟨rfl, rfl⟩)
  change Code.wpIn _ _ _ _ _ _ (pbW W1 #[.func (.func 37) #[] #[], .func (.func 37) #[] #[], .func (.func 37) #[] #[], .func (.func 57) #[] #[.pointer (some a3), .pointer (some b3)], .func (.func 57) #[] #[.pointer (some a4), .pointer (some b4)]] ⟨l.toArray⟩)
  have hz := pb_size W1 #[.func (.func 37) #[] #[], .func (.func 37) #[] #[], .func (.func 37) #[] #[], .func (.func 57) #[] #[.pointer (some a3), .pointer (some b3)], .func (.func 57) #[] #[.pointer (some a4), .pointer (some b4)]] ⟨l.toArray⟩
  have hbb := pb_below W1 #[.func (.func 37) #[] #[], .func (.func 37) #[] #[], .func (.func 37) #[] #[], .func (.func 57) #[] #[.pointer (some a3), .pointer (some b3)], .func (.func 57) #[] #[.pointer (some a4), .pointer (some b4)]] ⟨l.toArray⟩
  have u0 := pb_r0 W1 #[.func (.func 37) #[] #[], .func (.func 37) #[] #[], .func (.func 37) #[] #[], .func (.func 57) #[] #[.pointer (some a3), .pointer (some b3)], .func (.func 57) #[] #[.pointer (some a4), .pointer (some b4)]] ⟨l.toArray⟩
  have u1 := pb_r1 W1 #[.func (.func 37) #[] #[], .func (.func 37) #[] #[], .func (.func 37) #[] #[], .func (.func 57) #[] #[.pointer (some a3), .pointer (some b3)], .func (.func 57) #[] #[.pointer (some a4), .pointer (some b4)]] ⟨l.toArray⟩
  have c5 := (cells_of_heap (pb_r2 W1 #[.func (.func 37) #[] #[], .func (.func 37) #[] #[], .func (.func 37) #[] #[], .func (.func 57) #[] #[.pointer (some a3), .pointer (some b3)], .func (.func 57) #[] #[.pointer (some a4), .pointer (some b4)]] ⟨l.toArray⟩)).1 0
  have c6 := (cells_of_heap (pb_r3 W1 #[.func (.func 37) #[] #[], .func (.func 37) #[] #[], .func (.func 37) #[] #[], .func (.func 57) #[] #[.pointer (some a3), .pointer (some b3)], .func (.func 57) #[] #[.pointer (some a4), .pointer (some b4)]] ⟨l.toArray⟩)).1 0
  have t0 := row_below hbb (by omega) V0.out
  have t1 := row_below hbb (by omega) V1.out
  have t2 := row_below hbb (by omega) V2.out
  have t3 := row_below hbb (by omega) V3.out
  have hbw := hbW1.trans (hbb.mono (by omega))
  have hrc := HQ.out.below hbb (Nat.le_refl _)
  generalize pbW W1 #[.func (.func 37) #[] #[], .func (.func 37) #[] #[], .func (.func 37) #[] #[], .func (.func 57) #[] #[.pointer (some a3), .pointer (some b3)], .func (.func 57) #[] #[.pointer (some a4), .pointer (some b4)]] ⟨l.toArray⟩ = W0 at *
  clear HQ V0 V1 V2 V3
  have hsz : (⟨l.toArray⟩ : ByteArray).size ≤ maxLen := by simpa [ByteArray.size] using hlm
  have hsplit := split_blank 2 (by omega) ⟨l.toArray⟩ hsz (W1.heap.size + 1 + 1) (W1.heap.size + 1 + 1 + 1) W0 (by omega) (by omega) c5 c6
  have hpad : Hid (pad [] = #[.int .u64 0, .bool false, .int .u64 0, .bool false, .int .u64 0, .bool false, .int .u64 0, .bool false, .int .u64 0, .bool false]) := Lib.hid rfl
  refine wpIn_rangeFunc_ownF rfl (by omega) (gf := 39) (lb := #[.pointer (some ⟨W1.heap.size + 1 + 1, 0, none⟩), .pointer (some ⟨W1.heap.size + 1 + 1 + 1, 0, none⟩)]) rfl trivial (enters_of Tryd.func39 (by kernel_rfl) rfl)
    hsplit Same2.trans (same2_b (by omega) (by omega)) (Below.refl _ _) (fun _ => rfl)
    (fun pre W => PaI w W1 #[.func (.func 37) #[] #[], .func (.func 37) #[] #[], .func (.func 37) #[] #[], .func (.func 57) #[] #[.pointer (some a3), .pointer (some b3)], .func (.func 57) #[] #[.pointer (some a4), .pointer (some b4)]] pre W ∧ Below w.heap.size w W ∧ RdC (w.heap.size + 4) W1.heap.size a3 b3 a4 b4 W)
    (fun c pre W => PaX w c pre W ∧ Below w.heap.size w W)
    (OwnFrom.and (Own.from (paI_own w W1 _) _) (OwnFrom.and (ownFrom_below (Nat.le_refl _) (by omega)) (Own.from (RdC.own _ _ a3 b3 a4 b4) _)))
    (fun c => OwnFrom.and (Own.from (paX_own w c) _) (ownFrom_below (Nat.le_refl _) (by omega)))
    ⟨⟨t0, t1, t2, u0, ⟨[], rfl, by decide, u1, t3⟩, by omega⟩, hbw, hrc⟩
    (fun x => { tmps := #[.string ⟨l.toArray⟩, undef, .pointer (some ⟨w.heap.size, 0, none⟩), .pointer (some ⟨w.heap.size + 1, 0, none⟩), .pointer (some ⟨w.heap.size + 1 + 1, 0, none⟩), .pointer (some ⟨w.heap.size + 1 + 1 + 1, 0, none⟩), .pointer (some ⟨W1.heap.size, 0, none⟩), .pointer (some ⟨W1.heap.size + 1, 0, none⟩), .string ⟨x.1.toArray⟩, undef, undef, .string ⟨l.toArray⟩, .int .i64 (l.length : Nat), .bool false, undef, .agg #[.func (.func 37) #[] #[], .func (.func 37) #[] #[], .func (.func 37) #[] #[], .func (.func 57) #[] #[.pointer (some a3), .pointer (some b3)], .func (.func 57) #[] #[.pointer (some a4), .pointer (some b4)]], .string ⟨l.toArray⟩, .func (.func 39) #[] #[.pointer (some ⟨W1.heap.size + 1 + 1, 0, none⟩), .pointer (some ⟨W1.heap.size + 1 + 1 + 1, 0, none⟩)], .string ⟨x.1.toArray⟩, undef, undef, undef, undef, undef, undef, undef, undef, undef, undef, undef, undef, undef, undef, undef, undef, undef, undef, undef, undef, undef, undef, undef, undef, undef, undef, undef, undef, undef, undef, undef, undef, undef], defers := [] }) ?assign ?body ?done ?stop
  case assign =>
    intro l0 x W K hK
    dsimp only [encP]
    gi_wp2
    exact hK
  case body =>
    clear t0 t1 t2 t3 u0 u1 c5 c6 hsplit hz hbb hbw hsz hl hlm hrc hs
    rintro l0 pre x W ⟨⟨r0, r1, r2, rr, ⟨ms, hfold, hms, r4, r5⟩, hbig⟩, hB, hR⟩ hlen
    have hd1 : 1 ≤ 3 - 1 - 1 := by decide
    have hmx : Tryd.prog.follows .mixedOrders = true := by kernel_rfl
    by_cases hx : x.1 = []
    · have hsame : fsOf (pre ++ [x]) = fsOf pre := by unfold fsOf; simp [hx]
      have HI := Lib.hid (show PaI w W1 #[.func (.func 37) #[] #[], .func (.func 37) #[] #[], .func (.func 37) #[] #[], .func (.func 57) #[] #[.pointer (some a3), .pointer (some b3)], .func (.func 57) #[] #[.pointer (some a4), .pointer (some b4)]] (pre ++ [x]) W from ⟨r0, r1, r2, rr, ⟨ms, by rw [hsame]; exact hfold, hms, r4, r5⟩, hbig⟩)
      have HB := Lib.hid hB
      have HRW := Lib.hid hR
      clear r0 r1 r2 rr r4 r5 hfold hB hR hsame
      gi_wp2_with fail
      exact ⟨KeepsOthers.refl _, ⟨rfl, rfl⟩, HI.out, HB.out, HRW.out⟩
    · have hsame : fsOf (pre ++ [x]) = fsOf pre ++ [x.1] := by unfold fsOf; simp [hx]
      have hx1 : (x.1 == []) = false := by simpa using hx
      have hx2 : x.1.isEmpty = false := by simpa using hx
      have happ : Hid (foldP (fsOf (pre ++ [x])) [] = foldP [x.1] ms) := Lib.hid (by rw [hsame, foldP_append, hfold])
      have z4 := hbig
      have y0 : w.heap.size < W.heap.size := (by omega)
      have y1 : w.heap.size + 1 < W.heap.size := (by omega)
      have y2 : w.heap.size + 1 + 1 < W.heap.size := (by omega)
      have y3 : w.heap.size + 1 + 1 + 1 < W.heap.size := (by omega)
      have y4 : W1.heap.size < W.heap.size := (by omega)
      have y5 : W1.heap.size + 1 < W.heap.size := (by omega)
      obtain ⟨c0, f0⟩ := cells_of_heap r0
      obtain ⟨c1, f1⟩ := cells_of_heap r1
      obtain ⟨c2, f2⟩ := cells_of_heap r2
      obtain ⟨cr, _⟩ := cells_of_heap rr
      obtain ⟨c4, f4⟩ := cells_of_heap r4
      have R0 := Lib.hid r0
      have R1 := Lib.hid r1
      have R2 := Lib.hid r2
      have R3 := Lib.hid rr
      have R4 := Lib.hid r4
      have R5 := Lib.hid r5
      have HB := Lib.hid hB
      have HRW := Lib.hid hR
      clear r0 r1 r2 rr r4 r5 hfold hB hR hsame hx
      by_cases h5 : ms.length = 5
      · have hbad : Hid (foldP [x.1] ms = .error (20, 5)) := Lib.hid (by simp only [foldP]; rw [if_pos h5])
        rw [h5] at c4
        clear h5 hms R5 cr
        gi_wp2_with fail
        gi_region_with_o (fail)
        all_goals gi_wp2
        all_goals exact (pa_bad (p := 5) (by omega) HB.out (Below.refl _ _) R0.out R1.out R2.out (by rw [happ.out, hbad.out])).drew
      · have hd := HRW.out.is
        have hcase : ms.length = 0 ∨ ms.length = 1 ∨ ms.length = 2 ∨ ms.length = 3 ∨ ms.length = 4 := by omega
        have H5 := Lib.hid h5
        clear hms h5
        obtain ⟨n, hn⟩ : ∃ n, ms.length = n := ⟨_, rfl⟩
        have hn5 : n < 5 := by omega
        have hlt : ms.length < 5 := by omega
        obtain ⟨rv, hrv, hrd⟩ : ∃ rv, (#[.func (.func 37) #[] #[], .func (.func 37) #[] #[], .func (.func 37) #[] #[], .func (.func 57) #[] #[.pointer (some a3), .pointer (some b3)], .func (.func 57) #[] #[.pointer (some a4), .pointer (some b4)]] : Array Value)[n]? = some rv ∧ IsRd W rv n := by
          obtain ⟨hd0, hd1', hd2, hd3, hd4⟩ := hd
          rcases n with _ | _ | _ | _ | _ | n
          · exact ⟨_, rfl, hd0⟩
          · exact ⟨_, rfl, hd1'⟩
          · exact ⟨_, rfl, hd2⟩
          · exact ⟨_, rfl, hd3⟩
          · exact ⟨_, rfl, hd4⟩
          · omega
        have crv := (cr n).trans hrv
        obtain ⟨least, most, said, hsc, s0, s1, s2⟩ : ∃ least most said, (⟨least, most, said⟩ : Sc) = scB n ∧ W.cell? ⟨0, n * 3, none⟩ = some (.int .i64 least) ∧ W.cell? ⟨0, n * 3 + 1, none⟩ = some (.int .i64 most) ∧ W.cell? ⟨0, n * 3 + 2, none⟩ = some (.int .i64 said) := by
          have hsc := HSC.out.later HB.out
          rcases n with _ | _ | _ | _ | _ | n
          · exact ⟨_, _, _, rfl, hsc 0 (by decide), hsc 1 (by decide), hsc 2 (by decide)⟩
          · exact ⟨_, _, _, rfl, hsc 3 (by decide), hsc 4 (by decide), hsc 5 (by decide)⟩
          · exact ⟨_, _, _, rfl, hsc 6 (by decide), hsc 7 (by decide), hsc 8 (by decide)⟩
          · exact ⟨_, _, _, rfl, hsc 9 (by decide), hsc 10 (by decide), hsc 11 (by decide)⟩
          · exact ⟨_, _, _, rfl, hsc 12 (by decide), hsc 13 (by decide), hsc 14 (by decide)⟩
          · omega
        have yg := World.block_lt_of_cell? _ _ s0
        simp only at yg
        have hone : Hid (foldP [x.1] ms = match fieldB n x.1 with | .error e => .error (e, n) | .ok m => .ok (ms ++ [m])) := Lib.hid (by simp only [foldP]; rw [if_neg H5.out, hn]; rfl)
        have HF : Hid (∀ V, Below W.heap.size W V → Calls Tryd.prog 24 #[.string ⟨x.1.toArray⟩, .agg #[.int .i64 least, .int .i64 most, .int .i64 said], rv] V fun e V' => FieldPost n x.1 e ∧ Below V.heap.size V V') :=
          Lib.hid (fun V hV => by have := parseField_any n rv x.1 x.2 V (hrd.later hV); rw [← hsc] at this; exact this)
        obtain ⟨bb, bt, be, hval, hcases⟩ : ∃ (bb : Int) (bt : Bool) (be : Int), (∀ e, FieldPost n x.1 e → e = .returned (.tuple #[.agg #[.int .u64 bb, .bool bt], .int .i64 be])) ∧ ((be = 0 ∧ foldP [x.1] ms = .ok (ms ++ [(bb, bt)])) ∨ ((be = 20 ∨ be = 21) ∧ foldP [x.1] ms = .error (be, n))) := by
          cases hfb : fieldB n x.1 with
          | error e' => exact ⟨0, false, e', fun e h => h.1 e' hfb, .inr ⟨fieldB_err hfb, by rw [hone.out, hfb]⟩⟩
          | ok m => exact ⟨m.1, m.2, 0, fun e h => h.2 m hfb, .inl ⟨rfl, by rw [hone.out, hfb]⟩⟩
        have HV : Hid (∀ V, Below W.heap.size W V → Calls Tryd.prog 24 #[.string ⟨x.1.toArray⟩, .agg #[.int .i64 least, .int .i64 most, .int .i64 said], rv] V fun e V' => e = .returned (.tuple #[.agg #[.int .u64 bb, .bool bt], .int .i64 be]) ∧ Below V.heap.size V V') :=
          Lib.hid (fun V hV => (HF.out V hV).mono fun e V' h => ⟨hval e h.1, h.2⟩)
        have HC := Lib.hid hcases
        have RR4 := R4
        have HN := Lib.hid hn
        rw [hn] at c4
        have HT := Lib.hid hlt
        clear hval hcases HF hone hrd hrv hsc hd cr hn R4 hlt hcase
        have R4 : Hid (W.heap[W1.heap.size + 1]? = some (.cells #[.int .i64 (n : Nat)] 3 (0, 0))) := Lib.hid (by have := RR4.out; rw [HN.out] at this; exact this)
        gi_wp2_with fail
        have hnq : (0 : Int) ≤ (n : Int) ∧ (n : Int) < 5 := by omega
        have hS0 := Lib.hid (fun (V : World) (hb : Below W.heap.size W V) => PaS.later (g4 := W1.heap.size + 1) (gr := W1.heap.size) (n := n) ⟨c4 0, s0, s1, s2, crv, Below.refl _ _⟩ hb)
        refine wpIn_region_heldR (l := l0) (S := PaS (W1.heap.size + 1) (W1.heap.size) n least most said rv W) hmx (by kernel_rfl) (by rintro ⟨_, _, h⟩; exact h) (hS0.out _ (Below.refl _ _).drew) (fun hHeld => ?_)
        clear c4 s0 s1 s2 crv
        refine wpAnyH_take (i := 0) (v := ?v1) rfl (by kernel_rfl) (by kernel_rfl) (by kernel_rfl) (fun _ _ _ h => h) (Or.inl ⟨by rfl, ?hy1⟩) hHeld ?rest1
        case hy1 => (intro w' hSw; unfold PaS at hSw; go_simp; try with_reducible rfl)
        try simp only [Act.put, List.setIfInBounds_toArray, List.set_cons_zero, List.set_cons_succ, List.getElem_toArray, List.getElem_cons_succ, List.getElem_cons_zero]
        refine wpAnyH_take (i := 1) (v := ?v2) rfl (by kernel_rfl) (by kernel_rfl) (by kernel_rfl) (fun _ _ _ h => h) (Or.inl ⟨by rfl, ?hy2⟩) hHeld ?rest2
        case hy2 => (intro w' hSw; unfold PaS at hSw; go_simp; try with_reducible rfl)
        try simp only [Act.put, List.setIfInBounds_toArray, List.set_cons_zero, List.set_cons_succ, List.getElem_toArray, List.getElem_cons_succ, List.getElem_cons_zero]
        refine wpAnyH_take (i := 2) (v := ?v3) rfl (by kernel_rfl) (by kernel_rfl) (by kernel_rfl) (fun _ _ _ h => h) (Or.inl ⟨by rfl, ?hy3⟩) hHeld ?rest3
        case hy3 => (intro w' hSw; unfold PaS at hSw; go_simp; try with_reducible rfl)
        try simp only [Act.put, List.setIfInBounds_toArray, List.set_cons_zero, List.set_cons_succ, List.getElem_toArray, List.getElem_cons_succ, List.getElem_cons_zero]
        refine wpAnyH_take (i := 3) (v := ?v4) rfl (by kernel_rfl) (by kernel_rfl) (by kernel_rfl) (fun _ _ _ h => h) (Or.inl ⟨by rfl, ?hy4⟩) hHeld ?rest4
        case hy4 => (intro w' hSw; unfold PaS at hSw; go_simp; try with_reducible rfl)
        try simp only [Act.put, List.setIfInBounds_toArray, List.set_cons_zero, List.set_cons_succ, List.getElem_toArray, List.getElem_cons_succ, List.getElem_cons_zero]
        refine wpAnyH_take (i := 4) (v := ?v5) rfl (by kernel_rfl) (by kernel_rfl) (by kernel_rfl) (fun _ _ _ h => h) (Or.inl ⟨by rfl, ?hy5⟩) hHeld ?rest5
        case hy5 => (intro w' hSw; unfold PaS at hSw; go_simp; try with_reducible rfl)
        try simp only [Act.put, List.setIfInBounds_toArray, List.set_cons_zero, List.set_cons_succ, List.getElem_toArray, List.getElem_cons_succ, List.getElem_cons_zero]
        refine wpAnyH_take (i := 5) (v := ?v6) rfl (by kernel_rfl) (by kernel_rfl) (by kernel_rfl) (fun _ _ _ h => h) (Or.inl ⟨by rfl, ?hy6⟩) hHeld ?rest6
        case hy6 => (intro w' hSw; unfold PaS at hSw; go_simp; try with_reducible rfl)
        try simp only [Act.put, List.setIfInBounds_toArray, List.set_cons_zero, List.set_cons_succ, List.getElem_toArray, List.getElem_cons_succ, List.getElem_cons_zero]
        refine wpAnyH_take (i := 6) (v := ?v7) rfl (by kernel_rfl) (by kernel_rfl) (by kernel_rfl) (fun _ _ _ h => h) (Or.inl ⟨by rfl, ?hy7⟩) hHeld ?rest7
        case hy7 => (intro w' hSw; unfold PaS at hSw; go_simp; try with_reducible rfl)
        try simp only [Act.put, List.setIfInBounds_toArray, List.set_cons_zero, List.set_cons_succ, List.getElem_toArray, List.getElem_cons_succ, List.getElem_cons_zero]
        refine wpAnyH_ready (rs := [7, 11]) (by kernel_rfl) (by simp) ?_
        refine AllReadyH.cons rfl (fun K hK => ?callA) (AllReadyH.cons rfl (fun K hK => ?allocB) AllReadyH.nil)
        case callA =>
          go_simp
          go_at_call 24
          refine (HV.out _ (Below.refl _ _).drew).mono ?_
          rintro e W2 ⟨rfl, hb2⟩
          go_wp2_with fail
          have hA1 : Below W.heap.size W W2 := (Below.refl _ _).drew.trans hb2
          have zA := hA1.size
          refine hK.out _ _ (hS0.out _ hA1) (fun hHeld => ?_)
          clear hK K
          try simp only [Act.put, List.setIfInBounds_toArray, List.set_cons_zero, List.set_cons_succ, List.getElem_toArray, List.getElem_cons_succ, List.getElem_cons_zero]
          refine wpAnyH_take (i := 8) (v := ?v8) rfl (by kernel_rfl) (by kernel_rfl) (by kernel_rfl) (fun _ _ _ h => h) (Or.inl ⟨by rfl, ?hy8⟩) hHeld ?rest8
          case hy8 => (intro w' hSw; unfold PaS at hSw; go_simp; try with_reducible rfl)
          try simp only [Act.put, List.setIfInBounds_toArray, List.set_cons_zero, List.set_cons_succ, List.getElem_toArray, List.getElem_cons_succ, List.getElem_cons_zero]
          refine wpAnyH_take (i := 9) (v := ?v9) rfl (by kernel_rfl) (by kernel_rfl) (by kernel_rfl) (fun _ _ _ h => h) (Or.inl ⟨by rfl, ?hy9⟩) hHeld ?rest9
          case hy9 => (intro w' hSw; unfold PaS at hSw; go_simp; try with_reducible rfl)
          try simp only [Act.put, List.setIfInBounds_toArray, List.set_cons_zero, List.set_cons_succ, List.getElem_toArray, List.getElem_cons_succ, List.getElem_cons_zero]
          refine wpAnyH_take (i := 10) (v := ?v10) rfl (by kernel_rfl) (by kernel_rfl) (by kernel_rfl) (fun _ _ _ h => h) (Or.inl ⟨by rfl, ?hy10⟩) hHeld ?rest10
          case hy10 => (intro w' hSw; unfold PaS at hSw; go_simp; try with_reducible rfl)
          try simp only [Act.put, List.setIfInBounds_toArray, List.set_cons_zero, List.set_cons_succ, List.getElem_toArray, List.getElem_cons_succ, List.getElem_cons_zero]
          refine wpAnyH_ready (rs := [11]) (by kernel_rfl) (by simp) ?_
          refine AllReadyH.cons rfl (fun K hK => ?_) AllReadyH.nil
          go_simp
          have hA2 : Below W.heap.size W (W2.alloc (.cells #[.int .u64 0, .bool false] 43)) := hA1.alloc zA _
          refine hK.out _ _ (hS0.out _ hA2) (fun hHeld => ?_)
          clear hK K
          try simp only [Act.put, List.setIfInBounds_toArray, List.set_cons_zero, List.set_cons_succ, List.getElem_toArray, List.getElem_cons_succ, List.getElem_cons_zero]
          refine wpAnyH_ready (rs := [12]) (by kernel_rfl) (by simp) ?_
          refine AllReadyH.cons rfl (fun K hK => ?_) AllReadyH.nil
          go_simp
          refine hK.out _ _ (hS0.out _ (hA1.alloc zA _)) (fun hHeld => ?_)
          clear hK K
          try simp only [Act.put, List.setIfInBounds_toArray, List.set_cons_zero, List.set_cons_succ, List.getElem_toArray, List.getElem_cons_succ, List.getElem_cons_zero]
          refine wpAnyH_take (i := 13) (v := ?v11) rfl (by kernel_rfl) (by kernel_rfl) (by kernel_rfl) (fun _ _ _ h => h) (Or.inl ⟨by rfl, ?hy11⟩) hHeld ?rest11
          case hy11 => (intro w' hSw; unfold PaS at hSw; go_simp; try with_reducible rfl)
          try simp only [Act.put, List.setIfInBounds_toArray, List.set_cons_zero, List.set_cons_succ, List.getElem_toArray, List.getElem_cons_succ, List.getElem_cons_zero]
          refine wpAnyH_done (by kernel_rfl) ?_ _
          have hV : Below W.heap.size W (W2.alloc (.cells #[.int .u64 bb, .bool bt] 43)) := hA1.alloc zA _
          have hm := heap_at (w := W2) (n := W2.heap.size) (.cells #[.int .u64 bb, .bool bt] 43) rfl
          clear hHeld hA2 hA1 hb2
          generalize W2.alloc (.cells #[.int .u64 bb, .bool bt] 43) = V at *
          generalize W2.heap.size = g9 at *
          have hz9 : g9 < V.heap.size := (Array.getElem?_eq_some_iff.1 hm).1
          have zV := hV.size
          obtain ⟨c9, f9⟩ := cells_of_heap hm
          obtain ⟨ca0, fa0⟩ := cells_of_heap (row_below hV (by omega) R0.out)
          obtain ⟨ca1, fa1⟩ := cells_of_heap (row_below hV (by omega) R1.out)
          obtain ⟨ca2, fa2⟩ := cells_of_heap (row_below hV (by omega) R2.out)
          obtain ⟨ca4, fa4⟩ := cells_of_heap (row_below hV (by omega) R4.out)
          have r5 := row_below hV (by omega) R5.out
          have u0 : ∃ u, V.cell? ⟨w.heap.size + 1 + 1 + 1, n * 2, none⟩ = some u := by rw [(cells_of_heap r5).1]; exact ⟨_, Array.getElem?_eq_getElem (by show n * 2 < 10; omega)⟩
          have u1 : ∃ u, V.cell? ⟨w.heap.size + 1 + 1 + 1, n * 2 + 1, none⟩ = some u := by rw [(cells_of_heap r5).1]; exact ⟨_, Array.getElem?_eq_getElem (by show n * 2 + 1 < 10; omega)⟩
          obtain ⟨u0, cu0⟩ := u0
          obtain ⟨u1, cu1⟩ := u1
          have fa5 := (cells_of_heap r5).2
          clear r5
          have HVB := Lib.hid hV
          have m9 := c9 0
          have m9' := c9 1
          clear hV hm c9
          have n45 : ¬ (w.heap.size + 1 + 1 + 1 = W1.heap.size + 1) := by omega
          have n45' : ¬ (W1.heap.size + 1 = w.heap.size + 1 + 1 + 1) := by omega
          rcases HC.out with ⟨hbe, hok⟩ | ⟨hbe, herr⟩
          · subst hbe
            have HOK := Lib.hid hok
            clear hok
            gi_wp2_with fail
            exact pa_good' n (n * 2) (n * 2 + 1) ((n : Int) + 1) HN.out (by omega) (by omega) rfl z1 (by omega) HB.out HVB.out R0.out R1.out R2.out R3.out RR4.out R5.out HRW.out HT.out (by rw [happ.out, HOK.out])
          · have HER := Lib.hid herr
            clear herr
            rcases hbe with hbe | hbe <;> subst hbe
            all_goals
              gi_wp2_with fail
              gi_region_with_o (fail)
            all_goals gi_wp2
            all_goals exact (pa_bad (p := n) (by omega) HB.out HVB.out R0.out R1.out R2.out (by rw [happ.out, HER.out])).drew
        case allocB =>
          go_simp
          have hA0 : Below W.heap.size W (W.drew.alloc (.cells #[.int .u64 0, .bool false] 43)) := (Below.refl _ _).drew.alloc (Nat.le_refl _) _
          refine hK.out _ _ (hS0.out _ hA0) (fun hHeld => ?_)
          clear hK K
          try simp only [Act.put, List.setIfInBounds_toArray, List.set_cons_zero, List.set_cons_succ, List.getElem_toArray, List.getElem_cons_succ, List.getElem_cons_zero]
          refine wpAnyH_ready (rs := [7]) (by kernel_rfl) (by simp) ?_
          refine AllReadyH.cons rfl (fun K hK => ?_) AllReadyH.nil
          go_simp
          go_at_call 24
          refine (HV.out _ hA0).mono ?_
          rintro e W2 ⟨rfl, hb2⟩
          go_wp2_with fail
          have hA1 : Below W.heap.size W W2 := hA0.trans (hb2.mono (by show W.heap.size ≤ (W.drew.alloc _).heap.size; simp))
          have zA := hA1.size
          obtain ⟨cm, fm⟩ := cells_of_heap (show W2.heap[W.heap.size]? = _ from kept_new (w := W.drew) hb2)
          refine hK.out _ _ (hS0.out _ hA1) (fun hHeld => ?_)
          clear hK K
          try simp only [Act.put, List.setIfInBounds_toArray, List.set_cons_zero, List.set_cons_succ, List.getElem_toArray, List.getElem_cons_succ, List.getElem_cons_zero]
          refine wpAnyH_take (i := 8) (v := ?v12) rfl (by kernel_rfl) (by kernel_rfl) (by kernel_rfl) (fun _ _ _ h => h) (Or.inl ⟨by rfl, ?hy12⟩) hHeld ?rest12
          case hy12 => (intro w' hSw; unfold PaS at hSw; go_simp; try with_reducible rfl)
          try simp only [Act.put, List.setIfInBounds_toArray, List.set_cons_zero, List.set_cons_succ, List.getElem_toArray, List.getElem_cons_succ, List.getElem_cons_zero]
          refine wpAnyH_take (i := 9) (v := ?v13) rfl (by kernel_rfl) (by kernel_rfl) (by kernel_rfl) (fun _ _ _ h => h) (Or.inl ⟨by rfl, ?hy13⟩) hHeld ?rest13
          case hy13 => (intro w' hSw; unfold PaS at hSw; go_simp; try with_reducible rfl)
          try simp only [Act.put, List.setIfInBounds_toArray, List.set_cons_zero, List.set_cons_succ, List.getElem_toArray, List.getElem_cons_succ, List.getElem_cons_zero]
          refine wpAnyH_take (i := 10) (v := ?v14) rfl (by kernel_rfl) (by kernel_rfl) (by kernel_rfl) (fun _ _ _ h => h) (Or.inl ⟨by rfl, ?hy14⟩) hHeld ?rest14
          case hy14 => (intro w' hSw; unfold PaS at hSw; go_simp; try with_reducible rfl)
          try simp only [Act.put, List.setIfInBounds_toArray, List.set_cons_zero, List.set_cons_succ, List.getElem_toArray, List.getElem_cons_succ, List.getElem_cons_zero]
          refine wpAnyH_ready (rs := [12]) (by kernel_rfl) (by simp) ?_
          refine AllReadyH.cons rfl (fun K hK => ?_) AllReadyH.nil
          go_simp
          have hV : Below W.heap.size W ((W2.setCell ⟨W.heap.size, 0, none⟩ (.int .u64 bb)).setCell ⟨W.heap.size, 1, none⟩ (.bool bt)) := (hA1.setCell (Nat.le_refl _) _).setCell (Nat.le_refl _) _
          have hm := row_set (i := 1) (.bool bt) (row_set (i := 0) (.int .u64 bb) (show W2.heap[W.heap.size]? = _ from kept_new (w := W.drew) hb2))
          refine hK.out _ _ (hS0.out _ hV) (fun hHeld => ?_)
          clear hK K
          try simp only [Act.put, List.setIfInBounds_toArray, List.set_cons_zero, List.set_cons_succ, List.getElem_toArray, List.getElem_cons_succ, List.getElem_cons_zero]
          refine wpAnyH_take (i := 13) (v := ?v15) rfl (by kernel_rfl) (by kernel_rfl) (by kernel_rfl) (fun _ _ _ h => h) (Or.inl ⟨by rfl, ?hy15⟩) hHeld ?rest15
          case hy15 => (intro w' hSw; unfold PaS at hSw; go_simp; try with_reducible rfl)
          try simp only [Act.put, List.setIfInBounds_toArray, List.set_cons_zero, List.set_cons_succ, List.getElem_toArray, List.getElem_cons_succ, List.getElem_cons_zero]
          refine wpAnyH_done (by kernel_rfl) ?_ _
          clear cm fm hHeld hA0 hA1 hb2
          have zA : W.heap.size ≤ W.heap.size := Nat.le_refl _
          generalize (W2.setCell ⟨W.heap.size, 0, none⟩ (.int .u64 bb)).setCell ⟨W.heap.size, 1, none⟩ (.bool bt) = V at *
          have hz9 : W.heap.size < V.heap.size := (Array.getElem?_eq_some_iff.1 hm).1
          have zV := hV.size
          obtain ⟨c9, f9⟩ := cells_of_heap hm
          obtain ⟨ca0, fa0⟩ := cells_of_heap (row_below hV (by omega) R0.out)
          obtain ⟨ca1, fa1⟩ := cells_of_heap (row_below hV (by omega) R1.out)
          obtain ⟨ca2, fa2⟩ := cells_of_heap (row_below hV (by omega) R2.out)
          obtain ⟨ca4, fa4⟩ := cells_of_heap (row_below hV (by omega) R4.out)
          have r5 := row_below hV (by omega) R5.out
          have u0 : ∃ u, V.cell? ⟨w.heap.size + 1 + 1 + 1, n * 2, none⟩ = some u := by rw [(cells_of_heap r5).1]; exact ⟨_, Array.getElem?_eq_getElem (by show n * 2 < 10; omega)⟩
          have u1 : ∃ u, V.cell? ⟨w.heap.size + 1 + 1 + 1, n * 2 + 1, none⟩ = some u := by rw [(cells_of_heap r5).1]; exact ⟨_, Array.getElem?_eq_getElem (by show n * 2 + 1 < 10; omega)⟩
          obtain ⟨u0, cu0⟩ := u0
          obtain ⟨u1, cu1⟩ := u1
          have fa5 := (cells_of_heap r5).2
          clear r5
          have HVB := Lib.hid hV
          have m9 := c9 0
          have m9' := c9 1
          clear hV hm c9
          have n45 : ¬ (w.heap.size + 1 + 1 + 1 = W1.heap.size + 1) := by omega
          have n45' : ¬ (W1.heap.size + 1 = w.heap.size + 1 + 1 + 1) := by omega
          rcases HC.out with ⟨hbe, hok⟩ | ⟨hbe, herr⟩
          · subst hbe
            have HOK := Lib.hid hok
            clear hok
            gi_wp2_with fail
            exact pa_good' n (n * 2) (n * 2 + 1) ((n : Int) + 1) HN.out (by omega) (by omega) rfl z1 (by omega) HB.out HVB.out R0.out R1.out R2.out R3.out RR4.out R5.out HRW.out HT.out (by rw [happ.out, HOK.out])
          · have HER := Lib.hid herr
            clear herr
            rcases hbe with hbe | hbe <;> subst hbe
            all_goals
              gi_wp2_with fail
              gi_region_with_o (fail)
            all_goals gi_wp2
            all_goals exact (pa_bad (p := n) (by omega) HB.out HVB.out R0.out R1.out R2.out (by rw [happ.out, HER.out])).drew

  case done =>
    clear t0 t1 t2 t3 u0 u1 c5 c6 hsplit hbb hbw hsz hl hlm hrc hs
    rintro D xs W hD hS ⟨⟨r0, r1, r2, rr, ⟨ms, hfold, hms, r4, r5⟩, hbig⟩, hB, hR⟩ hK
    have hfull : Hid (parseB l = if ms.length < 5 then .error (20, ms.length) else .ok ms) := Lib.hid (by
      rw [HP.out]
      have h2 := parseFrom_fold (fieldsB l) []
      rw [List.length_nil] at h2
      have h3 : fieldsB l = fsOf xs := by unfold fieldsB fsOf; rw [show xs.map (·.1) = splitB blankB l from hS]
      rw [h2, h3, hfold])
    obtain ⟨c0, f0⟩ := cells_of_heap r0
    obtain ⟨c1, f1⟩ := cells_of_heap r1
    obtain ⟨c2, f2⟩ := cells_of_heap r2
    obtain ⟨c4, _⟩ := cells_of_heap r4
    have y0 : w.heap.size < W.heap.size := (by omega)
    have y1 : w.heap.size + 1 < W.heap.size := (by omega)
    have y2 : w.heap.size + 1 + 1 < W.heap.size := (by omega)
    have HK := Lib.hid hK
    have HB := Lib.hid hB
    have R0 := Lib.hid r0
    have R1 := Lib.hid r1
    have R2 := Lib.hid r2
    have R5 := Lib.hid r5
    have hDw : w.heap.size ≤ D := by omega
    clear r0 r1 r2 rr r4 r5 hfold hS hK hB hR
    by_cases h5 : ms.length < 5
    · have hbad : Hid (parseB l = .error (20, ms.length)) := Lib.hid (by rw [hfull.out, if_pos h5])
      clear hfull R5
      generalize ms.length = n at *
      have hn5 : (n : Int) < 5 := by omega
      have hmx : Tryd.prog.follows .mixedOrders = true := by kernel_rfl
      gi_wp2_with fail
      refine wpIn_mono ?_ NoPanic.imp
      gi_region_with_o (fail)
      all_goals (refine NoPanic.normal ?_)
      all_goals gi_wp2
      all_goals
        have HF := (fin9 (.int .u64 0) (.int .u64 0) (.int .u64 0) (.int .u64 0) (.int .u64 0) (.bool false) (.bool false) 20 n (by omega) HB.out (Below.refl _ _) R0.out R1.out R2.out).drew
        clear c0 f0 c1 f1 c2 f2 c4
        have hK' := HF.1.same D _ HK.out rfl
        refine ⟨by simp, .inl ⟨_, _, rfl, run_takeDeferred hK', ?_⟩⟩
        obtain ⟨⟨q0, q1, q2⟩, hb9⟩ := fin_put HF hK' hDw
        obtain ⟨e0, _⟩ := cells_of_heap q0
        obtain ⟨e1, _⟩ := cells_of_heap q1
        obtain ⟨e2, _⟩ := cells_of_heap q2
        refine ⟨.tuple #[.agg #[.int .u64 0, .int .u64 0, .int .u64 0, .int .u64 0, .int .u64 0, .bool false, .bool false], .int .i64 20, .int .i64 (n : Nat)], ?_, ⟨?_, ?_⟩, hb9⟩
        · simp [results, Tryd.f10, go_sem, e0, e1, e2]
        · intro e' q he; rw [hbad.out] at he; cases he; rfl
        · intro m hm; rw [hbad.out] at hm; cases hm
    · have hgood : Hid (parseB l = .ok ms) := Lib.hid (by rw [hfull.out, if_neg h5])
      obtain ⟨b0, t0, b1, t1, b2, t2, b3, t3, b4, t4, rfl⟩ : ∃ b0 t0 b1 t1 b2 t2 b3 t3 b4 t4, ms = [(b0, t0), (b1, t1), (b2, t2), (b3, t3), (b4, t4)] := by
        rcases ms with _ | ⟨⟨b0, t0⟩, _ | ⟨⟨b1, t1⟩, _ | ⟨⟨b2, t2⟩, _ | ⟨⟨b3, t3⟩, _ | ⟨⟨b4, t4⟩, _ | ⟨_, r⟩⟩⟩⟩⟩⟩
        all_goals first | (exact ⟨_, _, _, _, _, _, _, _, _, _, rfl⟩) | (exfalso; simp at h5 hms; done) | (exfalso; simp at h5 hms; omega)
      have c5 : ∀ i, W.cell? ⟨w.heap.size + 1 + 1 + 1, i, none⟩ = (#[.int .u64 b0, .bool t0, .int .u64 b1, .bool t1, .int .u64 b2, .bool t2, .int .u64 b3, .bool t3, .int .u64 b4, .bool t4] : Array Value)[i]? := (cells_of_heap R5.out).1
      have c4' : W.cell? ⟨W1.heap.size + 1, 0, none⟩ = some (.int .i64 5) := c4 0
      have HSP := Lib.hid (fun V => specOf_any b0 b1 b2 b3 b4 t0 t1 t2 t3 t4 V)
      have hsp : specV [(b0, t0), (b1, t1), (b2, t2), (b3, t3), (b4, t4)] = .agg #[.int .u64 b0, .int .u64 b1, .int .u64 b2, .int .u64 b3, .int .u64 b4, .bool t2, .bool t4] := rfl
      rw [hsp] at HSP
      clear hfull R5 c4 h5 hms hsp c0 f0 c1 f1 c2 f2
      gi_wp2_with (refine ⟨trivial, ?_⟩; gi_at_call 25; refine (callsIn_wide.2 (HSP.out _)).mono ?_; rintro e W5 ⟨rfl, hb5⟩; have z5 := hb5.size; have y50 : w.heap.size < W5.heap.size := (by omega); have y51 : w.heap.size + 1 < W5.heap.size := (by omega); have y52 : w.heap.size + 1 + 1 < W5.heap.size := (by omega); obtain ⟨c0, f0⟩ := cells_of_heap (row_below hb5 (by omega) R0.out); obtain ⟨c1, f1⟩ := cells_of_heap (row_below hb5 (by omega) R1.out); obtain ⟨c2, f2⟩ := cells_of_heap (row_below hb5 (by omega) R2.out))
      have HF := fin9 (.int .u64 b0) (.int .u64 b1) (.int .u64 b2) (.int .u64 b3) (.int .u64 b4) (.bool t2) (.bool t4) 0 0 (by omega) HB.out hb5 R0.out R1.out R2.out
      clear c0 f0 c1 f1 c2 f2 c4' c5
      have hK' := HF.1.same D _ HK.out rfl
      refine ⟨by simp, .inl ⟨_, _, rfl, run_takeDeferred hK', ?_⟩⟩
      obtain ⟨⟨q0, q1, q2⟩, hb9⟩ := fin_put HF hK' hDw
      obtain ⟨e0, _⟩ := cells_of_heap q0
      obtain ⟨e1, _⟩ := cells_of_heap q1
      obtain ⟨e2, _⟩ := cells_of_heap q2
      refine ⟨.tuple #[.agg #[.int .u64 b0, .int .u64 b1, .int .u64 b2, .int .u64 b3, .int .u64 b4, .bool t2, .bool t4], .int .i64 0, .int .i64 0], ?_, ⟨?_, ?_⟩, hb9⟩
      · simp [results, Tryd.f10, go_sem, e0, e1, e2]
      · intro e' q he; rw [hgood.out] at he; cases he
      · intro m hm; rw [hgood.out] at hm; cases hm; rfl
  case stop =>
    clear t0 t1 t2 t3 u0 u1 c5 c6 hsplit hbb hbw hsz hl hlm hrc hs
    rintro D c pre W hD hpre ⟨⟨rfl, e', p, hfold, r0, r1, r2⟩, hB⟩ hK
    have hbad : Hid (parseB l = .error (e', p)) := Lib.hid (by
      rw [HP.out]
      obtain ⟨t, ht⟩ := hpre
      have h1 : splitB blankB l = pre.map (·.1) ++ t := ht.symm
      have h3 : fieldsB l = fsOf pre ++ t.filter (· ≠ []) := by unfold fieldsB fsOf; rw [h1, List.filter_append]
      have h2 := parseFrom_fold (fieldsB l) []
      rw [List.length_nil] at h2
      rw [h2, h3, foldP_append, hfold])
    have HF : Fin3 w W W #[.int .u64 0, .int .u64 0, .int .u64 0, .int .u64 0, .int .u64 0, .bool false, .bool false] e' p := ⟨KeepsOthers.refl _, hB, r0, r1, r2⟩
    clear hfold hB r0 r1 r2
    gi_wp2
    have hDw : w.heap.size ≤ D := by omega
    have hK' := HF.1.same D _ hK rfl
    refine ⟨by simp, .inl ⟨_, _, rfl, run_takeDeferred hK', ?_⟩⟩
    obtain ⟨⟨q0, q1, q2⟩, hb9⟩ := fin_put HF hK' hDw
    obtain ⟨e0, _⟩ := cells_of_heap q0
    obtain ⟨e1, _⟩ := cells_of_heap q1
    obtain ⟨e2, _⟩ := cells_of_heap q2
    refine ⟨.tuple #[.agg #[.int .u64 0, .int .u64 0, .int .u64 0, .int .u64 0, .int .u64 0, .bool false, .bool false], .int .i64 e', .int .i64 (p : Nat)], ?_, ⟨?_, ?_⟩, hb9⟩
    · simp [results, Tryd.f10, go_sem, e0, e1, e2]
    · intro e2 q he; rw [hbad.out] at he; cases he; rfl
    · intro m hm; rw [hbad.out] at hm; cases hm

/-- Parse, of whatever text. -/
theorem parse_any (l : Bytes) (hl : l.length ≤ maxLen) (w : World) (hsc : ScTab w) :
    Calls Tryd.prog 10 #[.string ⟨l.toArray⟩] w fun e W' => ParsePost l e ∧ Below w.heap.size w W' := by
  by_cases h : 256 < l.length
  · exact parse_long l w hl h
  · exact callsIn_wide.1 (parse_in l (by omega) w hsc)
end Go.Proofs.YtbbleedepmcdfaaDoor
