/- Package net: how a net lies in the world. -/
import Derived.Test.YtbmadhmcnjcdfaaNetA
import Derived.Test.YtbmadhmcnjcdfaaAppendK
import Derived.Test.YtbmadhmcnjcdfaaClone
import Derived.Test.YtbmadhmcnjcdfaaProg
import Derived.BigRegion
import Derived.BigQuiet
import Derived.Deep.QuietTactic
import Derived.Deep.RegionHeld3
import Derived.WalkSmall
import Derived.OrdersHeld
set_option linter.unusedSimpArgs false
set_option linter.unusedVariables false
namespace Go.Proofs.Ytbmadhmcnjcdfaa
open Go.ChangeShapes Go.WideShapes Go.ChangeAt Go.RowKit Go.Base Go.Net

/-- A packet as it lies in a row: where its bytes are. -/
structure PkV where
  p : Pk
  A : Option Addr
  c : Nat
def PkV.val (x : PkV) : Value := .slice x.A x.p.body.length x.c
def PkV.cells (x : PkV) : List Value := [.int .i64 x.p.id, .int .i64 x.p.fr, .int .i64 x.p.dst, x.val]
def cellsP (l : List PkV) : List Value := l.flatMap PkV.cells
theorem cellsP_len (l : List PkV) : (cellsP l).length = l.length * 4 := by
  induction l with
  | nil => rfl
  | cons x r ih => simp only [cellsP, List.flatMap_cons, List.length_append, List.length_cons] at ih ⊢; rw [ih]; simp [PkV.cells]; omega
theorem cellsP_append (a b : List PkV) : cellsP (a ++ b) = cellsP a ++ cellsP b := List.flatMap_append
theorem cellsP_take (l : List PkV) (k : Nat) (h : k ≤ l.length) : (cellsP l).take (k * 4) = cellsP (l.take k) := by
  have e : cellsP l = cellsP (l.take k) ++ cellsP (l.drop k) := by rw [← cellsP_append, List.take_append_drop]
  rw [e, List.take_left' (by rw [cellsP_len, List.length_take]; omega)]
theorem cellsP_drop (l : List PkV) (k : Nat) (h : k ≤ l.length) : (cellsP l).drop (k * 4) = cellsP (l.drop k) := by
  have e : cellsP l = cellsP (l.take k) ++ cellsP (l.drop k) := by rw [← cellsP_append, List.take_append_drop]
  rw [e, List.drop_left' (by rw [cellsP_len, List.length_take]; omega)]
theorem cellsP_at (l : List PkV) (k : Nat) (h : k < l.length) : (cellsP l)[k * 4]? = some (.int .i64 l[k].p.id) ∧ (cellsP l)[k * 4 + 1]? = some (.int .i64 l[k].p.fr) ∧ (cellsP l)[k * 4 + 2]? = some (.int .i64 l[k].p.dst) ∧ (cellsP l)[k * 4 + 3]? = some l[k].val := by
  have hd : l.drop k = l[k] :: l.drop (k + 1) := List.drop_eq_getElem_cons h
  have e : ∀ j, (cellsP l)[k * 4 + j]? = (cellsP (l.drop k))[j]? := fun j => by rw [← cellsP_drop l k (by omega), List.getElem?_drop]
  have e0 := e 0
  rw [Nat.add_zero] at e0
  rw [e0, e 1, e 2, e 3, hd]
  exact ⟨rfl, rfl, rfl, rfl⟩
theorem cellsP_one (l : List PkV) : ∀ u ∈ cellsP l, u.oneCell' = true := fun u hu => by
  obtain ⟨x, _, h⟩ := List.mem_flatMap.1 hu
  simp only [PkV.cells, List.mem_cons, List.not_mem_nil, or_false] at h
  rcases h with rfl | rfl | rfl | rfl <;> rfl
/-- A packet's bytes in a row that F owns. -/
def BodV (w : World) (F : Nat → Prop) (x : PkV) : Prop := w.ownsRow 0 5 1 x.val x.p.body.length (x.p.body.map u8v) ∧ ∀ k, x.val.ownBlock = some k → F k
structure NetX (T : TypeId) (w : World) (F : Nat → Prop) (p : Nat) (s : St) (A : Option Addr) (c : Nat) (vs : List PkV) : Prop where
  good : NOk s
  is : vs.map (·.p) = s.l
  self : w.heap[p]? = some (.cells #[.int .i64 s.places, .slice A vs.length c, .int .i64 s.last, .int .i64 s.lost] T (0, 0))
  row : w.ownsRow 0 37 4 (.slice A vs.length c) vs.length (cellsP vs)
  inF : F p ∧ ∀ k, (Value.slice A vs.length c).ownBlock = some k → F k
  bod : ∀ x ∈ vs, BodV w F x
  ty : T ≠ 37 ∧ T ≠ 5
/-- Block p is a net that holds s; F holds of its blocks. -/
def NT (T : TypeId) (F : Nat → Prop) (w : World) (p : Nat) (s : St) : Prop := ∃ A c vs, NetX T w F p s A c vs
section
variable {T : TypeId} {F G : Nat → Prop} {w w' : World} {p : Nat} {s : St} {A : Option Addr} {c : Nat} {vs : List PkV} {x : PkV}
theorem BodV.kept {q : Nat → Prop} (h : BodV w F x) (hm : Moved q w w') (hn : ∀ k, F k → ¬ q k) : BodV w' F x := ⟨own_moved h.1 hm (fun k hk => hn _ (h.2 k hk)), h.2⟩
theorem BodV.wide (h : BodV w F x) (hG : ∀ k, F k → G k) : BodV w G x := ⟨h.1, fun k hk => hG _ (h.2 k hk)⟩
theorem BodV.later (h : BodV w F x) (hb : Below w.heap.size w w') : BodV w' F x := h.kept (q := fun _ => False) (Below.movedNew hb) (fun _ _ h => h)
theorem BodV.byt (h : BodV w F x) : Byt w x.A x.p.body := own_byt_any h.1
theorem NetX.kept {q : Nat → Prop} (h : NetX T w F p s A c vs) (hm : Moved q w w') (hn : ∀ k, F k → ¬ q k) : NetX T w' F p s A c vs :=
  ⟨h.good, h.is, hm.heap h.self (hn _ h.inF.1), own_moved h.row hm (fun k hk => hn _ (h.inF.2 k hk)), h.inF, fun x hx => (h.bod x hx).kept hm hn, h.ty⟩
theorem NetX.later (h : NetX T w F p s A c vs) (hb : Below w.heap.size w w') : NetX T w' F p s A c vs := h.kept (q := fun _ => False) (Below.movedNew hb) (fun _ _ h => h)
theorem NetX.wide (h : NetX T w F p s A c vs) (hG : ∀ k, F k → G k) : NetX T w G p s A c vs := ⟨h.good, h.is, h.self, h.row, ⟨hG _ h.inF.1, fun k hk => hG _ (h.inF.2 k hk)⟩, fun x hx => (h.bod x hx).wide hG, h.ty⟩
theorem NetX.len (h : NetX T w F p s A c vs) : vs.length = s.l.length := by rw [← h.is, List.length_map]
theorem NetX.few (h : NetX T w F p s A c vs) : vs.length ≤ 4096 := by rw [h.len]; exact h.good.few
theorem NetX.cells (h : NetX T w F p s A c vs) : w.cell? ⟨p, 0, none⟩ = some (.int .i64 s.places) ∧ w.cell? ⟨p, 1, none⟩ = some (.slice A vs.length c) ∧ w.cell? ⟨p, 2, none⟩ = some (.int .i64 s.last) ∧ w.cell? ⟨p, 3, none⟩ = some (.int .i64 s.lost) :=
  ⟨cell_of_row _ _ 0 _ _ _ h.self, cell_of_row _ _ 1 _ _ _ h.self, cell_of_row _ _ 2 _ _ _ h.self, cell_of_row _ _ 3 _ _ _ h.self⟩
theorem NetX.free (h : NetX T w F p s A c vs) (i : Nat) : w.frozen? ⟨p, i, none⟩ = false := (cells_of_heap h.self).2 i
theorem NetX.lt (h : NetX T w F p s A c vs) : p < w.heap.size := heap_lt h.self
theorem rowP_at {b : Nat} (h : w.ownsRow b 37 4 (.slice A vs.length c) vs.length (cellsP vs)) {k : Nat} (hk : k < vs.length) : ∃ g, A = some ⟨g, 0, none⟩ ∧ w.cell? ⟨g, k * 4, none⟩ = some (.int .i64 vs[k].p.id) ∧ w.cell? ⟨g, k * 4 + 1, none⟩ = some (.int .i64 vs[k].p.fr) ∧ w.cell? ⟨g, k * 4 + 2, none⟩ = some (.int .i64 vs[k].p.dst) ∧ w.cell? ⟨g, k * 4 + 3, none⟩ = some vs[k].val := by
  obtain ⟨g, rfl, h0⟩ := own_cell h rfl (k * 4) (by omega)
  obtain ⟨g1, e1, h1⟩ := own_cell h rfl (k * 4 + 1) (by omega)
  obtain ⟨g2, e2, h2⟩ := own_cell h rfl (k * 4 + 2) (by omega)
  obtain ⟨g3, e3, h3⟩ := own_cell h rfl (k * 4 + 3) (by omega)
  injection e1 with e1; injection e1 with e1; subst e1
  injection e2 with e2; injection e2 with e2; subst e2
  injection e3 with e3; injection e3 with e3; subst e3
  obtain ⟨t0, t1, t2, t3⟩ := cellsP_at vs k hk
  exact ⟨g, rfl, h0.trans t0, h1.trans t1, h2.trans t2, h3.trans t3⟩
theorem rowP_cap {b : Nat} (h : w.ownsRow b 37 4 (.slice A vs.length c) vs.length (cellsP vs)) : vs.length ≤ c ∧ c ≤ maxLen := by
  rcases h.2 with ⟨h0, h1⟩ | ⟨g, cap, cur, h0, _, _, hn, hm, _⟩
  · injection h0 with _ h2 h3; rw [h1]; subst h3; exact ⟨Nat.le_refl _, Nat.zero_le _⟩
  · injection h0 with _ _ h3; subst h3; exact ⟨hn, hm⟩
theorem NT.kept {q : Nat → Prop} (h : NT T F w p s) (hm : Moved q w w') (hn : ∀ k, F k → ¬ q k) : NT T F w' p s := by
  obtain ⟨A, c, vs, h⟩ := h; exact ⟨A, c, vs, h.kept hm hn⟩
theorem NT.later (h : NT T F w p s) (hb : Below w.heap.size w w') : NT T F w' p s := by
  obtain ⟨A, c, vs, h⟩ := h; exact ⟨A, c, vs, h.later hb⟩
theorem NT.wide (h : NT T F w p s) (hG : ∀ k, F k → G k) : NT T G w p s := by
  obtain ⟨A, c, vs, h⟩ := h; exact ⟨A, c, vs, h.wide hG⟩
theorem NT.tight (h : NT T F w p s) : ∃ F0 : Nat → Prop, NT T F0 w p s ∧ (∀ k, F0 k → F k) ∧ ∀ k, F0 k → k < w.heap.size := by
  obtain ⟨A, c, vs, h⟩ := h
  refine ⟨fun k => F k ∧ k < w.heap.size, ⟨A, c, vs, ⟨h.good, h.is, h.self, h.row, ⟨⟨h.inF.1, h.lt⟩, fun k hk => ⟨h.inF.2 k hk, (h.row.lt k hk).2⟩⟩, fun x hx => ⟨(h.bod x hx).1, fun k hk => ⟨(h.bod x hx).2 k hk, ((h.bod x hx).1.lt k hk).2⟩⟩, h.ty⟩⟩, fun k hk => hk.1, fun k hk => hk.2⟩
theorem NT.good (h : NT T F w p s) : NOk s := by obtain ⟨_, _, _, h⟩ := h; exact h.good
/-- The last cell is another one. -/
theorem NetX.setLost (h : NetX T w F p s A c vs) (z : Int) (hz : s.lost ≤ z) : NetX T (w.setCell ⟨p, 3, none⟩ (.int .i64 z)) F p { s with lost := z } A c vs := by
  have hm : Moved (fun k => k = p) w (w.setCell ⟨p, 3, none⟩ (.int .i64 z)) := (Moved.refl (fun k => k = p) w).setCell (.inr rfl) _
  refine ⟨h.good.lostMore hz, h.is, (heap_set h.self 3 _).trans rfl, own_moved h.row hm (fun k hk e => own_ne h.row h.self (Ne.symm h.ty.1) (e ▸ hk)), h.inF, fun x hx => ⟨own_moved (h.bod x hx).1 hm (fun k hk e => own_ne (h.bod x hx).1 h.self (Ne.symm h.ty.2) (e ▸ hk)), (h.bod x hx).2⟩, h.ty⟩
/-- The row is another one, in a world where it lies so. -/
theorem NetX.setRow {q : Nat → Prop} {s2 : St} {A2 : Option Addr} {c2 : Nat} {vs2 : List PkV} {cs : Array Value} (h : NetX T w F p s A c vs) (hm : Moved q w w') (hself : w'.heap[p]? = some (.cells #[.int .i64 s2.places, .slice A2 vs2.length c2, .int .i64 s2.last, .int .i64 s2.lost] T (0, 0)))
    (hg : NOk s2) (his : vs2.map (·.p) = s2.l) (hrow : w'.ownsRow 0 37 4 (.slice A2 vs2.length c2) vs2.length (cellsP vs2)) (hin : G p ∧ ∀ k, (Value.slice A2 vs2.length c2).ownBlock = some k → G k) (hb : ∀ x ∈ vs2, BodV w' G x) : NetX T w' G p s2 A2 c2 vs2 :=
  ⟨hg, his, hself, hrow, hin, hb, h.ty⟩
end
/-- What a call leaves: its answer, the net, and which blocks it may have written. -/
def OpN (T : TypeId) (F : Nat → Prop) (p : Nat) (s : St) (v : Value) (w : World) (e : Ending) (w' : World) : Prop := e = .returned v ∧ NT T (fun k => F k ∨ w.heap.size ≤ k) w' p s ∧ Moved F w w'
end Go.Proofs.Ytbmadhmcnjcdfaa
