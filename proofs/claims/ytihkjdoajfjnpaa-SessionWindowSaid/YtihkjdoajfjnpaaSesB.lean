/- Package session: how a session lies in the world. No function of the program. -/
import Derived.Test.YtihkjdoajfjnpaaSesZ
import Derived.Test.YtihkjdoajfjnpaaMoved
import Derived.Test.YtihkjdoajfjnpaaAppendK
import Derived.Test.YtihkjdoajfjnpaaAppend
import Derived.Test.YtihkjdoajfjnpaaClone
import Derived.Test.YtihkjdoajfjnpaaProg
import Derived.Maps.OwnSet
import Derived.Maps.OwnOps
import Derived.BigRegion
import Derived.BigQuiet
import Derived.Deep.QuietTactic
import Derived.Deep.RegionHeld3
import Derived.WalkSmall
import Derived.OrdersHeld
set_option linter.unusedSimpArgs false
set_option linter.unusedVariables false
namespace Go.Proofs.Ytihkjdoajfjnpaa
open Go.ChangeShapes Go.WideShapes Go.ChangeAt Go.RowKit Go.Base Go.Ses

/-- An element of a map, as it is. -/
def idE : Value → Option (DataW Value × List MemPlace) := fun v => some (.held v, [])
theorem idE_inv {v u : Value} {ps : List MemPlace} (h : idE v = some (.held u, ps)) : v = u := by
  unfold idE at h; injection h with h; injection h with h _; injection h
/-- Blocks of bytes lie as they lay. -/
def Ku (w w' : World) : Prop := ∀ (T : TypeId) (k : Nat) (cs : Array Value) (z : Nat × Nat), (T = 5 ∨ T = 31) → w.heap[k]? = some (.cells cs T z) → w'.heap[k]? = some (.cells cs T z)
/-- Bytes in a block of bytes. -/
def ByU (w : World) (A : Option Addr) (bs : Bytes) : Prop := bs = [] ∨ ∃ g o cs z, A = some ⟨g, o, none⟩ ∧ w.heap[g]? = some (.cells cs 5 z) ∧ ∀ (i : Nat) (h : i < bs.length), cs[o + i]? = some (u8v bs[i])
/-- A slice as it lies in a row: where its bytes are. -/
structure SlV where
  b : Bytes
  A : Option Addr
  c : Nat
def SlV.val (x : SlV) : Value := .slice x.A x.b.length x.c
/-- An envelope as it lies in a row. -/
structure EvV where
  e : Ev
  A : Option Addr
  c : Nat
def EvV.sl (x : EvV) : Value := .slice x.A x.e.body.length x.c
def EvV.cells (x : EvV) : List Value := [.int .i64 x.e.kind, .int .i64 x.e.mine, .int .i64 x.e.yours, .int .i64 x.e.seq, .int .i64 x.e.ack, x.sl]
def EvV.val (x : EvV) : Value := .agg x.cells.toArray
def cellsE (l : List EvV) : List Value := l.flatMap EvV.cells
section
variable {w w1 w' : World} {A : Option Addr} {bs : Bytes} {q : Nat → Prop}
theorem Ku.refl (w : World) : Ku w w := fun _ _ _ _ _ h => h
theorem Ku.trans (h : Ku w w1) (h2 : Ku w1 w') : Ku w w' := fun T k cs z hT hk => h2 T k cs z hT (h T k cs z hT hk)
theorem Below.ku (h : Below w.heap.size w w') : Ku w w' := fun T k cs z hT hk => (h.block k (heap_lt hk)).trans hk
theorem Moved.ku (h : Moved q w w') (hq : ∀ (T : TypeId), (T = 5 ∨ T = 31) → ∀ k cs z, q k → w.heap[k]? ≠ some (.cells cs T z)) : Ku w w' := fun T k cs z hT hk =>
  h.heap hk (fun hq' => hq T hT k cs z hq' hk)
theorem Ku.drew (h : Ku w w') : Ku w w'.drew := h
theorem Ku.alloc (h : Ku w w') (o : Obj) : Ku w (w'.alloc o) := h.trans (Below.ku (below_alloc w' o))
theorem ByU.byt (h : ByU w A bs) : Byt w A bs := fun i hi => by
  rcases h with rfl | ⟨g, o, cs, z, rfl, hg, hc⟩
  · simp at hi
  · exact ⟨g, o, rfl, by rw [cell_of_row _ _ _ _ _ _ hg]; exact hc i hi⟩
theorem ByU.kept (h : ByU w A bs) (hk : Ku w w') : ByU w' A bs := by
  rcases h with rfl | ⟨g, o, cs, z, rfl, hg, hc⟩
  · exact .inl rfl
  · exact .inr ⟨g, o, cs, z, rfl, hk _ g cs z (.inl rfl) hg, hc⟩
theorem ByU.later (h : ByU w A bs) (hb : Below w.heap.size w w') : ByU w' A bs := h.kept (Below.ku hb)
theorem ByU.nil (w : World) (A : Option Addr) : ByU w A [] := .inl rfl
theorem own_byu {b n cap : Nat} (h : w.ownsRow b 5 1 (.slice A n cap) n (bs.map u8v)) : ByU w A bs := by
  rcases h.2 with ⟨h1, h2⟩ | ⟨g, cap', cur, h1, _, hg, hn, hc, hs, hx⟩
  · have hl := h.1
    rw [List.length_map] at hl
    exact .inl (List.eq_nil_of_length_eq_zero (by omega))
  · injection h1 with h1 _ _
    refine .inr ⟨g, 0, cur, _, h1, hg, fun i hi => ?_⟩
    have hl := h.1
    rw [List.length_map] at hl
    have : (cur.toList.take (n * 1))[i]? = (bs.map u8v)[i]? := by rw [hx]
    rw [List.getElem?_take_of_lt (by omega), List.getElem?_map, List.getElem?_eq_getElem hi] at this
    rw [Nat.zero_add]
    simpa using this
theorem cellsE_len (l : List EvV) : (cellsE l).length = l.length * 6 := by
  induction l with
  | nil => rfl
  | cons x r ih => simp only [cellsE, List.flatMap_cons, List.length_append, List.length_cons] at ih ⊢; rw [ih]; simp [EvV.cells]; omega
theorem cellsE_append (a b : List EvV) : cellsE (a ++ b) = cellsE a ++ cellsE b := List.flatMap_append
theorem cellsE_one (l : List EvV) : ∀ u ∈ cellsE l, u.oneCell' = true := fun u hu => by
  obtain ⟨x, _, h⟩ := List.mem_flatMap.1 hu
  simp only [EvV.cells, List.mem_cons, List.not_mem_nil, or_false] at h
  rcases h with rfl | rfl | rfl | rfl | rfl | rfl <;> rfl
theorem cellsE_take (l : List EvV) (k : Nat) (h : k ≤ l.length) : (cellsE l).take (k * 6) = cellsE (l.take k) := by
  have e : cellsE l = cellsE (l.take k) ++ cellsE (l.drop k) := by rw [← cellsE_append, List.take_append_drop]
  rw [e, List.take_left' (by rw [cellsE_len, List.length_take]; omega)]
theorem cellsE_drop (l : List EvV) (k : Nat) (h : k ≤ l.length) : (cellsE l).drop (k * 6) = cellsE (l.drop k) := by
  have e : cellsE l = cellsE (l.take k) ++ cellsE (l.drop k) := by rw [← cellsE_append, List.take_append_drop]
  rw [e, List.drop_left' (by rw [cellsE_len, List.length_take]; omega)]
theorem cellsE_at (l : List EvV) (k j : Nat) (h : k < l.length) (hj : j < 6) : (cellsE l)[k * 6 + j]? = l[k].cells[j]? := by
  have hd : l.drop k = l[k] :: l.drop (k + 1) := List.drop_eq_getElem_cons h
  rw [show (cellsE l)[k * 6 + j]? = (cellsE (l.drop k))[j]? by rw [← cellsE_drop l k (by omega), List.getElem?_drop], hd]
  unfold cellsE
  rw [List.flatMap_cons, List.getElem?_append_left (by simp [EvV.cells]; omega)]
theorem slv_one (l : List SlV) : ∀ u ∈ l.map SlV.val, u.oneCell' = true := fun u hu => by
  obtain ⟨x, _, rfl⟩ := List.mem_map.1 hu; rfl
end
def linkC (l : Link) (A : Option Addr) (n c bm : Nat) : List Value :=
  [.int .i64 l.yours, .bool l.knows, .bool l.helloDue, .bool l.ackDue, .int .i64 l.gone, .slice A n c, .int .i64 l.sent, .bool l.acked, .int .i64 l.wanted, .map (some bm), .int .i64 l.hAt, .int .i64 l.hGap, .int .i64 l.aAt, .int .i64 l.aGap]
def sesC (s : Ss) (A : Option Addr) (n c bm : Nat) : Array Value := (Value.int .i64 s.mine :: linkC s.l A n c bm).toArray
structure SesX (w : World) (F : Nat → Prop) (p : Nat) (s : Ss) (A : Option Addr) (c : Nat) (vs : List SlV) (bm : Nat) (D : DataW Value) : Prop where
  ok : Ok s
  self : w.heap[p]? = some (.cells (sesC s A vs.length c bm) 60 (0, 0))
  row : w.ownsRow 0 27 1 (.slice A vs.length c) vs.length (vs.map SlV.val)
  outs : vs.map (·.b) = s.l.out
  bod : ∀ x ∈ vs, ByU w x.A x.b
  map : w.ownsMap Try.prog 3 idE bm (Maps.size D) D
  size : Maps.size D ≤ s.l.puts
  non : ∀ j, s.l.inn j = none → Maps.has D (.int .i64 j) = false
  som : ∀ j b, s.l.inn j = some b → ∃ x : SlV, x.b = b ∧ Maps.has D (.int .i64 j) = true ∧ (∀ z, D.atKey (.int .i64 j) z = .held x.val) ∧ ByU w x.A b
  inF : F p ∧ F bm ∧ ∀ k, (Value.slice A vs.length c).ownBlock = some k → F k
/-- Block p is a session; F holds of its own blocks. -/
def SE (F : Nat → Prop) (w : World) (p : Nat) (s : Ss) : Prop := ∃ A c vs bm D, SesX w F p s A c vs bm D
section
variable {F G : Nat → Prop} {w w1 w' : World} {p : Nat} {s s2 : Ss} {A : Option Addr} {c : Nat} {vs : List SlV} {bm : Nat} {D : DataW Value} {q : Nat → Prop}
theorem SesX.len (h : SesX w F p s A c vs bm D) : vs.length = s.l.out.length := by rw [← h.outs, List.length_map]
theorem SesX.lt (h : SesX w F p s A c vs bm D) : p < w.heap.size := heap_lt h.self
theorem SesX.free (h : SesX w F p s A c vs bm D) (i : Nat) : w.frozen? ⟨p, i, none⟩ = false := (cells_of_heap h.self).2 i
theorem SesX.cell (h : SesX w F p s A c vs bm D) (i : Nat) (v : Value) (hv : (sesC s A vs.length c bm)[i]? = some v) : w.cell? ⟨p, i, none⟩ = some v := (cell_of_row _ _ i _ _ _ h.self).trans hv
theorem SesX.c0 (h : SesX w F p s A c vs bm D) : w.cell? ⟨p, 0, none⟩ = some (.int .i64 s.mine) := h.cell 0 _ rfl
theorem SesX.c1 (h : SesX w F p s A c vs bm D) : w.cell? ⟨p, 1, none⟩ = some (.int .i64 s.l.yours) := h.cell 1 _ rfl
theorem SesX.c2 (h : SesX w F p s A c vs bm D) : w.cell? ⟨p, 2, none⟩ = some (.bool s.l.knows) := h.cell 2 _ rfl
theorem SesX.c3 (h : SesX w F p s A c vs bm D) : w.cell? ⟨p, 3, none⟩ = some (.bool s.l.helloDue) := h.cell 3 _ rfl
theorem SesX.c4 (h : SesX w F p s A c vs bm D) : w.cell? ⟨p, 4, none⟩ = some (.bool s.l.ackDue) := h.cell 4 _ rfl
theorem SesX.c5 (h : SesX w F p s A c vs bm D) : w.cell? ⟨p, 5, none⟩ = some (.int .i64 s.l.gone) := h.cell 5 _ rfl
theorem SesX.c6 (h : SesX w F p s A c vs bm D) : w.cell? ⟨p, 6, none⟩ = some (.slice A vs.length c) := h.cell 6 _ rfl
theorem SesX.c7 (h : SesX w F p s A c vs bm D) : w.cell? ⟨p, 7, none⟩ = some (.int .i64 s.l.sent) := h.cell 7 _ rfl
theorem SesX.c8 (h : SesX w F p s A c vs bm D) : w.cell? ⟨p, 8, none⟩ = some (.bool s.l.acked) := h.cell 8 _ rfl
theorem SesX.c9 (h : SesX w F p s A c vs bm D) : w.cell? ⟨p, 9, none⟩ = some (.int .i64 s.l.wanted) := h.cell 9 _ rfl
theorem SesX.c10 (h : SesX w F p s A c vs bm D) : w.cell? ⟨p, 10, none⟩ = some (.map (some bm)) := h.cell 10 _ rfl
theorem SesX.c11 (h : SesX w F p s A c vs bm D) : w.cell? ⟨p, 11, none⟩ = some (.int .i64 s.l.hAt) := h.cell 11 _ rfl
theorem SesX.c12 (h : SesX w F p s A c vs bm D) : w.cell? ⟨p, 12, none⟩ = some (.int .i64 s.l.hGap) := h.cell 12 _ rfl
theorem SesX.c13 (h : SesX w F p s A c vs bm D) : w.cell? ⟨p, 13, none⟩ = some (.int .i64 s.l.aAt) := h.cell 13 _ rfl
theorem SesX.c14 (h : SesX w F p s A c vs bm D) : w.cell? ⟨p, 14, none⟩ = some (.int .i64 s.l.aGap) := h.cell 14 _ rfl
theorem SesX.bm_ne (h : SesX w F p s A c vs bm D) {k : Nat} {cs : Array Value} {t : TypeId} {z : Nat × Nat} (hk : w.heap[k]? = some (.cells cs t z)) : bm ≠ k := fun e => by
  obtain ⟨E, clock, hb, _⟩ := h.map
  rw [e, hk] at hb; cases hb
theorem SesX.bm_lt (h : SesX w F p s A c vs bm D) : bm < w.heap.size := by
  obtain ⟨E, clock, hb, _⟩ := h.map
  exact heap_lt hb
theorem own_mapK {n : Nat} (h : w.ownsMap Try.prog 3 idE bm n D) (hm : Moved q w w') (hn : ¬ q bm) : w'.ownsMap Try.prog 3 idE bm n D := by
  obtain ⟨E, clock, hb, r⟩ := h
  exact ⟨E, clock, hm.heap hb hn, r⟩
theorem SesX.row_ne (h : SesX w F p s A c vs bm D) : ¬ (Value.slice A vs.length c).ownBlock = some p ∧ ¬ (Value.slice A vs.length c).ownBlock = some bm := by
  refine ⟨own_ne h.row h.self (by decide), fun e => ?_⟩
  rcases h.row.2 with ⟨h0, _⟩ | ⟨g, cap, cur, h0, _, hg, _⟩
  · rw [h0] at e; cases e
  · rw [h0] at e
    have : g = bm := Option.some.inj e
    exact h.bm_ne hg this.symm
theorem SesX.kept (h : SesX w F p s A c vs bm D) (hm : Moved q w w') (hn : ∀ k, F k → ¬ q k) (hu : Ku w w') : SesX w' F p s A c vs bm D :=
  ⟨h.ok, hm.heap h.self (hn _ h.inF.1), own_moved h.row hm (fun k hk => hn _ (h.inF.2.2 k hk)), h.outs, fun x hx => (h.bod x hx).kept hu, own_mapK h.map hm (hn _ h.inF.2.1), h.size, h.non,
    (fun j b hj => by obtain ⟨x, h1, h2, h3, h4⟩ := h.som j b hj; exact ⟨x, h1, h2, h3, h4.kept hu⟩), h.inF⟩
theorem SesX.later (h : SesX w F p s A c vs bm D) (hb : Below w.heap.size w w') : SesX w' F p s A c vs bm D := h.kept (q := fun _ => False) (Below.movedNew hb) (fun _ _ h => h) (Below.ku hb)
theorem SesX.wide (h : SesX w F p s A c vs bm D) (hG : ∀ k, F k → G k) : SesX w G p s A c vs bm D :=
  { h with inF := ⟨hG _ h.inF.1, hG _ h.inF.2.1, fun k hk => hG _ (h.inF.2.2 k hk)⟩ }
theorem SesX.tight (h : SesX w F p s A c vs bm D) : SesX w (fun k => F k ∧ k < w.heap.size) p s A c vs bm D :=
  { h with inF := ⟨⟨h.inF.1, h.lt⟩, ⟨h.inF.2.1, h.bm_lt⟩, fun k hk => ⟨h.inF.2.2 k hk, (h.row.lt k hk).2⟩⟩ }
/-- Fields that are set: what is out and in stays. -/
theorem SesX.set (h : SesX w F p s A c vs bm D) (hm : Moved (fun k => k = p) w w') (hself : w'.heap[p]? = some (.cells (sesC s2 A vs.length c bm) 60 (0, 0))) (hok : Ok s2) (h1 : s2.l.out = s.l.out) (h2 : s2.l.inn = s.l.inn) (h3 : s2.l.puts = s.l.puts) : SesX w' F p s2 A c vs bm D := by
  have hu : Ku w w' := hm.ku (fun T hT k cs z e hk => by subst e; rw [h.self] at hk; injection hk with hk; injection hk with _ hk _; rcases hT with rfl | rfl <;> revert hk <;> decide)
  exact ⟨hok, hself, own_moved h.row hm (fun k hk e => h.row_ne.1 (by rw [hk, e])), h.outs.trans h1.symm, fun x hx => (h.bod x hx).kept hu, own_mapK h.map hm (fun e => h.bm_ne h.self e), by rw [h3]; exact h.size, fun j hj => h.non j (by rw [← h2]; exact hj),
    (fun j b hj => by obtain ⟨x, a1, a2, a3, a4⟩ := h.som j b (by rw [← h2]; exact hj); exact ⟨x, a1, a2, a3, a4.kept hu⟩), h.inF⟩
theorem SesX.ku_set (h : SesX w F p s A c vs bm D) (hm : Moved (fun k => k = p) w w') : Ku w w' := hm.ku (fun T hT k cs z e hk => by subst e; rw [h.self] at hk; injection hk with hk; injection hk with _ hk _; rcases hT with rfl | rfl <;> revert hk <;> decide)
theorem SesX.se (h : SesX w F p s A c vs bm D) : SE F w p s := ⟨A, c, vs, bm, D, h⟩
theorem SE.kept (h : SE F w p s) (hm : Moved q w w') (hn : ∀ k, F k → ¬ q k) (hu : Ku w w') : SE F w' p s := by obtain ⟨A, c, vs, bm, D, h⟩ := h; exact (h.kept hm hn hu).se
theorem SE.later (h : SE F w p s) (hb : Below w.heap.size w w') : SE F w' p s := by obtain ⟨A, c, vs, bm, D, h⟩ := h; exact (h.later hb).se
theorem SE.wide (h : SE F w p s) (hG : ∀ k, F k → G k) : SE G w p s := by obtain ⟨A, c, vs, bm, D, h⟩ := h; exact (h.wide hG).se
theorem SE.tight (h : SE F w p s) : SE (fun k => F k ∧ k < w.heap.size) w p s := by obtain ⟨A, c, vs, bm, D, h⟩ := h; exact h.tight.se
theorem SE.ok (h : SE F w p s) : Ok s := by obtain ⟨A, c, vs, bm, D, h⟩ := h; exact h.ok
end
/-- What a call leaves: its answer, the session, and which blocks it may have written. -/
def OpS (F : Nat → Prop) (p : Nat) (s : Ss) (v : Value) (w : World) (e : Ending) (w' : World) : Prop := e = .returned v ∧ SE (fun k => F k ∨ w.heap.size ≤ k) w' p s ∧ Moved F w w' ∧ Ku w w'
end Go.Proofs.Ytihkjdoajfjnpaa
