/- Package store: how a store lies in the world. No function of the program. -/
import Derived.Test.YtobgiialecgpnaaStoA
import Derived.Test.YtobgiialecgpnaaMoved
import Derived.Test.YtobgiialecgpnaaAppendK
import Derived.Test.YtobgiialecgpnaaAppend
import Derived.Maps.OwnSet
import Derived.Maps.OwnOps
import Derived.Maps.RangeWalk
import Derived.Maps.Ext
import Derived.Sort.KeysCollected
set_option linter.unusedSimpArgs false
set_option linter.unusedVariables false
namespace Go.Proofs.Ytobgiialecgpnaa
open Go.ChangeShapes Go.WideShapes Go.ChangeAt Go.RowKit Go.Base Go.Sto

/-- An element that is a pointer to a block: its number. -/
def ptrE : Value → Option (DataW Unit × List MemPlace)
  | .pointer (some ⟨a, 0, none⟩) => some (.lit (.int .i64 a), [])
  | .pointer none => some (.lit (.int .i64 (-1)), [])
  | _ => none
theorem ptrE_some (a : Nat) : ptrE (.pointer (some ⟨a, 0, none⟩)) = some (.lit (.int .i64 a), []) := rfl
theorem ptrE_none : ptrE (.pointer none) = some (.lit (.int .i64 (-1)), []) := rfl
theorem ptrE_inv {v : Value} {a : Nat} {ps : List MemPlace} (h : ptrE v = some (.lit (.int .i64 (a : Int)), ps)) : v = .pointer (some ⟨a, 0, none⟩) := by
  unfold ptrE at h
  split at h
  · injection h with h; injection h with h _; injection h with h; injection h with _ h
    have : ∀ x y : Nat, (x : Int) = y → x = y := fun x y h => by omega
    rw [this _ _ h]
  · injection h with h; injection h with h _; injection h with h; injection h with _ h
    exact absurd h (by omega)
  · cases h
theorem ptrE_inv_none {v : Value} {ps : List MemPlace} (h : ptrE v = some (.lit (.int .i64 (-1)), ps)) : v = .pointer none := by
  unfold ptrE at h
  split at h
  · injection h with h; injection h with h _; injection h with h; injection h with _ h
    exact absurd h (by omega)
  · rfl
  · cases h
theorem ptrE_any {v : Value} {z : DataW Unit × List MemPlace} (h : ptrE v = some z) : ∃ q, v = .pointer q := by
  unfold ptrE at h
  split at h
  · exact ⟨_, rfl⟩
  · exact ⟨_, rfl⟩
  · cases h
/-- A file, and where it lies. -/
structure Ent where
  f : Fil
  a : Nat
  A : Option Addr
  c : Nat
def Ent.sl (e : Ent) : Value := .slice e.A e.f.bytes.length e.c
def Ent.cells (e : Ent) : Array Value := #[e.sl, .int .i64 (e.f.sure : Int), .bool e.f.stays]
structure StoX (w : World) (F : Nat → Prop) (p bm : Nat) (D : DataW Unit) (es : List Ent) (room : Nat) (left : Int) : Prop where
  self : w.heap[p]? = some (.cells #[.map (some bm), .int .i64 (room : Int), .int .i64 left] 58 (0, 0))
  map : w.ownsMap Try.prog 9 ptrE bm (Maps.size D) D
  has : ∀ s, Maps.has D (.string s) = true ↔ ∃ e ∈ es, e.f.name = s
  at_ : ∀ e ∈ es, ∀ z, D.atKey (.string e.f.name) z = .lit (.int .i64 (e.a : Int))
  size : Maps.size D = es.length
  file : ∀ e ∈ es, w.heap[e.a]? = some (.cells e.cells 67 (0, 0))
  row : ∀ e ∈ es, w.ownsRow 0 5 1 e.sl e.f.bytes.length (e.f.bytes.map u8v)
  apart : ∀ d ∈ es, ∀ e ∈ es, d.f.name ≠ e.f.name → d.a ≠ e.a ∧ ∀ k, d.sl.ownBlock = some k → ¬ e.sl.ownBlock = some k
  inF : F p ∧ F bm ∧ ∀ e ∈ es, F e.a ∧ ∀ k, e.sl.ownBlock = some k → F k
  few : es.length ≤ 64
  rising : Rising (es.map (·.f))
  fits : used (es.map (·.f)) ≤ room ∧ room ≤ 67108864
  sures : ∀ e ∈ es, e.f.sure ≤ e.f.bytes.length
  named : ∀ e ∈ es, okName e.f.name = true
  lefts : -9223372036854775808 ≤ left ∧ left ≤ 9223372036854775807
/-- Block p is a store; F holds of all its blocks. -/
def Sto (w : World) (F : Nat → Prop) (p : Nat) (st : St) : Prop := ∃ bm D es, StoX w F p bm D es st.room st.left ∧ es.map (·.f) = st.files

section
variable {w w' : World} {F : Nat → Prop} {p bm : Nat} {D : DataW Unit} {es : List Ent} {room : Nat} {left : Int}
theorem StoX.cells (h : StoX w F p bm D es room left) : w.cell? ⟨p, 0, none⟩ = some (.map (some bm)) ∧ w.cell? ⟨p, 1, none⟩ = some (.int .i64 (room : Int)) ∧ w.cell? ⟨p, 2, none⟩ = some (.int .i64 left) :=
  ⟨cell_of_row w p 0 _ _ _ h.self, cell_of_row w p 1 _ _ _ h.self, cell_of_row w p 2 _ _ _ h.self⟩
theorem StoX.wide (h : StoX w F p bm D es room left) {G : Nat → Prop} (hG : ∀ k, F k → G k) : StoX w G p bm D es room left :=
  { h with inF := ⟨hG _ h.inF.1, hG _ h.inF.2.1, fun e he => ⟨hG _ (h.inF.2.2 e he).1, fun k hk => hG _ ((h.inF.2.2 e he).2 k hk)⟩⟩ }
theorem owns_moved {q : Nat → Prop} (h : w.ownsMap Try.prog 9 ptrE bm (Maps.size D) D) (hm : Moved q w w') (hn : ¬ q bm) : w'.ownsMap Try.prog 9 ptrE bm (Maps.size D) D := by
  obtain ⟨E, clock, hb, r⟩ := h
  exact ⟨E, clock, hm.heap hb hn, r⟩
/-- What leaves its blocks leaves the store. -/
theorem StoX.kept {q : Nat → Prop} (h : StoX w F p bm D es room left) (hm : Moved q w w') (hn : ∀ k, F k → ¬ q k) : StoX w' F p bm D es room left :=
  { h with
    self := hm.heap h.self (hn _ h.inF.1)
    map := owns_moved h.map hm (hn _ h.inF.2.1)
    file := fun e he => hm.heap (h.file e he) (hn _ (h.inF.2.2 e he).1)
    row := fun e he => own_moved (h.row e he) hm (fun k hk => hn _ ((h.inF.2.2 e he).2 k hk)) }
theorem StoX.later (h : StoX w F p bm D es room left) (hb : Below w.heap.size w w') : StoX w' F p bm D es room left :=
  h.kept (q := fun _ => False) (Below.movedNew hb) (fun _ _ h => h)
/-- Another number of calls. -/
theorem StoX.power (h : StoX w F p bm D es room left) (n : Int) (hn : -9223372036854775808 ≤ n ∧ n ≤ 9223372036854775807) : StoX (w.setCell ⟨p, 2, none⟩ (.int .i64 n)) F p bm D es room n := by
  have hm : Moved (fun k => k = p) w (w.setCell ⟨p, 2, none⟩ (.int .i64 n)) := Moved.setCell (p := fun k => k = p) (Moved.refl _ w) (.inr rfl) _
  have hb : bm ≠ p := fun e => by
    obtain ⟨E, clock, hb, _⟩ := h.map
    rw [e, h.self] at hb; cases hb
  have hf : ∀ e ∈ es, e.a ≠ p := fun e he => block_ne (h.file e he) h.self (by decide)
  exact { h with
    self := heap_set h.self 2 _
    map := owns_moved h.map hm hb
    file := fun e he => hm.heap (h.file e he) (hf e he)
    row := fun e he => own_moved (h.row e he) hm (fun k hk e2 => own_ne (h.row e he) h.self (by decide) (by rw [hk, e2]))
    lefts := hn }
end
end Go.Proofs.Ytobgiialecgpnaa
