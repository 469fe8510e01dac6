/- Walks of package store: the files of a List, cell by cell; a store's own blocks alone. -/
import Derived.Test.YtobgiialecgpnaaStoW
import Derived.Test.YtobgiialecgpnaaStoY
import Derived.Test.YtobgiialecgpnaaKepts
set_option linter.unusedSimpArgs false
set_option linter.unusedVariables false
namespace Go.Proofs.Ytobgiialecgpnaa
open Go.ChangeShapes Go.WideShapes Go.ChangeAt Go.RowKit Go.Base Go.Sto Go.Maps

section
variable {w w' : World} {F G : Nat → Prop} {p bm : Nat} {D : DataW Unit} {es : List Ent} {room : Nat} {left : Int}
/-- The store's own blocks alone. -/
theorem Sto.tight {st : St} (h : Sto w F p st) : ∃ F0 : Nat → Prop, Sto w F0 p st ∧ (∀ k, F0 k → F k) ∧ ∀ k, F0 k → k < w.heap.size := by
  obtain ⟨bm, D, es, h, hes⟩ := h
  refine ⟨fun k => k = p ∨ k = bm ∨ ∃ e ∈ es, k = e.a ∨ e.sl.ownBlock = some k, ⟨bm, D, es, { h with inF := ⟨.inl rfl, .inr (.inl rfl), fun e he => ⟨.inr (.inr ⟨e, he, .inl rfl⟩), fun k hk => .inr (.inr ⟨e, he, .inr hk⟩)⟩⟩ }, hes⟩, fun k hk => ?_, fun k hk => ?_⟩
  · rcases hk with e | e | ⟨e, he, e1 | e1⟩
    · rw [e]; exact h.inF.1
    · rw [e]; exact h.inF.2.1
    · rw [e1]; exact (h.inF.2.2 e he).1
    · exact (h.inF.2.2 e he).2 k e1
  · rcases hk with e | e | ⟨e, he, e1 | e1⟩
    · rw [e]; exact heap_lt h.self
    · obtain ⟨E, clock, hb, _⟩ := h.map
      rw [e]; exact heap_lt hb
    · rw [e1]; exact heap_lt (h.file e he)
    · exact ((h.row e he).lt k e1).2
theorem list_sto {st : St} (h : Sto w F p st) : Calls Try.prog 18 #[.pointer (some ⟨p, 0, none⟩)] w (ListPost st.files w) := by
  obtain ⟨bm, D, es, h, hes⟩ := h
  rw [← hes]; exact list_any h
/-- A List's files lie: row, bytes. -/
def Lies (w : World) (A : Option Addr) (c : Nat) (l : List Fil) : Prop := ∃ b vs, w.ownsRow b 47 3 (.slice A l.length c) l.length vs ∧ Lsd w b vs l
theorem Lies.later {A : Option Addr} {c : Nat} {l : List Fil} (h : Lies w A c l) (hb : Below w.heap.size w w') : Lies w' A c l := by
  obtain ⟨b, vs, ho, hl⟩ := h
  exact ⟨b, vs, own_later ho hb, hl.later hb⟩
theorem Lies.moved {q : Nat → Prop} {A : Option Addr} {c b : Nat} {l : List Fil} {vs : List Value} (ho : w.ownsRow b 47 3 (.slice A l.length c) l.length vs) (hl : Lsd w b vs l) (hm : Moved q w w') (hq : ∀ k, q k → k < b) : Lies w' A c l := by
  refine ⟨b, vs, own_moved ho hm (fun k hk h => by have := (ho.lt k hk).1; have := hq k h; omega), hl.1, fun i hi => ?_⟩
  obtain ⟨a, cp, h1, h2, h3, o⟩ := hl.2 i hi
  exact ⟨a, cp, h1, h2, h3, own_moved o hm (fun k hk h => by have := (o.lt k hk).1; have := hq k h; omega)⟩
theorem Lies.at_ {A : Option Addr} {c : Nat} {l : List Fil} (h : Lies w A c l) {i : Nat} (hi : i < l.length) : ∃ g a cp, A = some ⟨g, 0, none⟩ ∧ w.cell? ⟨g, i * 3, none⟩ = some (.string ⟨l[i].name.toArray⟩) ∧ w.cell? ⟨g, i * 3 + 1, none⟩ = some (.slice a l[i].bytes.length cp) ∧ w.cell? ⟨g, i * 3 + 2, none⟩ = some (.int .i64 (l[i].sure : Int)) ∧ Byt w a l[i].bytes ∧ l[i].bytes.length ≤ cp ∧ ∀ x, a = some x → x.spot = none := by
  obtain ⟨b, vs, ho, hl⟩ := h
  obtain ⟨a, cp, h1, h2, h3, o⟩ := hl.2 i hi
  obtain ⟨g, rfl, c0⟩ := own_cell ho rfl (i * 3) (by omega)
  obtain ⟨g1, e1, c1⟩ := own_cell ho rfl (i * 3 + 1) (by omega)
  obtain ⟨g2, e2, c2⟩ := own_cell ho rfl (i * 3 + 2) (by omega)
  injection e1 with e1; injection e1 with e1; subst e1
  injection e2 with e2; injection e2 with e2; subst e2
  obtain ⟨A', cap, hv, hc, hsp⟩ := own_form o
  injection hv with hv1 _ hv
  subst hv1
  exact ⟨g, a, cp, rfl, c0.trans h1, c1.trans h2, c2.trans h3, own_byt_any o, by omega, fun x hx => (hsp x hx).2⟩
/-- A crash of a store, its own blocks alone. -/
theorem crash_sto {st : St} (h : Sto w F p st) (A : Option Addr) (ks : List (ByteArray × Int)) (n c : Nat) (hk : Kepts w A ks) (hn : ks.length = n) (hm : n ≤ maxLen) (r : Nat × St) (hr : crashR st ks = r) :
    Calls Try.prog 19 #[.pointer (some ⟨p, 0, none⟩), .slice A n c] w (StepPost F (fun k => F k ∨ w.heap.size ≤ k) p r w) := by
  subst hr; exact crash_any h A ks n c hk hn hm
theorem run_slice_to (a : Option Addr) (n m cp : Nat) (hc : m ≤ cp) (hs : ∀ x, a = some x → x.spot = none) (V : World) : (Instr.slice 31 (.slice a n cp) none (some (.int .i64 (m : Int))) none).run Try.prog V = .ok (.slice a m cp) V := by
  have h0 : (0 : Int) ≤ (m : Int) ∧ (m : Int) ≤ (cp : Int) := by omega
  obtain ⟨i0, hinfo, hz0, hz1, hz2⟩ := info_parts (P := Try.prog) (e := 5) (z := .int .u8 0) (size := 1) (bytes := 1) (by kernel_rfl)
  have hi : (asIntOf (.int .i64 (m : Int))).run Try.prog V = .ok (IntKind.i64, (m : Int)) V := rfl
  have h2 : (m : Int) ≤ (cp : Int) := by omega
  have h3 : (0 : Int) ≤ (m : Int) := by omega
  simp [Instr.slice, Sem.run_bind, run_underlying Try.underlying31, Instr.sliceBounds, Instr.sliceBound, hi, h2, h3, hc, sizeOf, typeInfo, hinfo, Result.andThen]
  rcases a with _ | x
  · simp
  · have := hs x rfl
    obtain ⟨b, o, s⟩ := x
    simp only at this
    subst this
    simp [addr_off2]
end
end Go.Proofs.Ytobgiialecgpnaa
