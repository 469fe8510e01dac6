/- The law NetDoes' state between two calls: a net and the reference's that hold the same, and the caller's own blocks apart from both. -/
import Derived.Test.YtbmadhmcnjcdfaaNetR2
import Derived.Test.YtbmadhmcnjcdfaaNetR3
import Derived.Test.YtbmadhmcnjcdfaaNetR4
import Derived.Test.YtbmadhmcnjcdfaaNetP
import Derived.Test.YtbmadhmcnjcdfaaNetOps2
set_option linter.unusedSimpArgs false
set_option linter.unusedVariables false
namespace Go.Proofs.Ytbmadhmcnjcdfaa
open Go.ChangeShapes Go.WideShapes Go.ChangeAt Go.RowKit Go.Base Go.Net

/-- Net q holds s1, the reference's x holds s2; the blocks of P are neither's. -/
def NB (w : World) (P : Nat → Prop) (q x : Nat) (s1 s2 : St) (V : World) : Prop :=
  ∃ (F1 F2 : Nat → Prop), NT 55 F1 V q s1 ∧ NT 57 F2 V x s2 ∧ (∀ j, F1 j → ¬ F2 j) ∧ (∀ j, F1 j → ¬ P j ∧ w.heap.size ≤ j ∧ j < V.heap.size) ∧ (∀ j, F2 j → ¬ P j ∧ w.heap.size ≤ j ∧ j < V.heap.size) ∧ Below w.heap.size w V
def Apart (w : World) (P : Nat → Prop) (V V' : World) : Prop := Moved (fun j => ¬ P j ∧ w.heap.size ≤ j) V V'
section
variable {w V V' : World} {P : Nat → Prop} {q x : Nat} {s1 s2 s3 : St}
theorem NB.later (h : NB w P q x s1 s2 V) (hb : Below V.heap.size V V') : NB w (fun j => P j ∨ (V.heap.size ≤ j ∧ j < V'.heap.size)) q x s1 s2 V' := by
  obtain ⟨F1, F2, h1, h2, h3, h4, h5, h6⟩ := h
  have hs := hb.size
  refine ⟨F1, F2, h1.later hb, h2.later hb, h3, fun j hj => ?_, fun j hj => ?_, h6.trans (hb.mono h6.size)⟩
  · obtain ⟨a, b, c⟩ := h4 j hj
    exact ⟨fun h => h.elim a (fun h => by omega), b, by omega⟩
  · obtain ⟨a, b, c⟩ := h5 j hj
    exact ⟨fun h => h.elim a (fun h => by omega), b, by omega⟩
theorem NB.less {P' : Nat → Prop} (h : NB w P q x s1 s2 V) (hp : ∀ j, P' j → P j) : NB w P' q x s1 s2 V := by
  obtain ⟨F1, F2, h1, h2, h3, h4, h5, h6⟩ := h
  exact ⟨F1, F2, h1, h2, h3, fun j hj => ⟨fun h => (h4 j hj).1 (hp j h), (h4 j hj).2⟩, fun j hj => ⟨fun h => (h5 j hj).1 (hp j h), (h5 j hj).2⟩, h6⟩
theorem NB.below (h : NB w P q x s1 s2 V) : Below w.heap.size w V := by
  obtain ⟨F1, F2, h1, h2, h3, h4, h5, h6⟩ := h
  exact h6
theorem NB.ok (h : NB w P q x s1 s2 V) : NOk s1 := by
  obtain ⟨F1, F2, h1, h2, h3, h4, h5, h6⟩ := h
  exact h1.good
/-- The caller writes a block of its own. -/
theorem NB.own {g : Nat} (h : NB w P q x s1 s2 V) (hm : Moved (fun j => j = g) V V') (hg : P g) (hw : w.heap.size ≤ g) : NB w P q x s1 s2 V' := by
  obtain ⟨F1, F2, h1, h2, h3, h4, h5, h6⟩ := h
  have hs := hm.size
  refine ⟨F1, F2, h1.kept hm (fun j hj e => (h4 j hj).1 (e ▸ hg)), h2.kept hm (fun j hj e => (h5 j hj).1 (e ▸ hg)), h3, fun j hj => ?_, fun j hj => ?_, h6.trans (hm.below (fun j _ e => e ▸ hw) h6.size)⟩
  · obtain ⟨a, b, c⟩ := h4 j hj
    exact ⟨a, b, by omega⟩
  · obtain ⟨a, b, c⟩ := h5 j hj
    exact ⟨a, b, by omega⟩
theorem NB.net (h : NB w P q x s1 s2 V) (hP : ∀ j, P j → j < V.heap.size) : ∃ F1, (∃ A c vs, NetX 55 V F1 q s1 A c vs) ∧ ∀ V' s3, NT 55 (fun k => F1 k ∨ V.heap.size ≤ k) V' q s3 → Moved F1 V V' → NB w P q x s3 s2 V' ∧ Apart w P V V' := by
  obtain ⟨F1, F2, h1, h2, h3, h4, h5, h6⟩ := h
  refine ⟨F1, h1, fun V' s3 hq hm => ⟨?_, hm.weaken (fun j _ hj => ⟨(h4 j hj).1, (h4 j hj).2.1⟩)⟩⟩
  obtain ⟨F0, hq0, hF0, hlt⟩ := hq.tight
  have hs := hm.size
  have hs0 := h6.size
  refine ⟨F0, F2, hq0, h2.kept hm (fun j hj h => h3 j h hj), fun j hj h => ?_, fun j hj => ?_, fun j hj => ?_, h6.trans (hm.below (fun j _ hj => (h4 j hj).2.1) h6.size)⟩
  · rcases hF0 j hj with a | a
    · exact h3 j a h
    · have := (h5 j h).2.2; omega
  · have hl := hlt j hj
    rcases hF0 j hj with a | a
    · exact ⟨(h4 j a).1, (h4 j a).2.1, hl⟩
    · exact ⟨fun h => by have := hP j h; omega, by omega, hl⟩
  · obtain ⟨a, b, c⟩ := h5 j hj
    exact ⟨a, b, by omega⟩
theorem NB.ref (h : NB w P q x s1 s2 V) (hP : ∀ j, P j → j < V.heap.size) : ∃ F2, (∃ A c vs, NetX 57 V F2 x s2 A c vs) ∧ ∀ V' s3, NT 57 (fun k => F2 k ∨ V.heap.size ≤ k) V' x s3 → Moved F2 V V' → NB w P q x s1 s3 V' ∧ Apart w P V V' := by
  obtain ⟨F1, F2, h1, h2, h3, h4, h5, h6⟩ := h
  refine ⟨F2, h2, fun V' s3 hq hm => ⟨?_, hm.weaken (fun j _ hj => ⟨(h5 j hj).1, (h5 j hj).2.1⟩)⟩⟩
  obtain ⟨F0, hq0, hF0, hlt⟩ := hq.tight
  have hs := hm.size
  have hs0 := h6.size
  refine ⟨F1, F0, h1.kept hm (fun j hj h => h3 j hj h), hq0, fun j h hj => ?_, fun j hj => ?_, fun j hj => ?_, h6.trans (hm.below (fun j _ hj => (h5 j hj).2.1) h6.size)⟩
  · rcases hF0 j hj with a | a
    · exact h3 j h a
    · have := (h4 j h).2.2; omega
  · obtain ⟨a, b, c⟩ := h4 j hj
    exact ⟨a, b, by omega⟩
  · have hl := hlt j hj
    rcases hF0 j hj with a | a
    · exact ⟨(h5 j a).1, (h5 j a).2.1, hl⟩
    · exact ⟨fun h => by have := hP j h; omega, by omega, hl⟩
/-- A call of the net's that answers v. -/
theorem NB.callNet {f : Nat} {args : Array Value} {v : Value} (h : NB w P q x s1 s2 V) (hP : ∀ j, P j → j < V.heap.size) (hc : ∀ F A c vs, NetX 55 V F q s1 A c vs → Calls Try.prog f args V (OpN 55 F q s3 v V)) :
    Calls Try.prog f args V fun e V' => e = .returned v ∧ NB w P q x s3 s2 V' ∧ Apart w P V V' := by
  obtain ⟨F1, ⟨A, c, vs, hx⟩, hk⟩ := h.net hP
  exact (hc F1 A c vs hx).mono fun e V' ⟨he, hq, hm⟩ => ⟨he, hk V' s3 hq hm⟩
theorem NB.callRef {f : Nat} {args : Array Value} {v : Value} (h : NB w P q x s1 s2 V) (hP : ∀ j, P j → j < V.heap.size) (hc : ∀ F A c vs, NetX 57 V F x s2 A c vs → Calls Try.prog f args V (OpN 57 F x s3 v V)) :
    Calls Try.prog f args V fun e V' => e = .returned v ∧ NB w P q x s1 s3 V' ∧ Apart w P V V' := by
  obtain ⟨F2, ⟨A, c, vs, hx⟩, hk⟩ := h.ref hP
  exact (hc F2 A c vs hx).mono fun e V' ⟨he, hq, hm⟩ => ⟨he, hk V' s3 hq hm⟩
/-- What a packet's bytes of a call's own are, behind a write of the reference's own cell. -/
theorem byt_own {T : TypeId} {A : Option Addr} {bs : List UInt8} {cs : Array Value} {x : Nat} (h : Byt V A bs) (hx : V.heap[x]? = some (.cells cs T (0, 0))) (hc : ∀ u ∈ cs.toList, ∀ b, u ≠ .int .u8 b) (hm : Moved (fun j => j = x) V V') : Byt V' A bs := fun j hj => by
  obtain ⟨b, o, e, hb⟩ := h j hj
  refine ⟨b, o, e, hm.cell hb (fun e2 => ?_)⟩
  have e2 : b = x := e2
  subst e2
  rw [cell_of_row _ _ _ _ _ _ hx] at hb
  exact hc _ (List.mem_of_getElem? (by rw [Array.getElem?_toList]; exact hb)) _ rfl
theorem NetX.noByte {T : TypeId} {F : Nat → Prop} {A : Option Addr} {c : Nat} {vs : List PkV} (h : NetX T V F x s1 A c vs) {A0 : Option Addr} {bs : List UInt8} (hy : Byt V A0 bs) (hm : Moved (fun j => j = x) V V') : Byt V' A0 bs :=
  byt_own hy h.self (fun u hu b => by simp at hu; rcases hu with rfl | rfl | rfl | rfl <;> (intro e; cases e)) hm
theorem NB.takeNet (h : NB w P q x s1 s2 V) (hP : ∀ j, P j → j < V.heap.size) (i : Int) : Calls Try.prog 12 #[.pointer (some ⟨q, 0, none⟩), .int .i64 i] V fun e V' =>
    (∀ k, s1.l[idx s1.l i]? = some k → ∃ A c, e = .returned (.tuple #[.agg #[.int .i64 k.id, .int .i64 k.fr, .int .i64 k.dst, .slice A k.body.length c], .int .i64 0]) ∧ Byt V' A k.body ∧ NB w P q x (takeS s1 i) s2 V' ∧ Apart w P V V') ∧
    (s1.l[idx s1.l i]? = none → e = .returned (.tuple #[.agg #[.int .i64 0, .int .i64 0, .int .i64 0, .slice none 0 0], .int .i64 4]) ∧ NB w P q x s1 s2 V' ∧ Apart w P V V') := by
  obtain ⟨F1, ⟨A, c, vs, hx⟩, hk⟩ := h.net hP
  refine (take_any hx i).mono fun e V' ⟨hm, h1, h2⟩ => ⟨fun k hk2 => ?_, fun hn => ?_⟩
  · obtain ⟨hq, A', c', he, hy⟩ := h1 k hk2
    exact ⟨A', c', he, hy, hk V' _ hq hm⟩
  · obtain ⟨hq, he⟩ := h2 hn
    exact ⟨he, hk V' _ hq hm⟩
theorem NB.takeRef (h : NB w P q x s1 s2 V) (hP : ∀ j, P j → j < V.heap.size) (i : Int) : Calls Try.prog 13 #[.pointer (some ⟨x, 0, none⟩), .int .i64 i] V fun e V' =>
    (∀ A0 bs, Byt V A0 bs → Byt V' A0 bs) ∧
    (∀ k, s2.l[idx s2.l i]? = some k → ∃ A c, e = .returned (.tuple #[.agg #[.int .i64 k.id, .int .i64 k.fr, .int .i64 k.dst, .slice A k.body.length c], .int .i64 0]) ∧ Byt V' A k.body ∧ NB w P q x s1 (takeS s2 i) V' ∧ Apart w P V V') ∧
    (s2.l[idx s2.l i]? = none → e = .returned (.tuple #[.agg #[.int .i64 0, .int .i64 0, .int .i64 0, .slice none 0 0], .int .i64 4]) ∧ NB w P q x s1 s2 V' ∧ Apart w P V V') := by
  obtain ⟨F2, ⟨A, c, vs, hx⟩, hk⟩ := h.ref hP
  refine (rtake_any hx i).mono fun e V' ⟨hmo, hm, h1, h2⟩ => ⟨fun A0 bs hy => hx.noByte hy hmo, fun k hk2 => ?_, fun hn => ?_⟩
  · obtain ⟨hq, A', c', he, hy⟩ := h1 k hk2
    exact ⟨A', c', he, hy, hk V' _ hq hm⟩
  · obtain ⟨hq, he⟩ := h2 hn
    exact ⟨he, hk V' _ hq hm⟩
theorem NB.looks (h : NB w P q x s1 s1 V) (a : Int) : Calls Try.prog 21 #[.pointer (some ⟨q, 0, none⟩), .pointer (some ⟨x, 0, none⟩), .int .i64 a] V fun e V' => e = .returned (.bool true) ∧ Below V.heap.size V V' := by
  obtain ⟨F1, F2, ⟨A, c, vs, h1⟩, ⟨A', c', vs', h2⟩, _⟩ := h
  exact looks_any h1 h2 a
end
/-- How far a state may have come in k rounds. -/
structure Far (s : St) (k : Nat) : Prop where
  last : s.last ≤ k
  cnt : cnt s ≤ k
theorem Far.step {s s2 : St} {r : Int} {k : Nat} (h : Far s k) (hs : CStep s s2 r) : Far s2 (k + 1) := by
  refine ⟨by have := hs.last; have := h.last; omega, ?_⟩
  have := h.cnt
  by_cases hr : r = 0 ∨ r = 2
  · have := hs.yes hr; omega
  · have := hs.no hr; omega
theorem Far.more {s : St} {k : Nat} (h : Far s k) : Far s (k + 1) := ⟨by have := h.last; omega, by have := h.cnt; omega⟩
theorem Far.lost {s : St} {k : Nat} (h : Far s k) : s.lost ≤ k := by have := h.cnt; unfold Go.Net.cnt at this; omega
end Go.Proofs.Ytbmadhmcnjcdfaa
