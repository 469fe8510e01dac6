/- The laws' pair of sessions: how it lies in the world. No function of the program. -/
import Derived.Test.YtihkjdoajfjnpaaSesO
set_option linter.unusedSimpArgs false
set_option linter.unusedVariables false
namespace Go.Ses
/-- A value of side i set. -/
def upd {α : Type} (X : Nat → α) (i : Nat) (v : α) : Nat → α := fun j => if j = i then v else X j
theorem upd_same {α : Type} (X : Nat → α) (i : Nat) (v : α) : upd X i v i = v := if_pos rfl
theorem upd_other {α : Type} (X : Nat → α) {i j : Nat} (v : α) (h : j ≠ i) : upd X i v j = X j := if_neg h
theorem upd_self {α : Type} (X : Nat → α) (i : Nat) : upd X i (X i) = X := by funext j; unfold upd; split <;> simp_all
end Go.Ses
namespace Go.Proofs.Ytihkjdoajfjnpaa
open Go.ChangeShapes Go.WideShapes Go.ChangeAt Go.RowKit Go.Base Go.Ses

/-- Bytes that no call of a law turns: in a block of bytes, or below block B. -/
def Bd (B : Nat) (w : World) (A : Option Addr) (bs : Bytes) : Prop := ByU w A bs ∨ (Byt w A bs ∧ ∀ a, A = some a → a.block < B)
/-- A row of byte slices, of the law's own. -/
def RowB (B : Nat) (w : World) (v : Value) (l : List Bytes) : Prop := ∃ (A : Option Addr) (c : Nat) (vs : List SlV), v = .slice A l.length c ∧ vs.map SlV.b = l ∧ w.ownsRow B 27 1 v l.length (vs.map SlV.val) ∧ ∀ x ∈ vs, Bd B w x.A x.b
/-- A row of envelopes. -/
def RowE (B : Nat) (w : World) (v : Value) (l : List Ev) : Prop := ∃ (A : Option Addr) (c : Nat) (es : List EvV), v = .slice A l.length c ∧ es.map EvV.e = l ∧ w.ownsRow B 29 6 v l.length (cellsE es) ∧ ∀ x ∈ es, ByU w x.A x.e.body
section
variable {B : Nat} {w w' : World} {A : Option Addr} {bs : Bytes} {v : Value} {l : List Bytes} {le : List Ev} {q : Nat → Prop}
theorem Bd.byt (h : Bd B w A bs) : Byt w A bs := by
  rcases h with h | h
  · exact h.byt
  · exact h.1
theorem Bd.kept (h : Bd B w A bs) (hb : Below B w w') (hk : Ku w w') : Bd B w' A bs := by
  rcases h with h | ⟨h, h2⟩
  · exact .inl (h.kept hk)
  · refine .inr ⟨fun i hi => ?_, h2⟩
    obtain ⟨g, o, e, c⟩ := h i hi
    exact ⟨g, o, e, by rw [hb.cell (p := ⟨g, o + i, none⟩) (by have := h2 _ e; exact this)]; exact c⟩
theorem RowB.kept (h : RowB B w v l) (hm : Moved q w w') (hn : ∀ k, v.ownBlock = some k → ¬ q k) (hb : Below B w w') (hk : Ku w w') : RowB B w' v l := by
  obtain ⟨A, c, vs, e, m, o, b⟩ := h
  exact ⟨A, c, vs, e, m, own_moved o hm hn, fun x hx => (b x hx).kept hb hk⟩
theorem RowE.kept (h : RowE B w v le) (hm : Moved q w w') (hn : ∀ k, v.ownBlock = some k → ¬ q k) (hk : Ku w w') : RowE B w' v le := by
  obtain ⟨A, c, es, e, m, o, b⟩ := h
  exact ⟨A, c, es, e, m, own_moved o hm hn, fun x hx => (b x hx).kept hk⟩
theorem RowB.nil (B : Nat) (w : World) : RowB B w (.slice none 0 0) [] := ⟨none, 0, [], rfl, rfl, World.ownsRow_nil _ _ _ _, fun x hx => (by cases hx)⟩
theorem RowE.nil (B : Nat) (w : World) : RowE B w (.slice none 0 0) [] := ⟨none, 0, [], rfl, rfl, World.ownsRow_nil _ _ _ _, fun x hx => (by cases hx)⟩
/-- What an own row offers to an append. -/
theorem own_news {b n size cap : Nat} {e : TypeId} {xs : List Value} (h : w.ownsRow b e size (.slice A n cap) n xs) (hs : 0 < size) : 0 < n → ∃ ad, A = some ad ∧ ∀ j u, xs[j]? = some u → w.cell? (ad.add j) = some u := fun hn => by
  obtain ⟨g, e1, _⟩ := own_cell h rfl 0 (Nat.mul_pos hn hs)
  subst e1
  refine ⟨⟨g, 0, none⟩, rfl, fun j u hu => ?_⟩
  have hj : j < n * size := by
    rcases Nat.lt_or_ge j (n * size) with hj | hj
    · exact hj
    · rw [List.getElem?_eq_none (by rw [h.1]; exact hj)] at hu; cases hu
  obtain ⟨g2, e2, h2⟩ := own_cell h rfl j hj
  injection e2 with e2; injection e2 with e2; subst e2
  rw [add_off, Nat.zero_add, h2]; exact hu
/-- Behind a growing of a row of another block. -/
theorem own_ty {b n size : Nat} {e : TypeId} {xs : List Value} (h : w.ownsRow b e size v n xs) {k : Nat} (hk : v.ownBlock = some k) : ∃ cs z, w.heap[k]? = some (.cells cs e z) := by
  rcases h.2 with ⟨h0, _⟩ | ⟨g, cap, cur, h0, _, hg, _⟩
  · rw [h0] at hk; cases hk
  · rw [h0] at hk
    have : g = k := Option.some.inj hk
    subst this
    exact ⟨_, _, hg⟩
end
structure PairX (B : Nat) (w : World) (pp : Nat) (X : Nat → Side) (P : Nat → Nat) (F : Nat → Nat → Prop) (G : Nat → Prop) (Q S C : Nat → Value) : Prop where
  self : w.heap[pp]? = some (.cells #[.pointer (some ⟨P 0, 0, none⟩), .pointer (some ⟨P 1, 0, none⟩), .int .i64 (X 0).boot, .int .i64 (X 1).boot, Q 0, Q 1, S 0, S 1, C 0, C 1, .int .i64 (X 0).fr, .int .i64 (X 1).fr] 50 (0, 0))
  ses : ∀ i, i < 2 → SE (F i) w (P i) (X i).ss
  tight : ∀ i, i < 2 → ∀ k, F i k → B ≤ k ∧ k < w.heap.size
  apart : ∀ i, i < 2 → ∀ k, F i k → ¬ F (1 - i) k
  q : ∀ i, i < 2 → RowE B w (Q i) (X i).q
  s : ∀ i, i < 2 → RowB B w (S i) (X i).sent
  c : ∀ i, i < 2 → RowB B w (C i) (X i).came
  own : G pp ∧ ∀ i, i < 2 → ∀ k, ((Q i).ownBlock = some k → G k) ∧ ((S i).ownBlock = some k → G k) ∧ ((C i).ownBlock = some k → G k)
  g : ∀ k, G k → B ≤ k ∧ k < w.heap.size ∧ ∀ i, i < 2 → ¬ F i k
  qs : ∀ i, i < 2 → ∀ k, (Q i).ownBlock = some k → (Q (1 - i)).ownBlock ≠ some k
/-- The pair's state. -/
def PairS (B : Nat) (w : World) (pp : Nat) (X : Nat → Side) : Prop := ∃ P F G Q S C, PairX B w pp X P F G Q S C
section
variable {B pp i : Nat} {w w1 w' : World} {X : Nat → Side} {P : Nat → Nat} {F : Nat → Nat → Prop} {G : Nat → Prop} {Q S C : Nat → Value} {q : Nat → Prop}
theorem PairX.cell (h : PairX B w pp X P F G Q S C) (hi : i < 2) : w.cell? ⟨pp, i, none⟩ = some (.pointer (some ⟨P i, 0, none⟩)) ∧ w.cell? ⟨pp, 2 + i, none⟩ = some (.int .i64 (X i).boot) ∧ w.cell? ⟨pp, 4 + i, none⟩ = some (Q i) ∧ w.cell? ⟨pp, 6 + i, none⟩ = some (S i) ∧ w.cell? ⟨pp, 8 + i, none⟩ = some (C i) ∧ w.cell? ⟨pp, 10 + i, none⟩ = some (.int .i64 (X i).fr) := by
  have e : ∀ j, w.cell? ⟨pp, j, none⟩ = _ := fun j => cell_of_row _ _ j _ _ _ h.self
  match i, hi with
  | 0, _ => exact ⟨e 0, e 2, e 4, e 6, e 8, e 10⟩
  | 1, _ => exact ⟨e 1, e 3, e 5, e 7, e 9, e 11⟩
theorem PairX.free (h : PairX B w pp X P F G Q S C) (j : Nat) : w.frozen? ⟨pp, j, none⟩ = false := (cells_of_heap h.self).2 j
theorem PairX.lt (h : PairX B w pp X P F G Q S C) : pp < w.heap.size := heap_lt h.self
theorem PairX.low (h : PairX B w pp X P F G Q S C) : B ≤ pp := (h.g _ h.own.1).1
/-- Where none of the pair's blocks was written. -/
theorem PairX.kept (h : PairX B w pp X P F G Q S C) (hm : Moved q w w') (hq : ∀ k, k < w.heap.size → q k → ¬ G k ∧ ∀ i, i < 2 → ¬ F i k) (hb : Below B w w') (hk : Ku w w') : PairX B w' pp X P F G Q S C := by
  have hg : ∀ k, G k → ¬ q k := fun k hk e => (hq k (h.g k hk).2.1 e).1 hk
  refine ⟨hm.heap h.self (hg _ h.own.1), fun i hi => (h.ses i hi).kept hm (fun k hk e => (hq k (h.tight i hi k hk).2 e).2 i hi hk) hk, fun i hi k hk2 => ⟨(h.tight i hi k hk2).1, Nat.lt_of_lt_of_le (h.tight i hi k hk2).2 hm.size⟩, h.apart,
    fun i hi => (h.q i hi).kept hm (fun k hk => hg _ ((h.own.2 i hi k).1 hk)) hk, fun i hi => (h.s i hi).kept hm (fun k hk => hg _ ((h.own.2 i hi k).2.1 hk)) hb hk, fun i hi => (h.c i hi).kept hm (fun k hk => hg _ ((h.own.2 i hi k).2.2 hk)) hb hk, h.own, fun k hk2 => ⟨(h.g k hk2).1, Nat.lt_of_lt_of_le (h.g k hk2).2.1 hm.size, (h.g k hk2).2.2⟩, h.qs⟩
theorem PairX.later (h : PairX B w pp X P F G Q S C) (hb : Below w.heap.size w w') : PairX B w' pp X P F G Q S C :=
  h.kept (q := fun _ => False) (Below.movedNew hb) (fun _ _ h => h.elim) (hb.mono (Nat.le_trans h.low (Nat.le_of_lt h.lt))) (Below.ku hb)
/-- A session's call. -/
theorem PairX.call (h : PairX B w pp X P F G Q S C) (hi : i < 2) {s2 : Ss} (hs : SE (fun k => F i k ∨ w.heap.size ≤ k) w' (P i) s2) (hm : Moved (F i) w w') (hk : Ku w w') :
    PairX B w' pp (upd X i { X i with ss := s2 }) P (upd F i (fun k => (F i k ∨ w.heap.size ≤ k) ∧ k < w'.heap.size)) G Q S C := by
  have hb : Below B w w' := hm.below (fun k _ hk => (h.tight i hi k hk).1) (Nat.le_trans h.low (Nat.le_of_lt h.lt))
  have hg : ∀ k, G k → ¬ F i k := fun k hk2 => (h.g k hk2).2.2 i hi
  have hBw : B ≤ w.heap.size := Nat.le_trans h.low (Nat.le_of_lt h.lt)
  have hF : ∀ j, j < 2 → ∀ k, upd F i (fun k => (F i k ∨ w.heap.size ≤ k) ∧ k < w'.heap.size) j k → F j k ∨ (j = i ∧ w.heap.size ≤ k ∧ k < w'.heap.size) := fun j hj k hk2 => by
    unfold upd at hk2
    split at hk2
    · rename_i e
      subst e
      rcases hk2.1 with h1 | h1
      · exact .inl h1
      · exact .inr ⟨rfl, h1, hk2.2⟩
    · exact .inl hk2
  have hX : ∀ j, (upd X i { X i with ss := s2 } j).q = (X j).q ∧ (upd X i { X i with ss := s2 } j).sent = (X j).sent ∧ (upd X i { X i with ss := s2 } j).came = (X j).came ∧ (upd X i { X i with ss := s2 } j).boot = (X j).boot ∧ (upd X i { X i with ss := s2 } j).fr = (X j).fr := fun j => by
    unfold upd
    split
    · rename_i e; subst e; exact ⟨rfl, rfl, rfl, rfl, rfl⟩
    · exact ⟨rfl, rfl, rfl, rfl, rfl⟩
  refine ⟨?_, fun j hj => ?_, fun j hj k hk2 => ?_, fun j hj k hk2 hk3 => ?_, fun j hj => ?_, fun j hj => ?_, fun j hj => ?_, h.own, fun k hk2 => ⟨(h.g k hk2).1, Nat.lt_of_lt_of_le (h.g k hk2).2.1 hm.size, fun j hj hk3 => ?_⟩, h.qs⟩
  · rw [(hX 0).2.2.2.1, (hX 1).2.2.2.1, (hX 0).2.2.2.2, (hX 1).2.2.2.2]
    exact hm.heap h.self (hg _ h.own.1)
  · by_cases e : j = i
    · subst e
      rw [upd_same, upd_same]
      exact hs.tight
    · rw [upd_other _ _ e, upd_other _ _ e]
      have e2 : i = 1 - j := by omega
      exact (h.ses j hj).kept hm (fun k hk2 hk3 => h.apart j hj k hk2 (e2 ▸ hk3)) hk
  · rcases hF j hj k hk2 with h1 | ⟨_, h1, h2⟩
    · exact ⟨(h.tight j hj k h1).1, Nat.lt_of_lt_of_le (h.tight j hj k h1).2 hm.size⟩
    · exact ⟨Nat.le_trans hBw h1, h2⟩
  · rcases hF j hj k hk2 with h1 | ⟨e1, h1, h2⟩
    · rcases hF (1 - j) (by omega) k hk3 with h3 | ⟨e3, h3, h4⟩
      · exact h.apart j hj k h1 h3
      · have := (h.tight j hj k h1).2; omega
    · rcases hF (1 - j) (by omega) k hk3 with h3 | ⟨e3, h3, h4⟩
      · have := (h.tight (1 - j) (by omega) k h3).2; omega
      · omega
  · rw [(hX j).1]; exact (h.q j hj).kept hm (fun k hk2 => hg _ ((h.own.2 j hj k).1 hk2)) hk
  · rw [(hX j).2.1]; exact (h.s j hj).kept hm (fun k hk2 => hg _ ((h.own.2 j hj k).2.1 hk2)) hb hk
  · rw [(hX j).2.2.1]; exact (h.c j hj).kept hm (fun k hk2 => hg _ ((h.own.2 j hj k).2.2 hk2)) hb hk
  · rcases hF j hj k hk3 with h1 | ⟨e1, h1, h2⟩
    · exact (h.g k hk2).2.2 j hj h1
    · have := (h.g k hk2).2.1; omega
/-- The pair's own block, and rows that it holds, are others. -/
theorem PairX.set (h : PairX B w pp X P F G Q S C) {X2 : Nat → Side} {G2 : Nat → Prop} {Q2 S2 C2 : Nat → Value} (hm : Moved (fun k => k = pp) w w')
    (hself : w'.heap[pp]? = some (.cells #[.pointer (some ⟨P 0, 0, none⟩), .pointer (some ⟨P 1, 0, none⟩), .int .i64 (X2 0).boot, .int .i64 (X2 1).boot, Q2 0, Q2 1, S2 0, S2 1, C2 0, C2 1, .int .i64 (X2 0).fr, .int .i64 (X2 1).fr] 50 (0, 0)))
    (hss : ∀ i, (X2 i).ss = (X i).ss) (hq : ∀ i, i < 2 → RowE B w (Q2 i) (X2 i).q) (hs : ∀ i, i < 2 → RowB B w (S2 i) (X2 i).sent) (hc : ∀ i, i < 2 → RowB B w (C2 i) (X2 i).came)
    (hown : G2 pp ∧ ∀ i, i < 2 → ∀ k, ((Q2 i).ownBlock = some k → G2 k) ∧ ((S2 i).ownBlock = some k → G2 k) ∧ ((C2 i).ownBlock = some k → G2 k)) (hg : ∀ k, G2 k → B ≤ k ∧ k < w.heap.size ∧ ∀ i, i < 2 → ¬ F i k)
    (hqs : ∀ i, i < 2 → ∀ k, (Q2 i).ownBlock = some k → (Q2 (1 - i)).ownBlock ≠ some k) : PairX B w' pp X2 P F G2 Q2 S2 C2 ∧ Below B w w' ∧ Ku w w' := by
  have hk : Ku w w' := hm.ku (fun T hT k cs z e hk => by subst e; rw [h.self] at hk; injection hk with hk; injection hk with _ hk _; rcases hT with rfl | rfl <;> revert hk <;> decide)
  have hb : Below B w w' := hm.below (fun k _ e => by rw [e]; exact h.low) (Nat.le_trans h.low (Nat.le_of_lt h.lt))
  refine ⟨⟨hself, fun i hi => ?_, fun i hi k hk2 => ⟨(h.tight i hi k hk2).1, Nat.lt_of_lt_of_le (h.tight i hi k hk2).2 hm.size⟩, h.apart, fun i hi => ?_, fun i hi => ?_, fun i hi => ?_, hown, fun k hk2 => ⟨(hg k hk2).1, Nat.lt_of_lt_of_le (hg k hk2).2.1 hm.size, (hg k hk2).2.2⟩, hqs⟩, hb, hk⟩
  · rw [hss]; exact (h.ses i hi).kept hm (fun k hk2 e => (h.g _ h.own.1).2.2 i hi (e ▸ hk2)) hk
  · refine (hq i hi).kept hm (fun k hk2 e => ?_) hk
    obtain ⟨A, c, es, _, _, o, _⟩ := hq i hi
    exact own_ne o h.self (by decide) (by rw [hk2, e])
  · refine (hs i hi).kept hm (fun k hk2 e => ?_) hb hk
    obtain ⟨A, c, es, _, _, o, _⟩ := hs i hi
    exact own_ne o h.self (by decide) (by rw [hk2, e])
  · refine (hc i hi).kept hm (fun k hk2 e => ?_) hb hk
    obtain ⟨A, c, es, _, _, o, _⟩ := hc i hi
    exact own_ne o h.self (by decide) (by rw [hk2, e])
end
end Go.Proofs.Ytihkjdoajfjnpaa
