/- The laws' pair: a row that is another one; in. -/
import Derived.Test.YtihkjdoajfjnpaaSesP
import Derived.Test.YtihkjdoajfjnpaaHeldC
set_option linter.unusedSimpArgs false
set_option linter.unusedVariables false
namespace Go.Ses
theorem upd_upd {α : Type} (X : Nat → α) (i : Nat) (a b : α) : upd (upd X i a) i b = upd X i b := by funext j; unfold upd; split <;> rfl
theorem inS_old {x : Side} {e : Ev} (h : (onS x.ss e).1.2.1 = false) : inS x e = { x with ss := (onS x.ss e).2, came := x.came ++ (onS x.ss e).1.1 } := by unfold inS; rw [h]; rfl
theorem inS_new {x : Side} {e : Ev} (h : (onS x.ss e).1.2.1 = true) : inS x e = { x with ss := (onS x.ss e).2, sent := [], came := [] ++ (onS x.ss e).1.1, fr := e.mine } := by unfold inS; rw [h]; rfl
end Go.Ses
namespace Go.Proofs.Ytihkjdoajfjnpaa
open Go.ChangeShapes Go.WideShapes Go.ChangeAt Go.RowKit Go.Base Go.Ses

theorem own_low {w : World} {b b' n size : Nat} {e : TypeId} {v : Value} {xs : List Value} (h : w.ownsRow b e size v n xs) (hb : b' ≤ b) : w.ownsRow b' e size v n xs := by
  refine ⟨h.1, ?_⟩
  rcases h.2 with h0 | ⟨g', cap, cur, h1, h2, h3⟩
  · exact .inl h0
  · exact .inr ⟨g', cap, cur, h1, Nat.le_trans hb h2, h3⟩
section
variable {B pp i : Nat} {w w1 w' : World} {X : Nat → Side} {P : Nat → Nat} {F : Nat → Nat → Prop} {G : Nat → Prop} {Q S C : Nat → Value} {q : Nat → Prop}
theorem PairX.to (h : PairX B w pp X P F G Q S C) : PairS B w pp X := ⟨P, F, G, Q, S, C, h⟩
theorem PairX.lowle (h : PairX B w pp X P F G Q S C) : B ≤ w.heap.size := Nat.le_trans h.low (Nat.le_of_lt h.lt)
theorem PairX.newC (h : PairX B w pp X P F G Q S C) (hi : i < 2) {w9 : World} {A9 : Option Addr} {c9 N : Nat} {vs : List SlV} (hb : Below w.heap.size w w9) (hN : vs.length = N) (hown : w9.ownsRow w.heap.size 27 1 (.slice A9 N c9) N (vs.map SlV.val)) (hbd : ∀ x ∈ vs, Bd B w9 x.A x.b) :
    PairX B (w9.setCell ⟨pp, 8 + i, none⟩ (.slice A9 N c9)) pp (upd X i { X i with came := vs.map SlV.b }) P F (fun k => G k ∨ (Value.slice A9 N c9).ownBlock = some k) Q S (upd C i (.slice A9 N c9)) ∧ Below B w (w9.setCell ⟨pp, 8 + i, none⟩ (.slice A9 N c9)) ∧ Ku w (w9.setCell ⟨pp, 8 + i, none⟩ (.slice A9 N c9)) := by
  have h9 := h.later hb
  have hBw : B ≤ w.heap.size := Nat.le_trans h.low (Nat.le_of_lt h.lt)
  have hm : Moved (fun k => k = pp) w9 (w9.setCell ⟨pp, 8 + i, none⟩ (.slice A9 N c9)) := (Moved.refl (fun k => k = pp) w9).setCell (.inr rfl) _
  have hnb : ∀ k, (Value.slice A9 N c9).ownBlock = some k → w.heap.size ≤ k ∧ k < w9.heap.size := fun k hk => hown.lt k hk
  have hnF : ∀ k, (Value.slice A9 N c9).ownBlock = some k → ∀ j, j < 2 → ¬ F j k := fun k hk j hj e => by have := (h.tight j hj k e).2; have := (hnb k hk).1; omega
  have hrow : RowB B w9 (.slice A9 N c9) (vs.map SlV.b) := ⟨A9, c9, vs, by rw [List.length_map, hN], rfl, by rw [List.length_map, hN]; exact own_low hown hBw, hbd⟩
  have key : PairX B (w9.setCell ⟨pp, 8 + i, none⟩ (.slice A9 N c9)) pp (upd X i { X i with came := vs.map SlV.b }) P F (fun k => G k ∨ (Value.slice A9 N c9).ownBlock = some k) Q S (upd C i (.slice A9 N c9)) ∧ Below B w9 (w9.setCell ⟨pp, 8 + i, none⟩ (.slice A9 N c9)) ∧ Ku w9 (w9.setCell ⟨pp, 8 + i, none⟩ (.slice A9 N c9)) := by
    refine h9.set (X2 := (upd X i { X i with came := vs.map SlV.b })) (G2 := fun k => G k ∨ (Value.slice A9 N c9).ownBlock = some k) (Q2 := Q) (S2 := S) (C2 := (upd C i (.slice A9 N c9))) hm ?a1 ?a2 ?a3 ?a4 ?a5 ?a6 ?a7 ?a8
    case a1 =>
      rw [heap_set h9.self (8 + i)]
      match i, hi with
      | 0, _ => rfl
      | 1, _ => rfl
    case a2 => (intro j; unfold upd; split <;> simp_all)
    case a3 =>
      intro j hj
      have e : ((upd X i { X i with came := vs.map SlV.b }) j).q = (X j).q := by unfold upd; split <;> simp_all
      rw [e]; exact h9.q j hj
    case a4 =>
      intro j hj
      have e : ((upd X i { X i with came := vs.map SlV.b }) j).sent = (X j).sent := by unfold upd; split <;> simp_all
      rw [e]; exact h9.s j hj
    case a5 =>
      intro j hj
      by_cases e : j = i
      · subst e; rw [upd_same, upd_same]; exact hrow
      · rw [upd_other _ _ e, upd_other _ _ e]; exact h9.c j hj
    case a6 =>
      refine ⟨.inl h.own.1, fun j hj k => ⟨fun hk => ?_, fun hk => ?_, fun hk => ?_⟩⟩
      · exact .inl ((h.own.2 j hj k).1 hk)
      · exact .inl ((h.own.2 j hj k).2.1 hk)
      · by_cases e : j = i
        · subst e; rw [upd_same] at hk; exact .inr hk
        · rw [upd_other _ _ e] at hk; exact .inl ((h.own.2 j hj k).2.2 hk)
    case a7 =>
      intro k hk
      rcases hk with hk | hk
      · exact ⟨(h.g k hk).1, Nat.lt_of_lt_of_le (h.g k hk).2.1 hb.size, (h.g k hk).2.2⟩
      · exact ⟨Nat.le_trans hBw (hnb k hk).1, (hnb k hk).2, hnF k hk⟩
    case a8 => exact h.qs
  obtain ⟨r1, r2, r3⟩ := key
  exact ⟨r1, (hb.mono hBw).trans r2, (Below.ku hb).trans r3⟩
theorem PairX.newS (h : PairX B w pp X P F G Q S C) (hi : i < 2) {w9 : World} {A9 : Option Addr} {c9 N : Nat} {vs : List SlV} (hb : Below w.heap.size w w9) (hN : vs.length = N) (hown : w9.ownsRow w.heap.size 27 1 (.slice A9 N c9) N (vs.map SlV.val)) (hbd : ∀ x ∈ vs, Bd B w9 x.A x.b) :
    PairX B (w9.setCell ⟨pp, 6 + i, none⟩ (.slice A9 N c9)) pp (upd X i { X i with sent := vs.map SlV.b }) P F (fun k => G k ∨ (Value.slice A9 N c9).ownBlock = some k) Q (upd S i (.slice A9 N c9)) C ∧ Below B w (w9.setCell ⟨pp, 6 + i, none⟩ (.slice A9 N c9)) ∧ Ku w (w9.setCell ⟨pp, 6 + i, none⟩ (.slice A9 N c9)) := by
  have h9 := h.later hb
  have hBw : B ≤ w.heap.size := Nat.le_trans h.low (Nat.le_of_lt h.lt)
  have hm : Moved (fun k => k = pp) w9 (w9.setCell ⟨pp, 6 + i, none⟩ (.slice A9 N c9)) := (Moved.refl (fun k => k = pp) w9).setCell (.inr rfl) _
  have hnb : ∀ k, (Value.slice A9 N c9).ownBlock = some k → w.heap.size ≤ k ∧ k < w9.heap.size := fun k hk => hown.lt k hk
  have hnF : ∀ k, (Value.slice A9 N c9).ownBlock = some k → ∀ j, j < 2 → ¬ F j k := fun k hk j hj e => by have := (h.tight j hj k e).2; have := (hnb k hk).1; omega
  have hrow : RowB B w9 (.slice A9 N c9) (vs.map SlV.b) := ⟨A9, c9, vs, by rw [List.length_map, hN], rfl, by rw [List.length_map, hN]; exact own_low hown hBw, hbd⟩
  have key : PairX B (w9.setCell ⟨pp, 6 + i, none⟩ (.slice A9 N c9)) pp (upd X i { X i with sent := vs.map SlV.b }) P F (fun k => G k ∨ (Value.slice A9 N c9).ownBlock = some k) Q (upd S i (.slice A9 N c9)) C ∧ Below B w9 (w9.setCell ⟨pp, 6 + i, none⟩ (.slice A9 N c9)) ∧ Ku w9 (w9.setCell ⟨pp, 6 + i, none⟩ (.slice A9 N c9)) := by
    refine h9.set (X2 := (upd X i { X i with sent := vs.map SlV.b })) (G2 := fun k => G k ∨ (Value.slice A9 N c9).ownBlock = some k) (Q2 := Q) (S2 := (upd S i (.slice A9 N c9))) (C2 := C) hm ?a1 ?a2 ?a3 ?a4 ?a5 ?a6 ?a7 ?a8
    case a1 =>
      rw [heap_set h9.self (6 + i)]
      match i, hi with
      | 0, _ => rfl
      | 1, _ => rfl
    case a2 => (intro j; unfold upd; split <;> simp_all)
    case a3 =>
      intro j hj
      have e : ((upd X i { X i with sent := vs.map SlV.b }) j).q = (X j).q := by unfold upd; split <;> simp_all
      rw [e]; exact h9.q j hj
    case a4 =>
      intro j hj
      by_cases e : j = i
      · subst e; rw [upd_same, upd_same]; exact hrow
      · rw [upd_other _ _ e, upd_other _ _ e]; exact h9.s j hj
    case a5 =>
      intro j hj
      have e : ((upd X i { X i with sent := vs.map SlV.b }) j).came = (X j).came := by unfold upd; split <;> simp_all
      rw [e]; exact h9.c j hj
    case a6 =>
      refine ⟨.inl h.own.1, fun j hj k => ⟨fun hk => ?_, fun hk => ?_, fun hk => ?_⟩⟩
      · exact .inl ((h.own.2 j hj k).1 hk)
      · by_cases e : j = i
        · subst e; rw [upd_same] at hk; exact .inr hk
        · rw [upd_other _ _ e] at hk; exact .inl ((h.own.2 j hj k).2.1 hk)
      · exact .inl ((h.own.2 j hj k).2.2 hk)
    case a7 =>
      intro k hk
      rcases hk with hk | hk
      · exact ⟨(h.g k hk).1, Nat.lt_of_lt_of_le (h.g k hk).2.1 hb.size, (h.g k hk).2.2⟩
      · exact ⟨Nat.le_trans hBw (hnb k hk).1, (hnb k hk).2, hnF k hk⟩
    case a8 => exact h.qs
  obtain ⟨r1, r2, r3⟩ := key
  exact ⟨r1, (hb.mono hBw).trans r2, (Below.ku hb).trans r3⟩
theorem PairX.newQ (h : PairX B w pp X P F G Q S C) (hi : i < 2) {w9 : World} {A9 : Option Addr} {c9 N : Nat} {vs : List EvV} (hb : Below w.heap.size w w9) (hN : vs.length = N) (hown : w9.ownsRow w.heap.size 29 6 (.slice A9 N c9) N (cellsE vs)) (hbd : ∀ x ∈ vs, ByU w9 x.A x.e.body) :
    PairX B (w9.setCell ⟨pp, 4 + i, none⟩ (.slice A9 N c9)) pp (upd X i { X i with q := vs.map EvV.e }) P F (fun k => G k ∨ (Value.slice A9 N c9).ownBlock = some k) (upd Q i (.slice A9 N c9)) S C ∧ Below B w (w9.setCell ⟨pp, 4 + i, none⟩ (.slice A9 N c9)) ∧ Ku w (w9.setCell ⟨pp, 4 + i, none⟩ (.slice A9 N c9)) := by
  have h9 := h.later hb
  have hBw : B ≤ w.heap.size := Nat.le_trans h.low (Nat.le_of_lt h.lt)
  have hm : Moved (fun k => k = pp) w9 (w9.setCell ⟨pp, 4 + i, none⟩ (.slice A9 N c9)) := (Moved.refl (fun k => k = pp) w9).setCell (.inr rfl) _
  have hnb : ∀ k, (Value.slice A9 N c9).ownBlock = some k → w.heap.size ≤ k ∧ k < w9.heap.size := fun k hk => hown.lt k hk
  have hnF : ∀ k, (Value.slice A9 N c9).ownBlock = some k → ∀ j, j < 2 → ¬ F j k := fun k hk j hj e => by have := (h.tight j hj k e).2; have := (hnb k hk).1; omega
  have hrow : RowE B w9 (.slice A9 N c9) (vs.map EvV.e) := ⟨A9, c9, vs, by rw [List.length_map, hN], rfl, by rw [List.length_map, hN]; exact own_low hown hBw, hbd⟩
  have key : PairX B (w9.setCell ⟨pp, 4 + i, none⟩ (.slice A9 N c9)) pp (upd X i { X i with q := vs.map EvV.e }) P F (fun k => G k ∨ (Value.slice A9 N c9).ownBlock = some k) (upd Q i (.slice A9 N c9)) S C ∧ Below B w9 (w9.setCell ⟨pp, 4 + i, none⟩ (.slice A9 N c9)) ∧ Ku w9 (w9.setCell ⟨pp, 4 + i, none⟩ (.slice A9 N c9)) := by
    refine h9.set (X2 := (upd X i { X i with q := vs.map EvV.e })) (G2 := fun k => G k ∨ (Value.slice A9 N c9).ownBlock = some k) (Q2 := (upd Q i (.slice A9 N c9))) (S2 := S) (C2 := C) hm ?a1 ?a2 ?a3 ?a4 ?a5 ?a6 ?a7 ?a8
    case a1 =>
      rw [heap_set h9.self (4 + i)]
      match i, hi with
      | 0, _ => rfl
      | 1, _ => rfl
    case a2 => (intro j; unfold upd; split <;> simp_all)
    case a3 =>
      intro j hj
      by_cases e : j = i
      · subst e; rw [upd_same, upd_same]; exact hrow
      · rw [upd_other _ _ e, upd_other _ _ e]; exact h9.q j hj
    case a4 =>
      intro j hj
      have e : ((upd X i { X i with q := vs.map EvV.e }) j).sent = (X j).sent := by unfold upd; split <;> simp_all
      rw [e]; exact h9.s j hj
    case a5 =>
      intro j hj
      have e : ((upd X i { X i with q := vs.map EvV.e }) j).came = (X j).came := by unfold upd; split <;> simp_all
      rw [e]; exact h9.c j hj
    case a6 =>
      refine ⟨.inl h.own.1, fun j hj k => ⟨fun hk => ?_, fun hk => ?_, fun hk => ?_⟩⟩
      · by_cases e : j = i
        · subst e; rw [upd_same] at hk; exact .inr hk
        · rw [upd_other _ _ e] at hk; exact .inl ((h.own.2 j hj k).1 hk)
      · exact .inl ((h.own.2 j hj k).2.1 hk)
      · exact .inl ((h.own.2 j hj k).2.2 hk)
    case a7 =>
      intro k hk
      rcases hk with hk | hk
      · exact ⟨(h.g k hk).1, Nat.lt_of_lt_of_le (h.g k hk).2.1 hb.size, (h.g k hk).2.2⟩
      · exact ⟨Nat.le_trans hBw (hnb k hk).1, (hnb k hk).2, hnF k hk⟩
    case a8 =>
      intro j hj k hk hk2
      by_cases e : j = i
      · subst e
        rw [upd_same] at hk
        rw [upd_other _ _ (by omega)] at hk2
        have := (h.g k ((h.own.2 (1 - j) (by omega) k).1 hk2)).2.1
        have := (hnb k hk).1; omega
      · rw [upd_other _ _ e] at hk
        rw [show 1 - j = i by omega, upd_same] at hk2
        have := (h.g k ((h.own.2 j hj k).1 hk)).2.1
        have := (hnb k hk2).1; omega
  obtain ⟨r1, r2, r3⟩ := key
  exact ⟨r1, (hb.mono hBw).trans r2, (Below.ku hb).trans r3⟩
/-- A side begun anew by the other one. -/
theorem PairX.fresh (h : PairX B w pp X P F G Q S C) (hi : i < 2) (m : Int) :
    PairX B (((w.setCell ⟨pp, 8 + i, none⟩ (.slice none 0 0)).setCell ⟨pp, 6 + i, none⟩ (.slice none 0 0)).setCell ⟨pp, 10 + i, none⟩ (.int .i64 m)).drew pp (upd X i { X i with sent := [], came := [], fr := m }) P F G Q (upd S i (.slice none 0 0)) (upd C i (.slice none 0 0)) ∧
    Below B w (((w.setCell ⟨pp, 8 + i, none⟩ (.slice none 0 0)).setCell ⟨pp, 6 + i, none⟩ (.slice none 0 0)).setCell ⟨pp, 10 + i, none⟩ (.int .i64 m)).drew ∧ Ku w (((w.setCell ⟨pp, 8 + i, none⟩ (.slice none 0 0)).setCell ⟨pp, 6 + i, none⟩ (.slice none 0 0)).setCell ⟨pp, 10 + i, none⟩ (.int .i64 m)).drew := by
  have hm : Moved (fun k => k = pp) w (((w.setCell ⟨pp, 8 + i, none⟩ (.slice none 0 0)).setCell ⟨pp, 6 + i, none⟩ (.slice none 0 0)).setCell ⟨pp, 10 + i, none⟩ (.int .i64 m)).drew := ((((Moved.refl (fun k => k = pp) w).setCell (.inr rfl) _).setCell (.inr rfl) _).setCell (.inr rfl) _).drew
  refine h.set hm ?_ (fun j => ?_) (fun j hj => ?_) (fun j hj => ?_) (fun j hj => ?_) ⟨h.own.1, fun j hj k => ⟨fun hk => (h.own.2 j hj k).1 hk, fun hk => ?_, fun hk => ?_⟩⟩ h.g h.qs
  · refine (heap_set (heap_set (heap_set h.self (8 + i) _) (6 + i) _) (10 + i) _).trans ?_
    match i, hi with
    | 0, _ => rfl
    | 1, _ => rfl
  · unfold upd; split <;> simp_all
  · have e : (upd X i { X i with sent := [], came := [], fr := m } j).q = (X j).q := by unfold upd; split <;> simp_all
    rw [e]; exact h.q j hj
  · by_cases e : j = i
    · subst e; rw [upd_same, upd_same]; exact RowB.nil _ _
    · rw [upd_other _ _ e, upd_other _ _ e]; exact h.s j hj
  · by_cases e : j = i
    · subst e; rw [upd_same, upd_same]; exact RowB.nil _ _
    · rw [upd_other _ _ e, upd_other _ _ e]; exact h.c j hj
  · by_cases e : j = i
    · subst e; rw [upd_same] at hk; cases hk
    · rw [upd_other _ _ e] at hk; exact (h.own.2 j hj k).2.1 hk
  · by_cases e : j = i
    · subst e; rw [upd_same] at hk; cases hk
    · rw [upd_other _ _ e] at hk; exact (h.own.2 j hj k).2.2 hk
def InPost (B pp i : Nat) (X : Nat → Side) (ev : Ev) (w : World) (e : Ending) (w' : World) : Prop := e = .returned (.bool true) ∧ PairS B w' pp (upd X i (inS (X i) ev)) ∧ Below B w w' ∧ Ku w w'
set_option maxHeartbeats 8000000 in
set_option maxRecDepth 20000 in
theorem in_any (h : PairX B w pp X P F G Q S C) (hi : i < 2) (e : Ev) (A0 : Option Addr) (c0 : Nat) (hy : Bd B w A0 e.body) (hf : fitsB e = true) (hp : (X i).ss.l.puts < 1000000) (hcl : (X i).came.length ≤ 2147483648) (hnl : (onS (X i).ss e).1.1.length ≤ 1000002) :
    Calls Try.prog 17 #[.pointer (some ⟨pp, 0, none⟩), .int .i64 (i : Int), .agg #[.int .i64 e.kind, .int .i64 e.mine, .int .i64 e.yours, .int .i64 e.seq, .int .i64 e.ack, .slice A0 e.body.length c0]] w (InPost B pp i X e w) := by
  have hlen := (fits_parts hf).2.2.2.2.1
  obtain ⟨W1, hW1⟩ : ∃ W1, W1 = w.alloc (.cells #[.int .i64 e.kind, .int .i64 e.mine, .int .i64 e.yours, .int .i64 e.seq, .int .i64 e.ack, .slice A0 e.body.length c0] 29) := ⟨_, rfl⟩
  have hB1 : Below w.heap.size w W1 := by rw [hW1]; exact below_alloc _ _
  have k1 : W1.heap[w.heap.size]? = some (.cells #[.int .i64 e.kind, .int .i64 e.mine, .int .i64 e.yours, .int .i64 e.seq, .int .i64 e.ack, .slice A0 e.body.length c0] 29 (0, 0)) := by rw [hW1]; exact heap_new w _
  have HX := Lib.hid h
  have HW1 := Lib.hid hW1
  have HB1 := Lib.hid hB1
  have HE1 := Lib.hid k1
  have HY1 := Lib.hid (hy.byt.later hB1)
  have HF := Lib.hid hf
  have HP := Lib.hid hp
  have HCl1 := Lib.hid hcl
  have HNl := Lib.hid hnl
  obtain ⟨n, hn⟩ : ∃ n, n = e.body.length := ⟨_, rfl⟩
  have HN := Lib.hid hn
  have y5 : W1.cell? ⟨w.heap.size, 5, none⟩ = some (.slice A0 e.body.length c0) := cell_of_row _ _ 5 _ _ _ k1
  have f5 := (cells_of_heap k1).2 5
  obtain ⟨iu, hiu, hu0, hu1, hu2⟩ := info_parts u8_info
  obtain ⟨i0, hinfo, hz0, hzs, hz2⟩ := info_parts (P := Try.prog) (e := 27) (z := .slice none 0 0) (size := 1) (bytes := 24) (by kernel_rfl)
  have hi' : (i : Int) < 2 := by omega
  have hi0 : (0 : Int) ≤ (i : Int) := by omega
  have hln : n ≤ 32768 := by rw [hn]; exact hlen
  have hz1 : w.heap.size < W1.heap.size := by rw [hW1]; simp
  rw [← hn] at HE1 HW1 y5 ⊢
  have y5a := cell_old (.cells #[] 5) y5
  clear h hy hf hp hcl hnl hW1 hB1 k1 hlen hn
  go_enter Try.func17, Try.ntmps17
  go_wp2_with (first
    | rw [← HW1.out]
    | (at_builtin; refine wpList_append_byt _ (by rfl) (.tmp 10) (.tmp 12) 27 (by rfl) 5 iu Try.underlying27 hiu hu0 hu1 hu2 W1.heap.size (.slice (some ⟨W1.heap.size, 0, none⟩) 0 0) [] (by rfl) (World.ownsRow_made W1 #[] 0 (Nat.le_refl _) (by decide) rfl) A0 c0 e.body (by rw [← HN.out]; rfl) (HY1.out.alloc _) (by simp only [List.length_nil]; have := HN.out; omega) (by simp) ?_; intro A3 c3 w3 hown3 hgrow3 hat3; simp only [List.nil_append] at hown3 ⊢; rw [← HN.out]; have HU3 := Lib.hid (own_byu hown3); have HO3 := Lib.hid hown3; have HB3 : Hid (Below W1.heap.size W1 w3) := Lib.hid (((Below.refl _ _).alloc (Nat.le_refl _) _).grown hgrow3 (by simp) (by intro k hk; simp [Value.ownBlock] at hk; omega)); have kE3 := (HB3.out.block _ (heap_lt HE1.out)).trans HE1.out; have HE3 := Lib.hid kE3; have y5b : w3.cell? ⟨w.heap.size, 5, none⟩ = some (.slice A0 n c0) := cell_of_row _ _ 5 _ _ _ kE3; have f5b := (cells_of_heap kE3).2 5; clear hown3 hgrow3 hat3 kE3))
  have hm4 : Moved (fun k => k = w.heap.size) w3 (w3.setCell ⟨w.heap.size, 5, none⟩ (.slice A3 n c3)) := (Moved.refl (fun k => k = w.heap.size) w3).setCell (.inr rfl) _
  have kE4 : (w3.setCell ⟨w.heap.size, 5, none⟩ (.slice A3 n c3)).heap[w.heap.size]? = some (.cells #[.int .i64 e.kind, .int .i64 e.mine, .int .i64 e.yours, .int .i64 e.seq, .int .i64 e.ack, .slice A3 n c3] 29 (0, 0)) := (heap_set HE3.out 5 _).trans rfl
  have hb4 : Below w.heap.size w (w3.setCell ⟨w.heap.size, 5, none⟩ (.slice A3 n c3)) := (HB1.out.trans (HB3.out.mono HB1.out.size)).setCell (Nat.le_refl _) _
  have hu4 : ByU (w3.setCell ⟨w.heap.size, 5, none⟩ (.slice A3 n c3)) A3 e.body := HU3.out.kept (hm4.ku (fun T hT k cs z e2 hk => by subst e2; rw [HE3.out] at hk; injection hk with hk; injection hk with _ hk _; rcases hT with rfl | rfl <;> revert hk <;> decide))
  obtain ⟨w4, hw4⟩ : ∃ w4, w4 = w3.setCell ⟨w.heap.size, 5, none⟩ (.slice A3 n c3) := ⟨_, rfl⟩
  rw [← hw4] at kE4 hb4 hu4 ⊢
  clear hw4 hm4 y5 y5a f5 y5b f5b
  have HB4 := Lib.hid hb4
  have h4 := HX.out.later hb4
  have HE4 := Lib.hid kE4
  have hd4 := h4.later (Below.refl w4.heap.size w4).drew
  have HD4 := Lib.hid hd4
  have HOn : Hid (Calls Try.prog 10 #[.pointer (some ⟨P i, 0, none⟩), .agg #[.int .i64 e.kind, .int .i64 e.mine, .int .i64 e.yours, .int .i64 e.seq, .int .i64 e.ack, .slice A3 n c3]] w4.drew (OnPost (F i) (P i) (X i).ss e w4.drew)) := Lib.hid (by
    obtain ⟨sA, sc, svs, sbm, sD, hs⟩ := hd4.ses i hi
    rw [HN.out]
    exact on_any hs (fun k hk => (hd4.tight i hi k hk).2) e A3 c3 (hu4.later (Below.refl _ _).drew) HF.out HP.out)
  have x0 := (h4.cell hi).1
  have y0 : w4.cell? ⟨w.heap.size, 0, none⟩ = some (.int .i64 e.kind) := cell_of_row _ _ 0 _ _ _ kE4
  have y1 : w4.cell? ⟨w.heap.size, 1, none⟩ = some (.int .i64 e.mine) := cell_of_row _ _ 1 _ _ _ kE4
  have y2 : w4.cell? ⟨w.heap.size, 2, none⟩ = some (.int .i64 e.yours) := cell_of_row _ _ 2 _ _ _ kE4
  have y3 : w4.cell? ⟨w.heap.size, 3, none⟩ = some (.int .i64 e.seq) := cell_of_row _ _ 3 _ _ _ kE4
  have y4 : w4.cell? ⟨w.heap.size, 4, none⟩ = some (.int .i64 e.ack) := cell_of_row _ _ 4 _ _ _ kE4
  have y5 : w4.cell? ⟨w.heap.size, 5, none⟩ = some (.slice A3 n c3) := cell_of_row _ _ 5 _ _ _ kE4
  clear kE4 hb4 hu4 h4 hd4
  refine wp_region_held_drew (S := (fun V => V.cell? ⟨pp, i, none⟩ = some (.pointer (some ⟨P i, 0, none⟩)) ∧ V.cell? ⟨w.heap.size, 0, none⟩ = some (.int .i64 e.kind) ∧ V.cell? ⟨w.heap.size, 1, none⟩ = some (.int .i64 e.mine) ∧ V.cell? ⟨w.heap.size, 2, none⟩ = some (.int .i64 e.yours) ∧ V.cell? ⟨w.heap.size, 3, none⟩ = some (.int .i64 e.seq) ∧ V.cell? ⟨w.heap.size, 4, none⟩ = some (.int .i64 e.ack) ∧ V.cell? ⟨w.heap.size, 5, none⟩ = some (.slice A3 n c3))) (by kernel_rfl) ⟨x0, y0, y1, y2, y3, y4, y5⟩ (fun hHeld => ?_)
  refine wpAnyH_take (i := 0) (v := ?vv1) rfl (by kernel_rfl) (by kernel_rfl) (by kernel_rfl) (fun _ _ _ h => h) (Or.inl ⟨by rfl, ?hy1⟩) hHeld ?rr1
  case hy1 => (intro w' hSw; obtain ⟨s0, s1, s2, s3, s4, s5, s6⟩ := hSw; go_simp; try with_reducible rfl)
  try simp only [Act.put, List.setIfInBounds_toArray, List.set_cons_zero, List.set_cons_succ, List.getElem_toArray, List.getElem_cons_succ, List.getElem_cons_zero]
  refine wpAnyH_take (i := 1) (v := ?vv2) rfl (by kernel_rfl) (by kernel_rfl) (by kernel_rfl) (fun _ _ _ h => h) (Or.inl ⟨by rfl, ?hy2⟩) hHeld ?rr2
  case hy2 => (intro w' hSw; obtain ⟨s0, s1, s2, s3, s4, s5, s6⟩ := hSw; go_simp; try with_reducible rfl)
  try simp only [Act.put, List.setIfInBounds_toArray, List.set_cons_zero, List.set_cons_succ, List.getElem_toArray, List.getElem_cons_succ, List.getElem_cons_zero]
  refine wpAnyH_take (i := 2) (v := ?vv3) rfl (by kernel_rfl) (by kernel_rfl) (by kernel_rfl) (fun _ _ _ h => h) (Or.inl ⟨by rfl, ?hy3⟩) hHeld ?rr3
  case hy3 => (intro w' hSw; obtain ⟨s0, s1, s2, s3, s4, s5, s6⟩ := hSw; go_simp; try with_reducible rfl)
  try simp only [Act.put, List.setIfInBounds_toArray, List.set_cons_zero, List.set_cons_succ, List.getElem_toArray, List.getElem_cons_succ, List.getElem_cons_zero]
  refine wpAnyH_take (i := 3) (v := ?vv4) rfl (by kernel_rfl) (by kernel_rfl) (by kernel_rfl) (fun _ _ _ h => h) (Or.inl ⟨by rfl, ?hy4⟩) hHeld ?rr4
  case hy4 => (intro w' hSw; obtain ⟨s0, s1, s2, s3, s4, s5, s6⟩ := hSw; go_simp; try with_reducible rfl)
  try simp only [Act.put, List.setIfInBounds_toArray, List.set_cons_zero, List.set_cons_succ, List.getElem_toArray, List.getElem_cons_succ, List.getElem_cons_zero]
  refine wpAnyH_take (i := 4) (v := ?vv5) rfl (by kernel_rfl) (by kernel_rfl) (by kernel_rfl) (fun _ _ _ h => h) (Or.inl ⟨by rfl, ?hy5⟩) hHeld ?rr5
  case hy5 => (intro w' hSw; obtain ⟨s0, s1, s2, s3, s4, s5, s6⟩ := hSw; go_simp; try with_reducible rfl)
  try simp only [Act.put, List.setIfInBounds_toArray, List.set_cons_zero, List.set_cons_succ, List.getElem_toArray, List.getElem_cons_succ, List.getElem_cons_zero]
  refine wpAnyH_take (i := 5) (v := ?vv6) rfl (by kernel_rfl) (by kernel_rfl) (by kernel_rfl) (fun _ _ _ h => h) (Or.inl ⟨by rfl, ?hy6⟩) hHeld ?rr6
  case hy6 => (intro w' hSw; obtain ⟨s0, s1, s2, s3, s4, s5, s6⟩ := hSw; go_simp; try with_reducible rfl)
  try simp only [Act.put, List.setIfInBounds_toArray, List.set_cons_zero, List.set_cons_succ, List.getElem_toArray, List.getElem_cons_succ, List.getElem_cons_zero]
  refine wpAnyH_take (i := 6) (v := ?vv7) rfl (by kernel_rfl) (by kernel_rfl) (by kernel_rfl) (fun _ _ _ h => h) (Or.inl ⟨by rfl, ?hy7⟩) hHeld ?rr7
  case hy7 => (intro w' hSw; obtain ⟨s0, s1, s2, s3, s4, s5, s6⟩ := hSw; go_simp; try with_reducible rfl)
  try simp only [Act.put, List.setIfInBounds_toArray, List.set_cons_zero, List.set_cons_succ, List.getElem_toArray, List.getElem_cons_succ, List.getElem_cons_zero]
  refine wpAnyH_ready (rs := [7]) (by kernel_rfl) (by simp) ?_
  refine AllReadyH.cons rfl (fun K hK => ?_) AllReadyH.nil
  try rw [if_pos (by rfl)]
  go_simp
  go_at_call 10
  refine Calls.mono (HOn.out) ?_
  rintro e5 w5 ⟨Ab, cb, bs, rfl, hbs, hrow, hbu, hse, hmv, hku⟩
  have h5 := HD4.out.call hi hse hmv hku
  have HBs := Lib.hid (And.intro hbs (And.intro hrow hbu))
  have HK5 := Lib.hid (And.intro hmv hku)
  have kE5 := hmv.heap HE4.out (fun e2 => by have := (HX.out.tight i hi _ e2).2; omega)
  have HE5 := Lib.hid kE5
  have x0b := (h5.cell hi).1
  have z0 : w5.cell? ⟨w.heap.size, 0, none⟩ = some (.int .i64 e.kind) := cell_of_row _ _ 0 _ _ _ kE5
  have z1 : w5.cell? ⟨w.heap.size, 1, none⟩ = some (.int .i64 e.mine) := cell_of_row _ _ 1 _ _ _ kE5
  have z2 : w5.cell? ⟨w.heap.size, 2, none⟩ = some (.int .i64 e.yours) := cell_of_row _ _ 2 _ _ _ kE5
  have z3 : w5.cell? ⟨w.heap.size, 3, none⟩ = some (.int .i64 e.seq) := cell_of_row _ _ 3 _ _ _ kE5
  have z4 : w5.cell? ⟨w.heap.size, 4, none⟩ = some (.int .i64 e.ack) := cell_of_row _ _ 4 _ _ _ kE5
  have z5 : w5.cell? ⟨w.heap.size, 5, none⟩ = some (.slice A3 n c3) := cell_of_row _ _ 5 _ _ _ kE5
  have H5 := Lib.hid h5
  clear hbs hrow hbu hse hmv hku h5 kE5
  obtain ⟨nb, hnb⟩ : ∃ nb, nb = (onS (X i).ss e).1.1.length := ⟨_, rfl⟩
  obtain ⟨fr, hfr⟩ : ∃ fr, fr = (onS (X i).ss e).1.2.1 := ⟨_, rfl⟩
  have HNb := Lib.hid hnb
  have HFr : Hid (EqB (onS (X i).ss e).1.2.1 fr) := Lib.hid hfr.symm
  have hnb2 : nb ≤ 1000002 := by rw [hnb]; exact HNl.out
  rw [← hnb, ← hfr]
  clear hnb hfr
  go_wp2_with fail
  refine hK.out _ _ ⟨x0b, z0, z1, z2, z3, z4, z5⟩ (fun hHeld2 => ?_)
  clear hK K hHeld
  have hHeld := hHeld2
  clear hHeld2
  try simp only [Act.put, List.setIfInBounds_toArray, List.set_cons_zero, List.set_cons_succ, List.getElem_toArray, List.getElem_cons_succ, List.getElem_cons_zero]
  refine wpAnyH_take (i := 8) (v := ?vv8) rfl (by kernel_rfl) (by kernel_rfl) (by kernel_rfl) (fun _ _ _ h => h) (Or.inl ⟨by rfl, ?hy8⟩) hHeld ?rr8
  case hy8 => (intro w' hSw; obtain ⟨s0, s1, s2, s3, s4, s5, s6⟩ := hSw; go_simp; try with_reducible rfl)
  try simp only [Act.put, List.setIfInBounds_toArray, List.set_cons_zero, List.set_cons_succ, List.getElem_toArray, List.getElem_cons_succ, List.getElem_cons_zero]
  refine wpAnyH_take (i := 9) (v := ?vv9) rfl (by kernel_rfl) (by kernel_rfl) (by kernel_rfl) (fun _ _ _ h => h) (Or.inl ⟨by rfl, ?hy9⟩) hHeld ?rr9
  case hy9 => (intro w' hSw; obtain ⟨s0, s1, s2, s3, s4, s5, s6⟩ := hSw; go_simp; try with_reducible rfl)
  try simp only [Act.put, List.setIfInBounds_toArray, List.set_cons_zero, List.set_cons_succ, List.getElem_toArray, List.getElem_cons_succ, List.getElem_cons_zero]
  refine wpAnyH_take (i := 10) (v := ?vv10) rfl (by kernel_rfl) (by kernel_rfl) (by kernel_rfl) (fun _ _ _ h => h) (Or.inl ⟨by rfl, ?hy10⟩) hHeld ?rr10
  case hy10 => (intro w' hSw; obtain ⟨s0, s1, s2, s3, s4, s5, s6⟩ := hSw; go_simp; try with_reducible rfl)
  try simp only [Act.put, List.setIfInBounds_toArray, List.set_cons_zero, List.set_cons_succ, List.getElem_toArray, List.getElem_cons_succ, List.getElem_cons_zero]
  refine wpAnyH_take (i := 11) (v := ?vv11) rfl (by kernel_rfl) (by kernel_rfl) (by kernel_rfl) (fun _ _ _ h => h) (Or.inl ⟨by rfl, ?hy11⟩) hHeld ?rr11
  case hy11 => (intro w' hSw; obtain ⟨s0, s1, s2, s3, s4, s5, s6⟩ := hSw; go_simp; try with_reducible rfl)
  try simp only [Act.put, List.setIfInBounds_toArray, List.set_cons_zero, List.set_cons_succ, List.getElem_toArray, List.getElem_cons_succ, List.getElem_cons_zero]
  refine wpAnyH_take (i := 12) (v := ?vv12) rfl (by kernel_rfl) (by kernel_rfl) (by kernel_rfl) (fun _ _ _ h => h) (Or.inl ⟨by rfl, ?hy12⟩) hHeld ?rr12
  case hy12 => (intro w' hSw; obtain ⟨s0, s1, s2, s3, s4, s5, s6⟩ := hSw; go_simp; try with_reducible rfl)
  try simp only [Act.put, List.setIfInBounds_toArray, List.set_cons_zero, List.set_cons_succ, List.getElem_toArray, List.getElem_cons_succ, List.getElem_cons_zero]
  refine wpAnyH_take (i := 13) (v := ?vv13) rfl (by kernel_rfl) (by kernel_rfl) (by kernel_rfl) (fun _ _ _ h => h) (Or.inl ⟨by rfl, ?hy13⟩) hHeld ?rr13
  case hy13 => (intro w' hSw; obtain ⟨s0, s1, s2, s3, s4, s5, s6⟩ := hSw; go_simp; try with_reducible rfl)
  try simp only [Act.put, List.setIfInBounds_toArray, List.set_cons_zero, List.set_cons_succ, List.getElem_toArray, List.getElem_cons_succ, List.getElem_cons_zero]
  refine wpAnyH_take (i := 14) (v := ?vv14) rfl (by kernel_rfl) (by kernel_rfl) (by kernel_rfl) (fun _ _ _ h => h) (Or.inl ⟨by rfl, ?hy14⟩) hHeld ?rr14
  case hy14 => (intro w' hSw; obtain ⟨s0, s1, s2, s3, s4, s5, s6⟩ := hSw; go_simp; try with_reducible rfl)
  try simp only [Act.put, List.setIfInBounds_toArray, List.set_cons_zero, List.set_cons_succ, List.getElem_toArray, List.getElem_cons_succ, List.getElem_cons_zero]
  refine wpAnyH_done (by kernel_rfl) ?_ _
  clear hHeld
  clear x0b z0 z2 z3 z4 z5 x0 y0 y1 y2 y3 y4 y5
  cases fr with
  | true =>
    have hbF : Below B w4 w5 := ((Below.refl B w4).drew).trans (HK5.out.1.below (fun k _ hk => (HX.out.tight i hi k hk).1) (Nat.le_trans HX.out.lowle HB4.out.size))
    have hc5 := H5.out.cell hi
    have j8 := hc5.2.2.2.2.1
    have j6 := hc5.2.2.2.1
    have j10 := hc5.2.2.2.2.2
    have i8 := H5.out.free (8 + i)
    have i6 := H5.out.free (6 + i)
    have i10 := H5.out.free (10 + i)
    clear hc5
    have hne : pp ≠ w.heap.size := by have := HX.out.lt; omega
    have n86 : ¬ 8 + i = 6 + i := by omega
    have n810 : ¬ 8 + i = 10 + i := by omega
    have n610 : ¬ 6 + i = 10 + i := by omega
    go_wp2_with fail
    go_region
    obtain ⟨r1, r2, r3⟩ := H5.out.fresh hi e.mine
    obtain ⟨w6, hw6⟩ : ∃ w6, w6 = (((w5.setCell ⟨pp, 8 + i, none⟩ (.slice none 0 0)).setCell ⟨pp, 6 + i, none⟩ (.slice none 0 0)).setCell ⟨pp, 10 + i, none⟩ (.int .i64 e.mine)).drew := ⟨_, rfl⟩
    rw [← hw6] at r1 r2 r3 ⊢
    have hm6 : Moved (fun k => k = pp) w5 w6 := by rw [hw6]; exact ((((Moved.refl (fun k => k = pp) w5).setCell (.inr rfl) _).setCell (.inr rfl) _).setCell (.inr rfl) _).drew
    have H6 := Lib.hid r1
    have HR6 := Lib.hid (And.intro r2 r3)
    have HBr6 : Hid (w6.ownsRow 0 27 1 (.slice Ab (onS (X i).ss e).1.1.length cb) (onS (X i).ss e).1.1.length (bs.map SlV.val)) := Lib.hid (own_moved HBs.out.2.1 hm6 (fun k hk e2 => own_ne HBs.out.2.1 H5.out.self (by decide) (by rw [hk, e2])))
    have HBu6 : Hid (∀ x ∈ bs, ByU w6 x.A x.b) := Lib.hid (fun x hx => (HBs.out.2.2 x hx).kept r3)
    have HCl0 : Hid (((upd (upd X i { X i with ss := (onS (X i).ss e).2 }) i { (upd X i { X i with ss := (onS (X i).ss e).2 }) i with sent := [], came := [], fr := e.mine }) i).came.length ≤ 2147483648) := Lib.hid (by rw [upd_same]; exact Nat.zero_le _)
    clear hw6 r1 r2 r3 hm6 j8 j6 j10 i8 i6 i10 z1
    go_wp2_with fail
    obtain ⟨Ac, cc, vc, hcv, hcb, hcr, hcd⟩ := H6.out.c i hi
    have hclen := congrArg List.length hcb
    rw [List.length_map] at hclen
    obtain ⟨nc, hnc⟩ : ∃ nc, nc = vc.length := ⟨_, rfl⟩
    rw [← hclen, ← hnc] at hcr hcv
    have g8 := (H6.out.cell hi).2.2.2.2.1
    rw [hcv] at g8 hcr
    have HCd := Lib.hid (And.intro hcb (And.intro hcr (And.intro hcd hnc)))
    have HCv := Lib.hid hcv
    have hnc2 : nc ≤ 2147483648 := by rw [hnc, hclen]; exact HCl0.out
    clear hcv hcb hcr hcd hclen hnc
    refine wp_region_heldz_drew (S := (fun V => V.cell? ⟨pp, 8 + i, none⟩ = some (.slice Ac nc cc))) 15 (by kernel_rfl) g8 (fun hHeld => ?_)
    refine wpAnyZ_take (i := 0) (v := ?vv15) rfl (by kernel_rfl) (by kernel_rfl) (by kernel_rfl) (fun _ _ _ h => h) (Or.inl ⟨by rfl, ?hy15⟩) hHeld ?rr15
    case hy15 => (intro w' hSw; have s0 := hSw; go_simp; try with_reducible rfl)
    try simp only [Act.put, List.setIfInBounds_toArray, List.set_cons_zero, List.set_cons_succ, List.getElem_toArray, List.getElem_cons_succ, List.getElem_cons_zero]
    refine wpAnyZ_take (i := 1) (v := ?vv16) rfl (by kernel_rfl) (by kernel_rfl) (by kernel_rfl) (fun _ _ _ h => h) (Or.inl ⟨by rfl, ?hy16⟩) hHeld ?rr16
    case hy16 => (intro w' hSw; have s0 := hSw; go_simp; try with_reducible rfl)
    try simp only [Act.put, List.setIfInBounds_toArray, List.set_cons_zero, List.set_cons_succ, List.getElem_toArray, List.getElem_cons_succ, List.getElem_cons_zero]
    refine wpAnyZ_take (i := 3) (v := ?vv17) rfl (by kernel_rfl) (by kernel_rfl) (by kernel_rfl) (fun _ _ _ h => h) (Or.inl ⟨by rfl, ?hy17⟩) hHeld ?rr17
    case hy17 => (intro w' hSw; have s0 := hSw; go_simp; try with_reducible rfl)
    try simp only [Act.put, List.setIfInBounds_toArray, List.set_cons_zero, List.set_cons_succ, List.getElem_toArray, List.getElem_cons_succ, List.getElem_cons_zero]
    refine wpAnyZ_take (i := 4) (v := ?vv18) rfl (by kernel_rfl) (by kernel_rfl) (by kernel_rfl) (fun _ _ _ h => h) (Or.inl ⟨by rfl, ?hy18⟩) hHeld ?rr18
    case hy18 => (intro w' hSw; have s0 := hSw; go_simp; try with_reducible rfl)
    try simp only [Act.put, List.setIfInBounds_toArray, List.set_cons_zero, List.set_cons_succ, List.getElem_toArray, List.getElem_cons_succ, List.getElem_cons_zero]
    refine wpAnyZ_take (i := 5) (v := ?vv19) rfl (by kernel_rfl) (by kernel_rfl) (by kernel_rfl) (fun _ _ _ h => h) (Or.inl ⟨by rfl, ?hy19⟩) hHeld ?rr19
    case hy19 => (intro w' hSw; have s0 := hSw; go_simp; try with_reducible rfl)
    try simp only [Act.put, List.setIfInBounds_toArray, List.set_cons_zero, List.set_cons_succ, List.getElem_toArray, List.getElem_cons_succ, List.getElem_cons_zero]
    refine wpAnyZ_take (i := 6) (v := ?vv20) rfl (by kernel_rfl) (by kernel_rfl) (by kernel_rfl) (fun _ _ _ h => h) (Or.inl ⟨by rfl, ?hy20⟩) hHeld ?rr20
    case hy20 => (intro w' hSw; have s0 := hSw; go_simp; try with_reducible rfl)
    try simp only [Act.put, List.setIfInBounds_toArray, List.set_cons_zero, List.set_cons_succ, List.getElem_toArray, List.getElem_cons_succ, List.getElem_cons_zero]
    refine wpAnyZ_take (i := 7) (v := ?vv21) rfl (by kernel_rfl) (by kernel_rfl) (by kernel_rfl) (fun _ _ _ h => h) (Or.inl ⟨by rfl, ?hy21⟩) hHeld ?rr21
    case hy21 => (intro w' hSw; have s0 := hSw; go_simp; try with_reducible rfl)
    try simp only [Act.put, List.setIfInBounds_toArray, List.set_cons_zero, List.set_cons_succ, List.getElem_toArray, List.getElem_cons_succ, List.getElem_cons_zero]
    refine wpAnyZ_take (i := 8) (v := ?vv22) rfl (by kernel_rfl) (by kernel_rfl) (by kernel_rfl) (fun _ _ _ h => h) (Or.inl ⟨by rfl, ?hy22⟩) hHeld ?rr22
    case hy22 => (intro w' hSw; have s0 := hSw; go_simp; try with_reducible rfl)
    try simp only [Act.put, List.setIfInBounds_toArray, List.set_cons_zero, List.set_cons_succ, List.getElem_toArray, List.getElem_cons_succ, List.getElem_cons_zero]
    refine wpAnyZ_take (i := 10) (v := ?vv23) rfl (by kernel_rfl) (by kernel_rfl) (by kernel_rfl) (fun _ _ _ h => h) (Or.inl ⟨by rfl, ?hy23⟩) hHeld ?rr23
    case hy23 => (intro w' hSw; have s0 := hSw; go_simp; try with_reducible rfl)
    try simp only [Act.put, List.setIfInBounds_toArray, List.set_cons_zero, List.set_cons_succ, List.getElem_toArray, List.getElem_cons_succ, List.getElem_cons_zero]
    refine wpAnyZ_takeC [13, 14] (i := 12) (v := ?vv24) rfl (by kernel_rfl) (by kernel_rfl) (by kernel_rfl) (fun _ _ _ h => h) (Or.inl ⟨by rfl, ?hy24⟩) hHeld ?rr24
    case hy24 => (intro w' hSw; have s0 := hSw; go_simp; try with_reducible rfl)
    try simp only [Act.put, List.setIfInBounds_toArray, List.set_cons_zero, List.set_cons_succ, List.getElem_toArray, List.getElem_cons_succ, List.getElem_cons_zero]
    refine wpAnyZ_takeC [14] (i := 13) (v := ?vv25) rfl (by kernel_rfl) (by kernel_rfl) (by kernel_rfl) (fun _ _ _ h => h) (Or.inl ⟨by rfl, ?hy25⟩) hHeld ?rr25
    case hy25 => (intro w' hSw; have s0 := hSw; go_simp; try with_reducible rfl)
    try simp only [Act.put, List.setIfInBounds_toArray, List.set_cons_zero, List.set_cons_succ, List.getElem_toArray, List.getElem_cons_succ, List.getElem_cons_zero]
    refine wpAnyZ_ready (rs := [2]) (by kernel_rfl) (by simp) ?_
    refine AllReadyZ.cons rfl (fun K hK => ?_) AllReadyZ.nil
    try rw [if_pos (by rfl)]
    go_simp
    refine hK.out _ _ (cell_old _ g8) (fun hHeld2 => ?_)
    clear hK K hHeld
    have hHeld := hHeld2
    clear hHeld2
    try simp only [Act.put, List.setIfInBounds_toArray, List.set_cons_zero, List.set_cons_succ, List.getElem_toArray, List.getElem_cons_succ, List.getElem_cons_zero]
    have HWA : Hid (Below w6.heap.size w6 ((w6.alloc (.cells #[] 27)).drew)) := Lib.hid (below_alloc _ _).drew
    refine wpAnyZ_ready (rs := [9]) (by kernel_rfl) (by simp) ?_
    refine AllReadyZ.cons rfl (fun K hK => ?_) AllReadyZ.nil
    try rw [if_pos (by rfl)]
    refine oper_append_k _ (.tmp 49) (.tmp 55) 34 rfl 27 i0 (.slice none 0 0) 1 24 Try.underlying34 hinfo hz0 hzs hz2 rfl (by decide) w6.heap.size (.slice (some ⟨w6.heap.size, 0, none⟩) 0 0) 0 [] rfl (own_moved (p := fun _ => False) (World.ownsRow_made w6 #[] 0 (Nat.le_refl _) (by decide) rfl) (Moved.drew (Moved.refl (fun _ => False) _)) (fun _ _ h => h)) Ac nc cc (vc.map SlV.val) rfl (by rw [List.length_map, HCd.out.2.2.2, Nat.mul_one]) (own_news (own_moved (p := fun _ => False) HCd.out.2.1 (Below.movedNew HWA.out) (fun _ _ h => h)) (by decide)) (slv_one vc) (by unfold maxLen; omega) (by omega) HWA.out.size ?_
    intro A8 c8 w8 hown8 hgrow8 hwh8
    simp only [Nat.zero_add, List.nil_append] at hown8 hgrow8 hwh8 ⊢
    have HB8 : Hid (Below w6.heap.size w6 w8) := Lib.hid (HWA.out.grown hgrow8 HWA.out.size (fun k e2 => by simp [Value.ownBlock] at e2; omega))
    have HO8 := Lib.hid hown8
    have g8b := cell_later HB8.out g8
    clear hown8 hgrow8 hwh8
    refine hK.out _ _ g8b (fun hHeld2 => ?_)
    clear hK K hHeld
    have hHeld := hHeld2
    clear hHeld2
    try simp only [Act.put, List.setIfInBounds_toArray, List.set_cons_zero, List.set_cons_succ, List.getElem_toArray, List.getElem_cons_succ, List.getElem_cons_zero]
    refine wpAnyZ_ready (rs := [11]) (by kernel_rfl) (by simp) ?_
    refine AllReadyZ.cons rfl (fun K hK => ?_) AllReadyZ.nil
    try rw [if_pos (by rfl)]
    refine oper_append_k _ (.tmp 56) (.tmp 57) 34 rfl 27 i0 (.slice none 0 0) 1 24 Try.underlying34 hinfo hz0 hzs hz2 rfl (by decide) w6.heap.size _ nc (vc.map SlV.val) rfl HO8.out Ab nb cb (bs.map SlV.val) rfl (by rw [List.length_map, Nat.mul_one, HNb.out, ← HBs.out.1, List.length_map]) (own_news (own_moved (p := fun _ => False) (by rw [HNb.out]; exact HBr6.out) (Below.movedNew HB8.out) (fun _ _ h => h)) (by decide)) (slv_one bs) (by unfold maxLen; omega) (by omega) HB8.out.size ?_
    intro A9 c9 w9 hown9 hgrow9 hwh9
    have HB9 : Hid (Below w6.heap.size w6 w9) := Lib.hid (HB8.out.grown hgrow9 HB8.out.size (fun k e2 => (HO8.out.lt k e2).1))
    rw [← List.map_append] at hown9
    have HO9 := Lib.hid hown9
    have g8c := cell_later HB9.out g8
    have f8c : w9.frozen? ⟨pp, 8 + i, none⟩ = false := (H6.out.later HB9.out).free (8 + i)
    clear hown9 hgrow9 hwh9
    refine hK.out _ _ g8c (fun hHeld2 => ?_)
    clear hK K hHeld
    have hHeld := hHeld2
    clear hHeld2
    try simp only [Act.put, List.setIfInBounds_toArray, List.set_cons_zero, List.set_cons_succ, List.getElem_toArray, List.getElem_cons_succ, List.getElem_cons_zero]
    refine wpAnyZ_take (i := 14) (v := ?vv26) rfl (by kernel_rfl) (by kernel_rfl) (by kernel_rfl) (fun _ _ _ h => h) (Or.inl ⟨by rfl, ?hy26⟩) hHeld ?rr26
    case hy26 => (intro w' hSw; have s0 := hSw; go_simp; try with_reducible rfl)
    try simp only [Act.put, List.setIfInBounds_toArray, List.set_cons_zero, List.set_cons_succ, List.getElem_toArray, List.getElem_cons_succ, List.getElem_cons_zero]
    refine wpAnyZ_ready (rs := [15]) (by kernel_rfl) (by simp) ?_
    refine AllReadyZ.last rfl (fun K hK => ?_)
    try rw [if_pos (by rfl)]
    go_simp
    refine hK.out _ _ ?_
    clear hK K hHeld
    try simp only [Act.put, List.setIfInBounds_toArray, List.set_cons_zero, List.set_cons_succ, List.getElem_toArray, List.getElem_cons_succ, List.getElem_cons_zero]
    refine wpAnyZ_done (by kernel_rfl) ?_ _
    go_wp2
    go_ret
    have hbs2 := HBs.out.1
    obtain ⟨q1, q2, q3⟩ := H6.out.newC hi (vs := vc ++ bs) HB9.out (by rw [List.length_append, ← HCd.out.2.2.2, HNb.out, ← hbs2, List.length_map]) HO9.out (fun x hx => by
      rcases List.mem_append.1 hx with hx | hx
      · exact (HCd.out.2.2.1 x hx).kept (HB9.out.mono (Nat.le_trans H6.out.low (Nat.le_of_lt H6.out.lt))) (Below.ku HB9.out)
      · exact .inl ((HBu6.out x hx).later HB9.out))
    rw [List.map_append, HCd.out.1, hbs2] at q1
    refine ⟨rfl, ?_, (HB4.out.mono HX.out.lowle).trans ((hbF.trans HR6.out.1).trans q2), (Below.ku HB4.out).trans (((HK5.out.2).trans HR6.out.2).trans q3)⟩
    rw [upd_upd, upd_upd, upd_same, upd_same] at q1
    rw [inS_new HFr.out]
    exact q1.to
  | false =>
    have hbF : Below B w4 w5 := ((Below.refl B w4).drew).trans (HK5.out.1.below (fun k _ hk => (HX.out.tight i hi k hk).1) (Nat.le_trans HX.out.lowle HB4.out.size))
    have HCl : Hid (((upd X i { X i with ss := (onS (X i).ss e).2 }) i).came.length ≤ 2147483648) := Lib.hid (by rw [upd_same]; exact HCl1.out)
    go_wp2_with fail
    obtain ⟨Ac, cc, vc, hcv, hcb, hcr, hcd⟩ := H5.out.c i hi
    have hclen := congrArg List.length hcb
    rw [List.length_map] at hclen
    obtain ⟨nc, hnc⟩ : ∃ nc, nc = vc.length := ⟨_, rfl⟩
    rw [← hclen, ← hnc] at hcr hcv
    have g8 := (H5.out.cell hi).2.2.2.2.1
    rw [hcv] at g8 hcr
    have HCd := Lib.hid (And.intro hcb (And.intro hcr (And.intro hcd hnc)))
    have HCv := Lib.hid hcv
    have hnc2 : nc ≤ 2147483648 := by rw [hnc, hclen]; exact HCl.out
    clear hcv hcb hcr hcd hclen hnc
    refine wp_region_heldz_drew (S := (fun V => V.cell? ⟨pp, 8 + i, none⟩ = some (.slice Ac nc cc))) 15 (by kernel_rfl) g8 (fun hHeld => ?_)
    refine wpAnyZ_take (i := 0) (v := ?vv27) rfl (by kernel_rfl) (by kernel_rfl) (by kernel_rfl) (fun _ _ _ h => h) (Or.inl ⟨by rfl, ?hy27⟩) hHeld ?rr27
    case hy27 => (intro w' hSw; have s0 := hSw; go_simp; try with_reducible rfl)
    try simp only [Act.put, List.setIfInBounds_toArray, List.set_cons_zero, List.set_cons_succ, List.getElem_toArray, List.getElem_cons_succ, List.getElem_cons_zero]
    refine wpAnyZ_take (i := 1) (v := ?vv28) rfl (by kernel_rfl) (by kernel_rfl) (by kernel_rfl) (fun _ _ _ h => h) (Or.inl ⟨by rfl, ?hy28⟩) hHeld ?rr28
    case hy28 => (intro w' hSw; have s0 := hSw; go_simp; try with_reducible rfl)
    try simp only [Act.put, List.setIfInBounds_toArray, List.set_cons_zero, List.set_cons_succ, List.getElem_toArray, List.getElem_cons_succ, List.getElem_cons_zero]
    refine wpAnyZ_take (i := 3) (v := ?vv29) rfl (by kernel_rfl) (by kernel_rfl) (by kernel_rfl) (fun _ _ _ h => h) (Or.inl ⟨by rfl, ?hy29⟩) hHeld ?rr29
    case hy29 => (intro w' hSw; have s0 := hSw; go_simp; try with_reducible rfl)
    try simp only [Act.put, List.setIfInBounds_toArray, List.set_cons_zero, List.set_cons_succ, List.getElem_toArray, List.getElem_cons_succ, List.getElem_cons_zero]
    refine wpAnyZ_take (i := 4) (v := ?vv30) rfl (by kernel_rfl) (by kernel_rfl) (by kernel_rfl) (fun _ _ _ h => h) (Or.inl ⟨by rfl, ?hy30⟩) hHeld ?rr30
    case hy30 => (intro w' hSw; have s0 := hSw; go_simp; try with_reducible rfl)
    try simp only [Act.put, List.setIfInBounds_toArray, List.set_cons_zero, List.set_cons_succ, List.getElem_toArray, List.getElem_cons_succ, List.getElem_cons_zero]
    refine wpAnyZ_take (i := 5) (v := ?vv31) rfl (by kernel_rfl) (by kernel_rfl) (by kernel_rfl) (fun _ _ _ h => h) (Or.inl ⟨by rfl, ?hy31⟩) hHeld ?rr31
    case hy31 => (intro w' hSw; have s0 := hSw; go_simp; try with_reducible rfl)
    try simp only [Act.put, List.setIfInBounds_toArray, List.set_cons_zero, List.set_cons_succ, List.getElem_toArray, List.getElem_cons_succ, List.getElem_cons_zero]
    refine wpAnyZ_take (i := 6) (v := ?vv32) rfl (by kernel_rfl) (by kernel_rfl) (by kernel_rfl) (fun _ _ _ h => h) (Or.inl ⟨by rfl, ?hy32⟩) hHeld ?rr32
    case hy32 => (intro w' hSw; have s0 := hSw; go_simp; try with_reducible rfl)
    try simp only [Act.put, List.setIfInBounds_toArray, List.set_cons_zero, List.set_cons_succ, List.getElem_toArray, List.getElem_cons_succ, List.getElem_cons_zero]
    refine wpAnyZ_take (i := 7) (v := ?vv33) rfl (by kernel_rfl) (by kernel_rfl) (by kernel_rfl) (fun _ _ _ h => h) (Or.inl ⟨by rfl, ?hy33⟩) hHeld ?rr33
    case hy33 => (intro w' hSw; have s0 := hSw; go_simp; try with_reducible rfl)
    try simp only [Act.put, List.setIfInBounds_toArray, List.set_cons_zero, List.set_cons_succ, List.getElem_toArray, List.getElem_cons_succ, List.getElem_cons_zero]
    refine wpAnyZ_take (i := 8) (v := ?vv34) rfl (by kernel_rfl) (by kernel_rfl) (by kernel_rfl) (fun _ _ _ h => h) (Or.inl ⟨by rfl, ?hy34⟩) hHeld ?rr34
    case hy34 => (intro w' hSw; have s0 := hSw; go_simp; try with_reducible rfl)
    try simp only [Act.put, List.setIfInBounds_toArray, List.set_cons_zero, List.set_cons_succ, List.getElem_toArray, List.getElem_cons_succ, List.getElem_cons_zero]
    refine wpAnyZ_take (i := 10) (v := ?vv35) rfl (by kernel_rfl) (by kernel_rfl) (by kernel_rfl) (fun _ _ _ h => h) (Or.inl ⟨by rfl, ?hy35⟩) hHeld ?rr35
    case hy35 => (intro w' hSw; have s0 := hSw; go_simp; try with_reducible rfl)
    try simp only [Act.put, List.setIfInBounds_toArray, List.set_cons_zero, List.set_cons_succ, List.getElem_toArray, List.getElem_cons_succ, List.getElem_cons_zero]
    refine wpAnyZ_takeC [13, 14] (i := 12) (v := ?vv36) rfl (by kernel_rfl) (by kernel_rfl) (by kernel_rfl) (fun _ _ _ h => h) (Or.inl ⟨by rfl, ?hy36⟩) hHeld ?rr36
    case hy36 => (intro w' hSw; have s0 := hSw; go_simp; try with_reducible rfl)
    try simp only [Act.put, List.setIfInBounds_toArray, List.set_cons_zero, List.set_cons_succ, List.getElem_toArray, List.getElem_cons_succ, List.getElem_cons_zero]
    refine wpAnyZ_takeC [14] (i := 13) (v := ?vv37) rfl (by kernel_rfl) (by kernel_rfl) (by kernel_rfl) (fun _ _ _ h => h) (Or.inl ⟨by rfl, ?hy37⟩) hHeld ?rr37
    case hy37 => (intro w' hSw; have s0 := hSw; go_simp; try with_reducible rfl)
    try simp only [Act.put, List.setIfInBounds_toArray, List.set_cons_zero, List.set_cons_succ, List.getElem_toArray, List.getElem_cons_succ, List.getElem_cons_zero]
    refine wpAnyZ_ready (rs := [2]) (by kernel_rfl) (by simp) ?_
    refine AllReadyZ.cons rfl (fun K hK => ?_) AllReadyZ.nil
    try rw [if_pos (by rfl)]
    go_simp
    refine hK.out _ _ (cell_old _ g8) (fun hHeld2 => ?_)
    clear hK K hHeld
    have hHeld := hHeld2
    clear hHeld2
    try simp only [Act.put, List.setIfInBounds_toArray, List.set_cons_zero, List.set_cons_succ, List.getElem_toArray, List.getElem_cons_succ, List.getElem_cons_zero]
    have HWA : Hid (Below w5.heap.size w5 ((w5.alloc (.cells #[] 27)).drew)) := Lib.hid (below_alloc _ _).drew
    refine wpAnyZ_ready (rs := [9]) (by kernel_rfl) (by simp) ?_
    refine AllReadyZ.cons rfl (fun K hK => ?_) AllReadyZ.nil
    try rw [if_pos (by rfl)]
    refine oper_append_k _ (.tmp 49) (.tmp 55) 34 rfl 27 i0 (.slice none 0 0) 1 24 Try.underlying34 hinfo hz0 hzs hz2 rfl (by decide) w5.heap.size (.slice (some ⟨w5.heap.size, 0, none⟩) 0 0) 0 [] rfl (own_moved (p := fun _ => False) (World.ownsRow_made w5 #[] 0 (Nat.le_refl _) (by decide) rfl) (Moved.drew (Moved.refl (fun _ => False) _)) (fun _ _ h => h)) Ac nc cc (vc.map SlV.val) rfl (by rw [List.length_map, HCd.out.2.2.2, Nat.mul_one]) (own_news (own_moved (p := fun _ => False) HCd.out.2.1 (Below.movedNew HWA.out) (fun _ _ h => h)) (by decide)) (slv_one vc) (by unfold maxLen; omega) (by omega) HWA.out.size ?_
    intro A8 c8 w8 hown8 hgrow8 hwh8
    simp only [Nat.zero_add, List.nil_append] at hown8 hgrow8 hwh8 ⊢
    have HB8 : Hid (Below w5.heap.size w5 w8) := Lib.hid (HWA.out.grown hgrow8 HWA.out.size (fun k e2 => by simp [Value.ownBlock] at e2; omega))
    have HO8 := Lib.hid hown8
    have g8b := cell_later HB8.out g8
    clear hown8 hgrow8 hwh8
    refine hK.out _ _ g8b (fun hHeld2 => ?_)
    clear hK K hHeld
    have hHeld := hHeld2
    clear hHeld2
    try simp only [Act.put, List.setIfInBounds_toArray, List.set_cons_zero, List.set_cons_succ, List.getElem_toArray, List.getElem_cons_succ, List.getElem_cons_zero]
    refine wpAnyZ_ready (rs := [11]) (by kernel_rfl) (by simp) ?_
    refine AllReadyZ.cons rfl (fun K hK => ?_) AllReadyZ.nil
    try rw [if_pos (by rfl)]
    refine oper_append_k _ (.tmp 56) (.tmp 57) 34 rfl 27 i0 (.slice none 0 0) 1 24 Try.underlying34 hinfo hz0 hzs hz2 rfl (by decide) w5.heap.size _ nc (vc.map SlV.val) rfl HO8.out Ab nb cb (bs.map SlV.val) rfl (by rw [List.length_map, Nat.mul_one, HNb.out, ← HBs.out.1, List.length_map]) (own_news (own_moved (p := fun _ => False) (by rw [HNb.out]; exact HBs.out.2.1) (Below.movedNew HB8.out) (fun _ _ h => h)) (by decide)) (slv_one bs) (by unfold maxLen; omega) (by omega) HB8.out.size ?_
    intro A9 c9 w9 hown9 hgrow9 hwh9
    have HB9 : Hid (Below w5.heap.size w5 w9) := Lib.hid (HB8.out.grown hgrow9 HB8.out.size (fun k e2 => (HO8.out.lt k e2).1))
    rw [← List.map_append] at hown9
    have HO9 := Lib.hid hown9
    have g8c := cell_later HB9.out g8
    have f8c : w9.frozen? ⟨pp, 8 + i, none⟩ = false := (H5.out.later HB9.out).free (8 + i)
    clear hown9 hgrow9 hwh9
    refine hK.out _ _ g8c (fun hHeld2 => ?_)
    clear hK K hHeld
    have hHeld := hHeld2
    clear hHeld2
    try simp only [Act.put, List.setIfInBounds_toArray, List.set_cons_zero, List.set_cons_succ, List.getElem_toArray, List.getElem_cons_succ, List.getElem_cons_zero]
    refine wpAnyZ_take (i := 14) (v := ?vv38) rfl (by kernel_rfl) (by kernel_rfl) (by kernel_rfl) (fun _ _ _ h => h) (Or.inl ⟨by rfl, ?hy38⟩) hHeld ?rr38
    case hy38 => (intro w' hSw; have s0 := hSw; go_simp; try with_reducible rfl)
    try simp only [Act.put, List.setIfInBounds_toArray, List.set_cons_zero, List.set_cons_succ, List.getElem_toArray, List.getElem_cons_succ, List.getElem_cons_zero]
    refine wpAnyZ_ready (rs := [15]) (by kernel_rfl) (by simp) ?_
    refine AllReadyZ.last rfl (fun K hK => ?_)
    try rw [if_pos (by rfl)]
    go_simp
    refine hK.out _ _ ?_
    clear hK K hHeld
    try simp only [Act.put, List.setIfInBounds_toArray, List.set_cons_zero, List.set_cons_succ, List.getElem_toArray, List.getElem_cons_succ, List.getElem_cons_zero]
    refine wpAnyZ_done (by kernel_rfl) ?_ _
    go_wp2
    go_ret
    have hbs2 := HBs.out.1
    obtain ⟨q1, q2, q3⟩ := H5.out.newC hi (vs := vc ++ bs) HB9.out (by rw [List.length_append, ← HCd.out.2.2.2, HNb.out, ← hbs2, List.length_map]) HO9.out (fun x hx => by
      rcases List.mem_append.1 hx with hx | hx
      · exact (HCd.out.2.2.1 x hx).kept (HB9.out.mono (Nat.le_trans H5.out.low (Nat.le_of_lt H5.out.lt))) (Below.ku HB9.out)
      · exact .inl ((HBs.out.2.2 x hx).later HB9.out))
    rw [List.map_append, HCd.out.1, hbs2] at q1
    refine ⟨rfl, ?_, (HB4.out.mono HX.out.lowle).trans (hbF.trans q2), (Below.ku HB4.out).trans ((HK5.out.2).trans q3)⟩
    rw [upd_upd, upd_same] at q1
    rw [inS_old HFr.out]
    exact q1.to
end
end Go.Proofs.Ytihkjdoajfjnpaa
