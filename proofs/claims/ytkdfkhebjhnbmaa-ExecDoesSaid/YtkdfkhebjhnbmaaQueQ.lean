/- Package queue: a queue of the call's own, by the set of its timers. -/
import Derived.Test.YtkdfkhebjhnbmaaQueP
set_option linter.unusedSimpArgs false
set_option linter.unusedVariables false
namespace Go.Proofs.Ytkdfkhebjhnbmaa
open Go.ChangeShapes Go.WideShapes Go.ChangeAt Go.RowKit Go.Base Go.Que

/-- Block q is a queue of the n timers S; all its blocks are from block B on. -/
def QL (B : Nat) (w : World) (q : Nat) (S : Tm → Prop) (n : Nat) (turns : Int) : Prop :=
  (∃ f, Que w (fun k => B ≤ k) q f n turns ∧ Heap n f ∧ ∀ t, (∃ k, k < n ∧ f k = t) ↔ S t) ∧ B ≤ w.heap.size
def OpL (B : Nat) (q : Nat) (S : Tm → Prop) (n : Nat) (turns : Int) (v : Value) (w : World) (e : Ending) (w' : World) : Prop := e = .returned v ∧ QL B w' q S n turns ∧ Below B w w'
section
variable {B q n m : Nat} {w w' : World} {S : Tm → Prop} {turns : Int}
theorem QL.later (h : QL B w q S n turns) (hb : Below w.heap.size w w') : QL B w' q S n turns := by
  obtain ⟨⟨f, hq, r⟩, hB⟩ := h
  exact ⟨⟨f, hq.later hb, r⟩, Nat.le_trans hB hb.size⟩
theorem QL.fit (h : QL B w q S n turns) {t : Tm} (ht : S t) : tfit t := by
  obtain ⟨⟨f, hq, hh, hs⟩, hB⟩ := h
  obtain ⟨k, hk, rfl⟩ := (hs t).2 ht
  exact hq.fits hk
theorem QL.once (h : QL B w q S n turns) {t u : Tm} (ht : S t) (hu : S u) (e : t.id = u.id) : t = u := by
  obtain ⟨⟨f, hq, hh, hs⟩, hB⟩ := h
  obtain ⟨k, hk, rfl⟩ := (hs t).2 ht
  obtain ⟨j, hj, rfl⟩ := (hs u).2 hu
  rw [hq.once k j hk hj e]
theorem QL.few (h : QL B w q S n turns) : n ≤ 65536 := by
  obtain ⟨⟨f, hq, _⟩, _⟩ := h
  exact hq.few
theorem QL.pos (h : QL B w q S n turns) {t : Tm} (ht : S t) : 0 < n := by
  obtain ⟨⟨f, hq, hh, hs⟩, hB⟩ := h
  obtain ⟨k, hk, _⟩ := (hs t).2 ht
  omega
/-- The next one. -/
theorem QL.first (h : QL B w q S n turns) (hn : 0 < n) : ∃ t, S t ∧ ∀ u, S u → ¬ lt u t := by
  obtain ⟨⟨f, hq, hh, hs⟩, hB⟩ := h
  refine ⟨f 0, (hs _).1 ⟨0, hn, rfl⟩, fun u hu => ?_⟩
  obtain ⟨k, hk, rfl⟩ := (hs u).2 hu
  exact heap_first hh k hk
theorem QL.same (h : QL B w q S n turns) {S' : Tm → Prop} (e : ∀ t, S t ↔ S' t) : QL B w q S' n turns := by
  obtain ⟨⟨f, hq, hh, hs⟩, hB⟩ := h
  exact ⟨⟨f, hq, hh, fun t => (hs t).trans (e t)⟩, hB⟩
theorem lt_total {a b : Tm} (h1 : ¬ lt a b) (h2 : ¬ lt b a) : a.at_ = b.at_ ∧ a.turn = b.turn := by unfold lt at *; omega
theorem newL (w : World) (B : Nat) (hB : B ≤ w.heap.size) : Calls Try.prog 22 #[] w fun e w' => ∃ q, e = .returned (.pointer (some ⟨q, 0, none⟩)) ∧ QL B w' q (fun _ => False) 0 0 ∧ Below w.heap.size w w' :=
  (qnew_any w).mono fun e w' ⟨q, he, hq, hb⟩ => ⟨q, he, ⟨⟨noTm, hq.wide (fun k hk => Nat.le_trans hB hk), fun k k0 kn => by omega, fun t => ⟨fun ⟨k, hk, _⟩ => by omega, fun h => h.elim⟩⟩, Nat.le_trans hB hb.size⟩, hb⟩
theorem lenL (h : QL B w q S n turns) : Calls Try.prog 57 #[.pointer (some ⟨q, 0, none⟩)] w fun e w' => e = .returned (.int .i64 (n : Int)) ∧ w = w' := by
  obtain ⟨⟨f, hq, _⟩, _⟩ := h
  exact qlen_any hq
theorem qset_ql {f : Nat → Tm} {n' : Nat} {t0 : Tm} {e : Ending} (hB : B ≤ w.heap.size) (hs : ∀ t, (∃ k, k < n ∧ f k = t) ↔ S t) (hp : QSet (fun k => B ≤ k) q f n n' turns t0 w e w') : OpL B q (fun t => t = t0 ∨ (S t ∧ t.id ≠ t0.id)) n' (turns + 1) (.int .i64 0) w e w' := by
  obtain ⟨he, g, hq, hh, hm, hS⟩ := hp
  refine ⟨he, ⟨⟨g, hq.wide (fun k hk => hk.elim id (fun h => Nat.le_trans hB h)), hh, fun t => ?_⟩, Nat.le_trans hB hm.size⟩, hm.below (fun k _ h => h) hB⟩
  rw [hS t, hs t]
theorem setL_miss (h : QL B w q S n turns) {id at_ : Int} (ht : tfit ⟨at_, id, turns + 1⟩) (hn : ∀ t, S t → t.id ≠ id) (hfew : n < 65536) (ht0 : 0 ≤ turns) :
    Calls Try.prog 24 #[.pointer (some ⟨q, 0, none⟩), .int .i64 id, .int .i64 at_] w (OpL B q (fun t => t = ⟨at_, id, turns + 1⟩ ∨ (S t ∧ t.id ≠ id)) (n + 1) (turns + 1) (.int .i64 0) w) := by
  obtain ⟨⟨f, hq, hh, hs⟩, hB⟩ := h
  exact (set_miss hq hh ht (fun k hk => hn _ ((hs _).1 ⟨k, hk, rfl⟩)) hfew ht0).mono fun e w' hp => qset_ql hB hs hp
theorem setL_hit (h : QL B w q S n turns) {t0 : Tm} {at_ : Int} (hS : S t0) (ht : tfit ⟨at_, t0.id, turns + 1⟩) (ht0 : 0 ≤ turns) :
    Calls Try.prog 24 #[.pointer (some ⟨q, 0, none⟩), .int .i64 t0.id, .int .i64 at_] w (OpL B q (fun t => t = ⟨at_, t0.id, turns + 1⟩ ∨ (S t ∧ t.id ≠ t0.id)) n (turns + 1) (.int .i64 0) w) := by
  have hn := h.pos hS
  obtain ⟨⟨f, hq, hh, hs⟩, hB⟩ := h
  obtain ⟨m, rfl⟩ : ∃ m, n = m + 1 := ⟨n - 1, by omega⟩
  obtain ⟨k, hk, rfl⟩ := (hs t0).2 hS
  exact (set_hit hq hh hk ht ht0).mono fun e w' hp => qset_ql hB hs hp
theorem setL_full (h : QL B w q S n turns) {id at_ : Int} (h1 : -9223372036854775808 ≤ id) (h2 : id ≤ 9223372036854775807) (hn : ∀ t, S t → t.id ≠ id) (hf : 65536 ≤ n) :
    Calls Try.prog 24 #[.pointer (some ⟨q, 0, none⟩), .int .i64 id, .int .i64 at_] w fun e w' => e = .returned (.int .i64 2) ∧ w = w' := by
  obtain ⟨⟨f, hq, hh, hs⟩, hB⟩ := h
  exact set_full hq h1 h2 (fun k hk => hn _ ((hs _).1 ⟨k, hk, rfl⟩)) hf
theorem gone_ql {f g : Nat → Tm} {k : Nat} (hs : ∀ t, (∃ k, k < m + 1 ∧ f k = t) ↔ S t) (ho : Once (m + 1) f) (hk : k < m + 1) (h : Shuf (m + 1) f (snoc m g (f k))) (t : Tm) : (∃ j, j < m ∧ g j = t) ↔ (S t ∧ t.id ≠ (f k).id) := by
  rw [gone_mem h ho hk t, hs t]
theorem dropL_hit (h : QL B w q S (m + 1) turns) {t0 : Tm} (hS : S t0) : Calls Try.prog 25 #[.pointer (some ⟨q, 0, none⟩), .int .i64 t0.id] w (OpL B q (fun t => S t ∧ t.id ≠ t0.id) m turns (.bool true) w) := by
  obtain ⟨⟨f, hq, hh, hs⟩, hB⟩ := h
  obtain ⟨k, hk, rfl⟩ := (hs t0).2 hS
  refine (drop_hit hq hh hk).mono fun e w' ⟨he, g, hg, hm, hgh, hsh⟩ => ⟨he, ⟨⟨g, hg, hgh, fun t => gone_ql hs hq.once hk hsh t⟩, Nat.le_trans hB hm.size⟩, hm.below (fun k _ h => h) hB⟩
theorem dropL_miss (h : QL B w q S n turns) {id : Int} (h1 : -9223372036854775808 ≤ id) (h2 : id ≤ 9223372036854775807) (hn : ∀ t, S t → t.id ≠ id) : Calls Try.prog 25 #[.pointer (some ⟨q, 0, none⟩), .int .i64 id] w fun e w' => e = .returned (.bool false) ∧ w = w' := by
  obtain ⟨⟨f, hq, hh, hs⟩, hB⟩ := h
  exact drop_miss hq h1 h2 (fun k hk => hn _ ((hs _).1 ⟨k, hk, rfl⟩))
/-- Pop: the next one is due. -/
theorem first_is {f : Nat → Tm} {t : Tm} (hh : Heap n f) (hs : ∀ t, (∃ k, k < n ∧ f k = t) ↔ S t) (ho : Once n f) (ht : S t) (hmin : ∀ u, S u → u.id ≠ t.id → lt t u) : 0 < n ∧ f 0 = t := by
  obtain ⟨k, hk, rfl⟩ := (hs t).2 ht
  refine ⟨by omega, ?_⟩
  by_cases e : (f 0).id = (f k).id
  · rw [ho 0 k (by omega) hk e]
  · exact absurd (hmin (f 0) ((hs _).1 ⟨0, by omega, rfl⟩) e) (heap_first hh k hk)
theorem popL_due (h : QL B w q S (m + 1) turns) {t : Tm} {now : Int} (ht : S t) (hmin : ∀ u, S u → u.id ≠ t.id → lt t u) (hnow : t.at_ ≤ now) :
    Calls Try.prog 27 #[.pointer (some ⟨q, 0, none⟩), .int .i64 now] w (OpL B q (fun u => S u ∧ u.id ≠ t.id) m turns (.tuple #[.agg #[.int .i64 t.at_, .int .i64 t.id], .bool true]) w) := by
  obtain ⟨⟨f, hq, hh, hs⟩, hB⟩ := h
  obtain ⟨h0, hf⟩ := first_is hh hs hq.once ht hmin
  refine (qpop_any hq hh now).mono fun e w' ⟨he, h1, _, hm⟩ => ?_
  have hd : 0 < m + 1 ∧ (f 0).at_ ≤ now := ⟨h0, by rw [hf]; exact hnow⟩
  obtain ⟨m', g, e2, hg, hgh, hsh⟩ := h1 hd
  obtain rfl : m = m' := by omega
  refine ⟨by rw [he]; unfold dueV; rw [if_pos hd, hf], ⟨⟨g, hg, hgh, fun u => ?_⟩, Nat.le_trans hB hm.size⟩, hm.below (fun k _ h => h) hB⟩
  rw [gone_ql hs hq.once h0 hsh u, hf]
theorem popL_not (h : QL B w q S n turns) {now : Int} (hnot : ∀ u, S u → now < u.at_) :
    Calls Try.prog 27 #[.pointer (some ⟨q, 0, none⟩), .int .i64 now] w (OpL B q S n turns (.tuple #[.agg #[.int .i64 0, .int .i64 0], .bool false]) w) := by
  obtain ⟨⟨f, hq, hh, hs⟩, hB⟩ := h
  refine (qpop_any hq hh now).mono fun e w' ⟨he, _, h2, hm⟩ => ?_
  have hd : ¬ (0 < n ∧ (f 0).at_ ≤ now) := fun ⟨a, b⟩ => by have := hnot (f 0) ((hs _).1 ⟨0, a, rfl⟩); omega
  exact ⟨by rw [he]; unfold dueV; rw [if_neg hd], ⟨⟨f, h2 hd, hh, hs⟩, Nat.le_trans hB hm.size⟩, hm.below (fun k _ h => h) hB⟩
theorem nextL (h : QL B w q S n turns) {t : Tm} (ht : S t) (hmin : ∀ u, S u → u.id ≠ t.id → lt t u) :
    Calls Try.prog 28 #[.pointer (some ⟨q, 0, none⟩)] w fun e w' => e = .returned (.tuple #[.agg #[.int .i64 t.at_, .int .i64 t.id], .bool true]) ∧ Below w.heap.size w w' := by
  have hf2 := h.fit ht
  obtain ⟨⟨f, hq, hh, hs⟩, hB⟩ := h
  obtain ⟨h0, hf⟩ := first_is hh hs hq.once ht hmin
  refine (qnext_any hq).mono fun e w' ⟨he, hb⟩ => ⟨?_, hb⟩
  rw [he]; unfold dueV; rw [if_pos ⟨h0, by rw [hf]; exact hf2.1.2⟩, hf]
theorem nextL_none (h : QL B w q S 0 turns) : Calls Try.prog 28 #[.pointer (some ⟨q, 0, none⟩)] w fun e w' => e = .returned (.tuple #[.agg #[.int .i64 0, .int .i64 0], .bool false]) ∧ Below w.heap.size w w' := by
  obtain ⟨⟨f, hq, hh, hs⟩, hB⟩ := h
  refine (qnext_any hq).mono fun e w' ⟨he, hb⟩ => ⟨?_, hb⟩
  rw [he]; unfold dueV; rw [if_neg (by omega)]
end
end Go.Proofs.Ytkdfkhebjhnbmaa
