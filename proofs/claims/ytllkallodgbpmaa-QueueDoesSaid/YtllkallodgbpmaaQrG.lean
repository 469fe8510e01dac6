/- A queue's calls, by its own blocks alone, answer as the reference's row does. -/
import Derived.Test.YtllkallodgbpmaaQrP
import Derived.Test.YtllkallodgbpmaaQueX
set_option linter.unusedSimpArgs false
set_option linter.unusedVariables false
namespace Go.Proofs.Ytllkallodgbpmaa
open Go.ChangeShapes Go.WideShapes Go.ChangeAt Go.RowKit Go.Base Go.Que

/-- Block q is a queue of the n timers S; F holds of its blocks. -/
def QT (F : Nat → Prop) (w : World) (q : Nat) (S : Tm → Prop) (n : Nat) (turns : Int) : Prop := ∃ f, Que w F q f n turns ∧ Heap n f ∧ ∀ t, (∃ k, k < n ∧ f k = t) ↔ S t
def OpT (F : Nat → Prop) (q : Nat) (S : Tm → Prop) (n : Nat) (turns : Int) (v : Value) (w : World) (e : Ending) (w' : World) : Prop := e = .returned v ∧ QT (fun k => F k ∨ w.heap.size ≤ k) w' q S n turns ∧ Moved F w w'
section
variable {F G : Nat → Prop} {q n m : Nat} {w w' : World} {S : Tm → Prop} {turns : Int} {L : List Tm} {l : List (Int × Int)}
theorem QT.wide (h : QT F w q S n turns) (hG : ∀ k, F k → G k) : QT G w q S n turns := by
  obtain ⟨f, hq, r⟩ := h
  exact ⟨f, hq.wide hG, r⟩
theorem QT.kept {p : Nat → Prop} (h : QT F w q S n turns) (hm : Moved p w w') (hn : ∀ k, F k → ¬ p k) : QT F w' q S n turns := by
  obtain ⟨f, hq, r⟩ := h
  exact ⟨f, hq.kept hm hn, r⟩
theorem QT.later (h : QT F w q S n turns) (hb : Below w.heap.size w w') : QT F w' q S n turns := by
  obtain ⟨f, hq, r⟩ := h
  exact ⟨f, hq.later hb, r⟩
theorem QT.ql (h : QT F w q S n turns) : QL 0 w q S n turns := by
  obtain ⟨f, hq, r⟩ := h
  exact ⟨⟨f, hq.wide (fun k _ => Nat.zero_le k), r⟩, Nat.zero_le _⟩
theorem qset_qt {f : Nat → Tm} {n' : Nat} {t0 : Tm} {e : Ending} (hs : ∀ t, (∃ k, k < n ∧ f k = t) ↔ S t) (hp : QSet F q f n n' turns t0 w e w') : OpT F q (fun t => t = t0 ∨ (S t ∧ t.id ≠ t0.id)) n' (turns + 1) (.int .i64 0) w e w' := by
  obtain ⟨he, g, hq, hh, hm, hS⟩ := hp
  refine ⟨he, ⟨g, hq, hh, fun t => ?_⟩, hm⟩
  rw [hS t, hs t]
def fits (x : Int) : Prop := -9223372036854775808 ≤ x ∧ x ≤ 9223372036854775807
theorem when_sim (h : QT F w q S n turns) (hL : Sim L S n l turns) {id : Int} (hi : fits id) : Calls Try.prog 15 #[.pointer (some ⟨q, 0, none⟩), .int .i64 id] w fun e w' => e = .returned (.tuple #[.int .i64 (whenX l id), .bool (whenB l id)]) ∧ w = w' := by
  rcases hL.cases id with ⟨t, ht, rfl⟩ | hn
  · have e := hL.when_hit ht
    unfold whenX whenB
    rw [e]
    exact whenL_hit h.ql ht
  · have e := hL.when_miss hn
    unfold whenX whenB
    rw [e]
    exact whenL_miss h.ql hi.1 hi.2 hn
theorem next_sim (h : QT F w q S n turns) (hL : Sim L S n l turns) : Calls Try.prog 19 #[.pointer (some ⟨q, 0, none⟩)] w fun e w' => e = .returned (headV l) ∧ Below w.heap.size w w' := by
  cases L with
  | nil =>
    obtain rfl : n = 0 := hL.len
    obtain rfl : l = [] := hL.row
    exact nextL_none h.ql
  | cons t r =>
    obtain ⟨h1, h2, h3, _⟩ := hL.first
    subst h3
    exact nextL h.ql h1 h2
theorem len_sim (h : QT F w q S n turns) (hL : Sim L S n l turns) : Calls Try.prog 20 #[.pointer (some ⟨q, 0, none⟩)] w fun e w' => e = .returned (.int .i64 (l.length : Int)) ∧ w = w' := by
  rw [← hL.lenl]; exact lenL h.ql
theorem drop_sim (h : QT F w q S n turns) (hL : Sim L S n l turns) {id : Int} (hi : fits id) : ∃ L' S' n', Sim L' S' n' (dropP l id) turns ∧ Calls Try.prog 11 #[.pointer (some ⟨q, 0, none⟩), .int .i64 id] w (OpT F q S' n' turns (.bool (whenB l id)) w) := by
  rcases hL.cases id with ⟨t, ht, rfl⟩ | hn
  · obtain ⟨m, L', rfl, hL'⟩ := hL.drop_hit ht
    refine ⟨L', _, m, hL', ?_⟩
    unfold whenB
    rw [hL.when_hit ht]
    obtain ⟨f, hq, hh, hs⟩ := h
    obtain ⟨k, hk, rfl⟩ := (hs t).2 ht
    exact (drop_hit hq hh hk).mono fun e w' ⟨he, g, hg, hm, hgh, hsh⟩ => ⟨he, ⟨g, hg.wide (fun _ h => .inl h), hgh, fun t => gone_ql hs hq.once hk hsh t⟩, hm⟩
  · refine ⟨L, S, n, by rw [hL.drop_miss hn]; exact hL, ?_⟩
    unfold whenB
    rw [hL.when_miss hn]
    exact (dropL_miss h.ql hi.1 hi.2 hn).mono fun e w' ⟨he, hw⟩ => ⟨he, by subst hw; exact h.wide (fun _ h => .inl h), by subst hw; exact Moved.refl _ _⟩
theorem pop_sim (h : QT F w q S n turns) (hL : Sim L S n l turns) (now : Int) : ∃ L' S' n', Sim L' S' n' (popT l now) turns ∧ Calls Try.prog 13 #[.pointer (some ⟨q, 0, none⟩), .int .i64 now] w (OpT F q S' n' turns (popV l now) w) := by
  obtain ⟨f, hq, hh, hs⟩ := h
  cases L with
  | nil =>
    obtain rfl : n = 0 := hL.len
    obtain rfl : l = [] := hL.row
    refine ⟨[], S, 0, hL, (qpop_any hq hh now).mono fun e w' ⟨he, _, h2, hm⟩ => ?_⟩
    have hd : ¬ (0 < 0 ∧ (f 0).at_ ≤ now) := fun ⟨a, b⟩ => by omega
    exact ⟨by rw [he]; unfold dueV; rw [if_neg hd]; rfl, ⟨f, (h2 hd).wide (fun _ h => .inl h), hh, hs⟩, hm⟩
  | cons t r =>
    obtain ⟨h1, h2, h3, h4⟩ := hL.first
    obtain ⟨h0, hf⟩ := first_is hh hs hq.once h1 h2
    obtain ⟨m, rfl⟩ : ∃ m, n = m + 1 := ⟨n - 1, by omega⟩
    subst h3
    by_cases hd : t.at_ ≤ now
    · have e1 : popT (pairT t :: r.map pairT) now = r.map pairT := if_pos (show (pairT t).1 ≤ now from hd)
      have e3 : popV (pairT t :: r.map pairT) now = .tuple #[.agg #[.int .i64 t.at_, .int .i64 t.id], .bool true] := if_pos (show (pairT t).1 ≤ now from hd)
      rw [e1, e3]
      refine ⟨r, _, m, h4, (qpop_any hq hh now).mono fun e w' ⟨he, h5, _, hm⟩ => ?_⟩
      have hd2 : 0 < m + 1 ∧ (f 0).at_ ≤ now := ⟨h0, by rw [hf]; exact hd⟩
      obtain ⟨m', g, e2, hg, hgh, hsh⟩ := h5 hd2
      obtain rfl : m = m' := by omega
      refine ⟨by rw [he]; unfold dueV; rw [if_pos hd2, hf], ⟨g, hg.wide (fun _ h => .inl h), hgh, fun u => ?_⟩, hm⟩
      rw [gone_ql hs hq.once h0 hsh u, hf]
    · have e1 : popT (pairT t :: r.map pairT) now = pairT t :: r.map pairT := if_neg (show ¬ (pairT t).1 ≤ now from hd)
      have e3 : popV (pairT t :: r.map pairT) now = .tuple #[.agg #[.int .i64 0, .int .i64 0], .bool false] := if_neg (show ¬ (pairT t).1 ≤ now from hd)
      rw [e1, e3]
      refine ⟨t :: r, S, m + 1, hL, (qpop_any hq hh now).mono fun e w' ⟨he, _, h5, hm⟩ => ?_⟩
      have hd2 : ¬ (0 < m + 1 ∧ (f 0).at_ ≤ now) := fun ⟨_, b⟩ => hd (by rw [← hf]; exact b)
      exact ⟨by rw [he]; unfold dueV; rw [if_neg hd2], ⟨f, (h5 hd2).wide (fun _ h => .inl h), hh, hs⟩, hm⟩
theorem set_sim (h : QT F w q S n turns) (hL : Sim L S n l turns) {id at_ : Int} (hi : fits id) (ha : fits at_) (h0 : 0 ≤ turns) (h1 : turns + 1 ≤ 9223372036854775807) :
    ∃ L' S' n' turns', Sim L' S' n' (setT l id at_) turns' ∧ turns ≤ turns' ∧ turns' ≤ turns + 1 ∧ Calls Try.prog 9 #[.pointer (some ⟨q, 0, none⟩), .int .i64 id, .int .i64 at_] w (OpT F q S' n' turns' (.int .i64 (setE l id)) w) := by
  have hfit : tfit ⟨at_, id, turns + 1⟩ := ⟨⟨ha.1, ha.2⟩, ⟨hi.1, hi.2⟩, ⟨by show (_ : Int) ≤ turns + 1; omega, h1⟩⟩
  rcases hL.cases id with ⟨t, ht, rfl⟩ | hn
  · have hf : fullB l t.id = false := by unfold fullB whenB; rw [hL.when_hit ht]; rfl
    obtain ⟨m, L1, rfl, hL1⟩ := hL.drop_hit ht
    obtain ⟨L2, hL2⟩ := hL1.add (id := t.id) (at_ := at_) (fun u hu => hu.2)
    refine ⟨L2, _, m + 1, turns + 1, by unfold setT; rw [if_neg (by simp [hf])]; exact hL2, by omega, by omega, ?_⟩
    rw [show setE l t.id = 0 from if_neg (by simp [hf])]
    obtain ⟨f, hq, hh, hs⟩ := h
    obtain ⟨k, hk, rfl⟩ := (hs t).2 ht
    exact (set_hit hq hh hk hfit h0).mono fun e w' hp => qset_qt hs hp
  · by_cases hf : fullB l id = true
    · refine ⟨L, S, n, turns, by unfold setT; rw [if_pos hf]; exact hL, by omega, by omega, ?_⟩
      rw [show setE l id = 2 from if_pos hf]
      have hge : 65536 ≤ n := by
        unfold fullB at hf
        rw [Bool.and_eq_true] at hf
        rw [hL.lenl]; exact of_decide_eq_true hf.2
      exact (setL_full h.ql hi.1 hi.2 hn hge).mono fun e w' ⟨he, hw⟩ => ⟨he, by subst hw; exact h.wide (fun _ h => .inl h), by subst hw; exact Moved.refl _ _⟩
    · have hf : fullB l id = false := by simpa using hf
      have hlt : n < 65536 := by
        unfold fullB whenB at hf
        rw [hL.when_miss hn] at hf
        rw [hL.lenl]; simpa using hf
      obtain ⟨L2, hL2⟩ := hL.add (id := id) (at_ := at_) hn
      refine ⟨L2, _, n + 1, turns + 1, by unfold setT; rw [if_neg (by simp [hf]), hL.drop_miss hn]; exact hL2, by omega, by omega, ?_⟩
      rw [show setE l id = 0 from if_neg (by simp [hf])]
      obtain ⟨f, hq, hh, hs⟩ := h
      refine (set_miss hq hh hfit (fun k hk => hn _ ((hs _).1 ⟨k, hk, rfl⟩)) hlt h0).mono fun e w' hp => ?_
      obtain ⟨he, ⟨g, hg, hgh, hS⟩, hm⟩ := qset_qt hs hp
      exact ⟨he, ⟨g, hg, hgh, fun t => (hS t).trans ⟨fun h => h.imp (fun h => h) (fun h => h.1), fun h => h.imp (fun h => h) (fun h => ⟨h, hn t h⟩)⟩⟩, hm⟩
theorem fork_sim (h : QT F w q S n turns) : Calls Try.prog 17 #[.pointer (some ⟨q, 0, none⟩)] w fun e w' => ∃ q', e = .returned (.pointer (some ⟨q', 0, none⟩)) ∧ QT (fun k => w.heap.size ≤ k) w' q' S n turns ∧ Below w.heap.size w w' := by
  obtain ⟨f, hq, hh, hs⟩ := h
  exact (fork_any hq).mono fun e w' ⟨q', he, hq', hb⟩ => ⟨q', he, ⟨f, hq', hh, hs⟩, hb⟩
end
end Go.Proofs.Ytllkallodgbpmaa
