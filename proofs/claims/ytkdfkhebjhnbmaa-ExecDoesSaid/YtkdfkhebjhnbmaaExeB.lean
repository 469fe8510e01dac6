/- Package exec: what lies in the world; a queue by the blocks that are its own. -/
import Derived.Test.YtkdfkhebjhnbmaaExeA
set_option linter.unusedSimpArgs false
set_option linter.unusedVariables false
namespace Go.Proofs.Ytkdfkhebjhnbmaa
open Go.ChangeShapes Go.WideShapes Go.ChangeAt Go.RowKit Go.Base Go.Que Go.Exe

/-- Block q is a queue of the timers S; F holds of its own blocks alone. -/
def QF (F : Nat → Prop) (w : World) (q : Nat) (S : Tm → Prop) (n : Nat) (turns : Int) : Prop :=
  (∃ f, Que w F q f n turns ∧ Heap n f ∧ ∀ t, (∃ k, k < n ∧ f k = t) ↔ S t) ∧ ∀ k, F k → k < w.heap.size
/-- What a call of a queue leaves. -/
def OpF (F : Nat → Prop) (q : Nat) (S : Tm → Prop) (n : Nat) (turns : Int) (v : Value) (w : World) (e : Ending) (w' : World) : Prop :=
  e = .returned v ∧ (∃ F', QF F' w' q S n turns ∧ ∀ k, F' k → F k ∨ w.heap.size ≤ k) ∧ Moved F w w'
section
variable {F G : Nat → Prop} {q n n' m : Nat} {w w' : World} {S S' : Tm → Prop} {turns : Int} {f : Nat → Tm}
theorem qf_of (h : Que w' G q f n turns) (hH : Heap n f) (hs : ∀ t, (∃ k, k < n ∧ f k = t) ↔ S t) : ∃ F', QF F' w' q S n turns ∧ ∀ k, F' k → G k := by
  obtain ⟨F0, h0, h1, h2⟩ := h.tight
  exact ⟨F0, ⟨⟨f, h0, hH, hs⟩, h2⟩, h1⟩
theorem QF.kept {p : Nat → Prop} (h : QF F w q S n turns) (hm : Moved p w w') (hn : ∀ k, F k → ¬ p k) : QF F w' q S n turns := by
  obtain ⟨⟨f, hq, r⟩, hs⟩ := h
  exact ⟨⟨f, hq.kept hm hn, r⟩, fun k hk => Nat.lt_of_lt_of_le (hs k hk) hm.size⟩
theorem QF.later (h : QF F w q S n turns) (hb : Below w.heap.size w w') : QF F w' q S n turns := h.kept (p := fun _ => False) (Below.movedNew hb) (fun _ _ h => h)
theorem QF.same (h : QF F w q S n turns) (e : ∀ t, S t ↔ S' t) : QF F w q S' n turns := by
  obtain ⟨⟨f, hq, hh, hs⟩, hB⟩ := h
  exact ⟨⟨f, hq, hh, fun t => (hs t).trans (e t)⟩, hB⟩
theorem OpF.same {v : Value} {e : Ending} (h : OpF F q S n turns v w e w') (hs : ∀ t, S t ↔ S' t) : OpF F q S' n turns v w e w' := by
  obtain ⟨h1, ⟨F', h2, h3⟩, h4⟩ := h
  exact ⟨h1, ⟨F', h2.same hs, h3⟩, h4⟩
theorem QF.pos (h : QF F w q S n turns) {t : Tm} (ht : S t) : 0 < n := by
  obtain ⟨⟨f, hq, hh, hs⟩, hB⟩ := h
  obtain ⟨k, hk, _⟩ := (hs t).2 ht
  omega
theorem newF (w : World) : Calls Try.prog 22 #[] w fun e w' => ∃ q F, e = .returned (.pointer (some ⟨q, 0, none⟩)) ∧ QF F w' q (fun _ => False) 0 0 ∧ (∀ k, F k → w.heap.size ≤ k) ∧ Below w.heap.size w w' :=
  (qnew_any w).mono fun e w' ⟨q, he, hq, hb⟩ => by
    obtain ⟨F', h1, h2⟩ := qf_of (f := noTm) (S := fun _ => False) hq (fun k k0 kn => by omega) (fun t => ⟨fun ⟨k, hk, _⟩ => by omega, fun h => h.elim⟩)
    exact ⟨q, F', he, h1, h2, hb⟩
theorem setF_miss (h : QF F w q S n turns) {id at_ : Int} (ht : tfit ⟨at_, id, turns + 1⟩) (hn : ∀ t, S t → t.id ≠ id) (hfew : n < 65536) (ht0 : 0 ≤ turns) :
    Calls Try.prog 24 #[.pointer (some ⟨q, 0, none⟩), .int .i64 id, .int .i64 at_] w (OpF F q (fun t => t = ⟨at_, id, turns + 1⟩ ∨ (S t ∧ t.id ≠ id)) (n + 1) (turns + 1) (.int .i64 0) w) := by
  obtain ⟨⟨f, hq, hh, hs⟩, hB⟩ := h
  refine (set_miss hq hh ht (fun k hk => hn _ ((hs _).1 ⟨k, hk, rfl⟩)) hfew ht0).mono fun e w' hp => ?_
  obtain ⟨he, g, hq2, hh2, hm, hS⟩ := hp
  refine ⟨he, qf_of hq2 hh2 (fun t => ?_), hm⟩
  rw [hS t, hs t]
theorem dropF_hit (h : QF F w q S (m + 1) turns) {t0 : Tm} (hS : S t0) : Calls Try.prog 25 #[.pointer (some ⟨q, 0, none⟩), .int .i64 t0.id] w (OpF F q (fun t => S t ∧ t.id ≠ t0.id) m turns (.bool true) w) := by
  obtain ⟨⟨f, hq, hh, hs⟩, hB⟩ := h
  obtain ⟨k, hk, rfl⟩ := (hs t0).2 hS
  refine (drop_hit hq hh hk).mono fun e w' ⟨he, g, hg, hm, hgh, hsh⟩ => ⟨he, ?_, hm⟩
  obtain ⟨F', h1, h2⟩ := qf_of hg hgh (fun t => gone_ql hs hq.once hk hsh t)
  exact ⟨F', h1, fun k hk => .inl (h2 k hk)⟩
theorem popF_due (h : QF F w q S (m + 1) turns) {t : Tm} {now : Int} (ht : S t) (hmin : ∀ u, S u → u.id ≠ t.id → lt t u) (hnow : t.at_ ≤ now) :
    Calls Try.prog 27 #[.pointer (some ⟨q, 0, none⟩), .int .i64 now] w (OpF F q (fun u => S u ∧ u.id ≠ t.id) m turns (.tuple #[.agg #[.int .i64 t.at_, .int .i64 t.id], .bool true]) w) := by
  obtain ⟨⟨f, hq, hh, hs⟩, hB⟩ := h
  obtain ⟨h0, hf⟩ := first_is hh hs hq.once ht hmin
  refine (qpop_any hq hh now).mono fun e w' ⟨he, h1, _, hm⟩ => ?_
  have hd : 0 < m + 1 ∧ (f 0).at_ ≤ now := ⟨h0, by rw [hf]; exact hnow⟩
  obtain ⟨m', g, e2, hg, hgh, hsh⟩ := h1 hd
  obtain rfl : m = m' := by omega
  obtain ⟨F', h1, h2⟩ := qf_of (S := fun u => S u ∧ u.id ≠ t.id) hg hgh (fun u => by rw [gone_ql hs hq.once h0 hsh u, hf])
  exact ⟨by rw [he]; unfold dueV; rw [if_pos hd, hf], ⟨F', h1, fun k hk => .inl (h2 k hk)⟩, hm⟩
theorem popF_not (h : QF F w q S n turns) {now : Int} (hnot : ∀ u, S u → now < u.at_) :
    Calls Try.prog 27 #[.pointer (some ⟨q, 0, none⟩), .int .i64 now] w (OpF F q S n turns (.tuple #[.agg #[.int .i64 0, .int .i64 0], .bool false]) w) := by
  obtain ⟨⟨f, hq, hh, hs⟩, hB⟩ := h
  refine (qpop_any hq hh now).mono fun e w' ⟨he, _, h2, hm⟩ => ?_
  have hd : ¬ (0 < n ∧ (f 0).at_ ≤ now) := fun ⟨a, b⟩ => by have := hnot (f 0) ((hs _).1 ⟨0, a, rfl⟩); omega
  obtain ⟨F', h1, h3⟩ := qf_of (h2 hd) hh hs
  exact ⟨by rw [he]; unfold dueV; rw [if_neg hd], ⟨F', h1, fun k hk => .inl (h3 k hk)⟩, hm⟩
theorem nextF (h : QF F w q S n turns) {t : Tm} (ht : S t) (hmin : ∀ u, S u → u.id ≠ t.id → lt t u) :
    Calls Try.prog 28 #[.pointer (some ⟨q, 0, none⟩)] w fun e w' => e = .returned (.tuple #[.agg #[.int .i64 t.at_, .int .i64 t.id], .bool true]) ∧ Below w.heap.size w w' := by
  obtain ⟨⟨f, hq, hh, hs⟩, hB⟩ := h
  obtain ⟨k, hk, hfk⟩ := (hs t).2 ht
  have hf2 := hq.fits hk
  rw [hfk] at hf2
  obtain ⟨h0, hf⟩ := first_is hh hs hq.once ht hmin
  refine (qnext_any hq).mono fun e w' ⟨he, hb⟩ => ⟨?_, hb⟩
  rw [he]; unfold dueV; rw [if_pos ⟨h0, by rw [hf]; exact hf2.1.2⟩, hf]
theorem nextF_none (h : QF F w q S 0 turns) : Calls Try.prog 28 #[.pointer (some ⟨q, 0, none⟩)] w fun e w' => e = .returned (.tuple #[.agg #[.int .i64 0, .int .i64 0], .bool false]) ∧ Below w.heap.size w w' := by
  obtain ⟨⟨f, hq, hh, hs⟩, hB⟩ := h
  refine (qnext_any hq).mono fun e w' ⟨he, hb⟩ => ⟨?_, hb⟩
  rw [he]; unfold dueV; rw [if_neg (by omega)]
end
/-- The timers of some runs. -/
def TS (L : List Rn) (t : Tm) : Prop := ∃ r, r ∈ L ∧ tmR r = t
noncomputable def fkN (r : Rn) : Lit := kl r.key
def fvN (r : Rn) : Value := .int .i64 r.num
def fkG (r : Rn) : Lit := .int .i64 r.num
def fvG (r : Rn) : Value := goV r
def exC (slots started : Int) (nb gb q : Nat) : Array Value := #[.int .i64 slots, .int .i64 started, .map (some nb), .map (some gb), .pointer (some ⟨q, 0, none⟩)]
/-- Block x is an exec of the runs L; F holds of its own blocks. -/
structure ExX (F : Nat → Prop) (w : World) (x : Nat) (slots started : Int) (L : List Rn) (nb gb q : Nat) (DN DG : DataW Value) (K : Nat → Prop) : Prop where
  ok : Ok slots started L
  self : w.heap[x]? = some (.cells (exC slots started nb gb q) 60 (0, 0))
  nmap : w.ownsMap Try.prog 32 idE nb (Maps.size DN) DN
  gmap : w.ownsMap Try.prog 3 idE gb (Maps.size DG) DG
  nis : MapIs DN (fun r => r ∈ L) L.length fkN fvN
  gis : MapIs DG (fun r => r ∈ L) L.length fkG fvG
  que : QF K w q (TS L) L.length started
  apart : nb ≠ gb ∧ ¬ K x ∧ ¬ K nb ∧ ¬ K gb
  inF : F x ∧ F nb ∧ F gb ∧ ∀ k, K k → F k
def EX (F : Nat → Prop) (w : World) (x : Nat) (slots started : Int) (L : List Rn) : Prop := (∃ nb gb q DN DG K, ExX F w x slots started L nb gb q DN DG K) ∧ ∀ k, F k → k < w.heap.size
section
variable {F G K : Nat → Prop} {w w' : World} {x nb gb q : Nat} {slots started : Int} {L : List Rn} {DN DG : DataW Value}
theorem ExX.cells (h : ExX F w x slots started L nb gb q DN DG K) : w.cell? ⟨x, 0, none⟩ = some (.int .i64 slots) ∧ w.cell? ⟨x, 1, none⟩ = some (.int .i64 started) ∧ w.cell? ⟨x, 2, none⟩ = some (.map (some nb)) ∧ w.cell? ⟨x, 3, none⟩ = some (.map (some gb)) ∧ w.cell? ⟨x, 4, none⟩ = some (.pointer (some ⟨q, 0, none⟩)) :=
  ⟨cell_of_row w x 0 _ _ _ h.self, cell_of_row w x 1 _ _ _ h.self, cell_of_row w x 2 _ _ _ h.self, cell_of_row w x 3 _ _ _ h.self, cell_of_row w x 4 _ _ _ h.self⟩
theorem ExX.kept {p : Nat → Prop} (h : ExX F w x slots started L nb gb q DN DG K) (hm : Moved p w w') (hn : ∀ k, F k → ¬ p k) : ExX F w' x slots started L nb gb q DN DG K :=
  { h with self := hm.heap h.self (hn _ h.inF.1), nmap := own_map_moved h.nmap hm (hn _ h.inF.2.1), gmap := own_map_moved h.gmap hm (hn _ h.inF.2.2.1), que := h.que.kept hm (fun k hk => hn _ (h.inF.2.2.2 k hk)) }
theorem ExX.later (h : ExX F w x slots started L nb gb q DN DG K) (hb : Below w.heap.size w w') : ExX F w' x slots started L nb gb q DN DG K := h.kept (p := fun _ => False) (Below.movedNew hb) (fun _ _ h => h)
theorem ExX.n_ne (h : ExX F w x slots started L nb gb q DN DG K) {k : Nat} {cs : Array Value} {t : TypeId} {z : Nat × Nat} (hk : w.heap[k]? = some (.cells cs t z)) : k ≠ nb := by
  obtain ⟨es, clock, hb, _⟩ := h.nmap
  rintro rfl
  rw [hk] at hb; cases hb
theorem ExX.g_ne (h : ExX F w x slots started L nb gb q DN DG K) {k : Nat} {cs : Array Value} {t : TypeId} {z : Nat × Nat} (hk : w.heap[k]? = some (.cells cs t z)) : k ≠ gb := by
  obtain ⟨es, clock, hb, _⟩ := h.gmap
  rintro rfl
  rw [hk] at hb; cases hb
theorem EX.kept {p : Nat → Prop} (h : EX F w x slots started L) (hm : Moved p w w') (hn : ∀ k, F k → ¬ p k) : EX F w' x slots started L := by
  obtain ⟨⟨nb, gb, q, DN, DG, K, h⟩, hs⟩ := h
  exact ⟨⟨nb, gb, q, DN, DG, K, h.kept hm hn⟩, fun k hk => Nat.lt_of_lt_of_le (hs k hk) hm.size⟩
theorem EX.later (h : EX F w x slots started L) (hb : Below w.heap.size w w') : EX F w' x slots started L := h.kept (p := fun _ => False) (Below.movedNew hb) (fun _ _ h => h)
theorem EX.ok (h : EX F w x slots started L) : Ok slots started L := by
  obtain ⟨⟨nb, gb, q, DN, DG, K, h⟩, hs⟩ := h
  exact h.ok
/-- An exec in blocks that may be some more: its own alone are told. -/
theorem ExX.tight (h : ExX F w x slots started L nb gb q DN DG K) : EX (fun k => k = x ∨ k = nb ∨ k = gb ∨ K k) w x slots started L := by
  refine ⟨⟨nb, gb, q, DN, DG, K, { h with inF := ⟨.inl rfl, .inr (.inl rfl), .inr (.inr (.inl rfl)), fun k hk => .inr (.inr (.inr hk))⟩ }⟩, fun k hk => ?_⟩
  rcases hk with rfl | rfl | rfl | hk
  · exact heap_lt h.self
  · obtain ⟨es, clock, hb, _⟩ := h.nmap; exact heap_lt hb
  · obtain ⟨es, clock, hb, _⟩ := h.gmap; exact heap_lt hb
  · exact h.que.2 k hk
end
/-- What a call of an exec leaves. -/
def OpE (F : Nat → Prop) (x : Nat) (slots started : Int) (L : List Rn) (v : Value) (w : World) (e : Ending) (w' : World) : Prop :=
  e = .returned v ∧ (∃ F', EX F' w' x slots started L ∧ ∀ k, F' k → F k ∨ w.heap.size ≤ k) ∧ Moved F w w'
section
variable {F G K : Nat → Prop} {w w' : World} {x nb gb q : Nat} {slots started : Int} {L : List Rn} {DN DG : DataW Value}
theorem xclosed (h : ExX F w x slots started L nb gb q DN DG K) : Calls Try.prog 23 #[.pointer (some ⟨x, 0, none⟩)] w fun e w' => e = .returned (.bool false) ∧ w = w' := by
  obtain ⟨c0, c1, c2, c3, c4⟩ := h.cells
  clear h
  go_enter Try.func23, Try.ntmps23
  go_wp2
  go_ret
  exact ⟨rfl, rfl⟩
theorem xclosed_nil (w : World) : Calls Try.prog 23 #[.pointer none] w fun e w' => e = .returned (.bool true) ∧ w = w' := by
  go_enter Try.func23, Try.ntmps23
  go_wp2
  go_ret
  exact ⟨rfl, rfl⟩
/-- A look at a map of opaque things. -/
theorem look_id {t k e : TypeId} {b n : Nat} {D : DataW Value} {w : World} (h : w.ownsMap Try.prog k idE b n D) (Kd : Maps.Keyed Try.prog k) (ht : Try.prog.underlying t = some (.map k e)) {z : Value} (hz : (zeroValue e).run Try.prog w = .ok z w) {key : Value} {kl : Lit} (hkey : keyOf Try.prog k key = some kl) {u : Value} (hu : D.atKey kl (.held z) = .held u) :
    (Instr.lookup t (.map (some b)) key true).run Try.prog w = .ok (.tuple #[u, .bool (Maps.has D kl)]) w := by
  obtain ⟨v, ps, hrun, hv⟩ := h.look_ok Kd ht hz (zd := .held z) (zp := []) rfl hkey
  rw [hu] at hv
  rw [idE_inv hv] at hrun
  exact hrun
theorem look_id1 {t k e : TypeId} {b n : Nat} {D : DataW Value} {w : World} (h : w.ownsMap Try.prog k idE b n D) (Kd : Maps.Keyed Try.prog k) (ht : Try.prog.underlying t = some (.map k e)) {z : Value} (hz : (zeroValue e).run Try.prog w = .ok z w) {key : Value} {kl : Lit} (hkey : keyOf Try.prog k key = some kl) {u : Value} (hu : D.atKey kl (.held z) = .held u) :
    (Instr.lookup t (.map (some b)) key false).run Try.prog w = .ok u w := by
  obtain ⟨v, ps, hrun, hv⟩ := h.lookup Kd ht hz (zd := .held z) (zp := []) rfl hkey
  rw [hu] at hv
  rw [idE_inv hv] at hrun
  exact hrun
theorem zero_going (w : World) : (zeroValue 41).run Try.prog w = .ok (.agg #[.string ⟨#[]⟩, .int .i64 0, .int .i64 0, .int .i64 0]) w := by kernel_rfl
theorem int_some {n : Int} (h : i64 n) : keyOf Try.prog 3 (.int .i64 n) = some (.int .i64 n) := Maps.keyOf_int_mk Try.underlying3 (wf_i64 h)
theorem names_hit (h : ExX F w x slots started L nb gb q DN DG K) {r : Rn} (hr : r ∈ L) : (Instr.lookup 55 (.map (some nb)) (kyV r.key) true).run Try.prog w = .ok (.tuple #[.int .i64 r.num, .bool true]) w := by
  have h1 := look_id h.nmap law_key Try.underlying55 (zeroI w) (kl_some (h.ok.fit r hr).1) (h.nis.at_ r hr _)
  rw [show Maps.has DN (kl r.key) = true from (h.nis.has _).2 ⟨r, hr, rfl⟩] at h1
  exact h1
theorem names_miss (h : ExX F w x slots started L nb gb q DN DG K) {k : Ky} (hk : kyfit k) (hn : ∀ r ∈ L, r.key ≠ k) : (Instr.lookup 55 (.map (some nb)) (kyV k) true).run Try.prog w = .ok (.tuple #[.int .i64 0, .bool false]) w := by
  have hf : Maps.has DN (kl k) = false := by
    rw [Bool.eq_false_iff]; intro h3
    obtain ⟨r, hr, e⟩ := (h.nis.has _).1 h3
    exact hn r hr (kl_inj (h.ok.fit r hr).1 hk e)
  have h1 := look_id h.nmap law_key Try.underlying55 (zeroI w) (kl_some hk) (Maps.atKey_of_not_has hf _)
  rw [hf] at h1
  exact h1
theorem going_hit (h : ExX F w x slots started L nb gb q DN DG K) {r : Rn} (hr : r ∈ L) : (Instr.lookup 56 (.map (some gb)) (.int .i64 r.num) false).run Try.prog w = .ok (goV r) w :=
  look_id1 h.gmap law_int Try.underlying56 (zero_going w) (int_some (h.ok.tmfit hr)) (h.gis.at_ r hr _)
end
end Go.Proofs.Ytkdfkhebjhnbmaa
