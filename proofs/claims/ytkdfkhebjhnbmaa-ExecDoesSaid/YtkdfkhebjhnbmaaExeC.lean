/- Package exec: Free, Get, Next, leave. -/
import Derived.Test.YtkdfkhebjhnbmaaExeB
import Derived.BigRegion
import Derived.BigQuiet
import Derived.WalkSmall
set_option linter.unusedSimpArgs false
set_option linter.unusedVariables false
namespace Go.Proofs.Ytkdfkhebjhnbmaa
open Go.ChangeShapes Go.WideShapes Go.ChangeAt Go.RowKit Go.Base Go.Que Go.Exe

section
variable {F G K : Nat → Prop} {w w' : World} {x nb gb q : Nat} {slots started : Int} {L : List Rn} {DN DG : DataW Value}
theorem ExX.drewN (h : ExX F w x slots started L nb gb q DN DG K) (n : Nat) : ExX F (w.drewN n) x slots started L nb gb q DN DG K := h.later (below_drewN (Below.refl _ _) n)
set_option maxHeartbeats 1000000 in
set_option maxRecDepth 20000 in
theorem xfree (h : ExX F w x slots started L nb gb q DN DG K) : Calls Try.prog 21 #[.pointer (some ⟨x, 0, none⟩)] w fun e w' => e = .returned (.int .i64 (slots - (L.length : Int))) ∧ Below w.heap.size w w' := by
  have HC := Lib.hid (xclosed h)
  obtain ⟨c0, c1, c2, c3, c4⟩ := h.cells
  have hl : ∀ k ty, (Builtin.len_ #[56] ty #[.map (some gb)]).run Try.prog (w.drewN k) = .ok (.int .i64 (L.length : Int)) (w.drewN k) := fun k ty => by
    have := (h.drewN k).gmap.len Try.underlying56 ty
    rw [h.gis.size] at this; exact this
  have h1 := h.ok.room
  have h2 := h.ok.few
  obtain ⟨n, hn⟩ : ∃ n : Int, n = (L.length : Int) := ⟨_, rfl⟩
  have hn0 : 0 ≤ n := by omega
  rw [← hn] at hl h2 ⊢
  clear h hn
  go_enter Try.func21, Try.ntmps21
  go_wp2_with (go_at_call 23; refine Calls.mono (by with_reducible exact HC.out) ?_; rintro e w1 ⟨rfl, rfl⟩)
  go_quiet (fail)
  go_wp2
  go_ret
  exact ⟨rfl, below_drewN (Below.refl _ _) _⟩
set_option maxHeartbeats 1000000 in
set_option maxRecDepth 20000 in
theorem xget_hit (h : ExX F w x slots started L nb gb q DN DG K) {r : Rn} (hr : r ∈ L) : Calls Try.prog 17 #[.pointer (some ⟨x, 0, none⟩), kyV r.key] w fun e w' => e = .returned (.tuple #[goV r, .bool true]) ∧ Below w.heap.size w w' := by
  obtain ⟨⟨j, o, g⟩, u, n⟩ := r
  have HB1 := Lib.hid ((below_alloc w (.cells #[.string j, .int .i64 o, .int .i64 g] 32)).alloc (by simp) (.cells #[.string ⟨#[]⟩, .int .i64 0, .int .i64 0, .int .i64 0] 41))
  have HC := Lib.hid (fun V (hV : Below w.heap.size w V) => xclosed (h.later hV))
  have h2 : Hid (∀ V, Below w.heap.size w V → V.cell? ⟨x, 2, none⟩ = some (.map (some nb)) ∧ V.cell? ⟨x, 3, none⟩ = some (.map (some gb)) ∧ (Instr.lookup 55 (.map (some nb)) (.agg #[.string j, .int .i64 o, .int .i64 g]) true).run Try.prog V = .ok (.tuple #[.int .i64 n, .bool true]) V ∧ (Instr.lookup 56 (.map (some gb)) (.int .i64 n) false).run Try.prog V = .ok (.agg #[.string j, .int .i64 o, .int .i64 g, .int .i64 u]) V) :=
    Lib.hid (fun V hV => ⟨(h.later hV).cells.2.2.1, (h.later hV).cells.2.2.2.1, names_hit (h.later hV) hr, going_hit (h.later hV) hr⟩)
  clear h
  go_enter Try.func17, Try.ntmps17
  go_wp2_with (go_at_call 23; refine Calls.mono (HC.out _ HB1.out) ?_; rintro e w1 ⟨rfl, rfl⟩)
  have c2 := (h2.out _ HB1.out).1
  have c3 := (h2.out _ HB1.out).2.1
  have l1 := fun k => (h2.out _ (below_drewN HB1.out k)).2.2.1
  have l2 := fun k => (h2.out _ (below_drewN HB1.out k)).2.2.2
  go_quiet (fail)
  go_wp2
  exact bodyPost_ret (v := .tuple #[.agg #[.string j, .int .i64 o, .int .i64 g, .int .i64 u], .bool true]) (by simp [results, Try.results17, go_sem]) rfl ⟨rfl, ((((below_drewN HB1.out _).setCell (Nat.le_succ _) _).setCell (Nat.le_succ _) _).setCell (Nat.le_succ _) _).setCell (Nat.le_succ _) _⟩
set_option maxHeartbeats 1000000 in
set_option maxRecDepth 20000 in
theorem xget_miss (h : ExX F w x slots started L nb gb q DN DG K) {k : Ky} (hk : kyfit k) (hn : ∀ r ∈ L, r.key ≠ k) : Calls Try.prog 17 #[.pointer (some ⟨x, 0, none⟩), kyV k] w fun e w' => e = .returned (.tuple #[.agg #[.string ⟨#[]⟩, .int .i64 0, .int .i64 0, .int .i64 0], .bool false]) ∧ Below w.heap.size w w' := by
  obtain ⟨j, o, g⟩ := k
  have HB1 := Lib.hid ((below_alloc w (.cells #[.string j, .int .i64 o, .int .i64 g] 32)).alloc (by simp) (.cells #[.string ⟨#[]⟩, .int .i64 0, .int .i64 0, .int .i64 0] 41))
  have HC := Lib.hid (fun V (hV : Below w.heap.size w V) => xclosed (h.later hV))
  have h2 : Hid (∀ V, Below w.heap.size w V → V.cell? ⟨x, 2, none⟩ = some (.map (some nb)) ∧ (Instr.lookup 55 (.map (some nb)) (.agg #[.string j, .int .i64 o, .int .i64 g]) true).run Try.prog V = .ok (.tuple #[.int .i64 0, .bool false]) V) :=
    Lib.hid (fun V hV => ⟨(h.later hV).cells.2.2.1, names_miss (h.later hV) hk hn⟩)
  clear h hk hn
  go_enter Try.func17, Try.ntmps17
  go_wp2_with (go_at_call 23; refine Calls.mono (HC.out _ HB1.out) ?_; rintro e w1 ⟨rfl, rfl⟩)
  have c2 := (h2.out _ HB1.out).1
  have l1 := fun k => (h2.out _ (below_drewN HB1.out k)).2
  go_quiet (fail)
  go_wp2
  exact bodyPost_ret (v := .tuple #[.agg #[.string ⟨#[]⟩, .int .i64 0, .int .i64 0, .int .i64 0], .bool false]) (by simp [results, Try.results17, go_sem]) rfl ⟨rfl, ((((below_drewN HB1.out _).setCell (Nat.le_succ _) _).setCell (Nat.le_succ _) _).setCell (Nat.le_succ _) _).setCell (Nat.le_succ _) _⟩
set_option maxHeartbeats 1000000 in
theorem xnext (h : ExX F w x slots started L nb gb q DN DG K) {v : Int} {b : Bool} {id : Int} (hq : ∀ V, Below w.heap.size w V → Calls Try.prog 28 #[.pointer (some ⟨q, 0, none⟩)] V fun e w' => e = .returned (.tuple #[.agg #[.int .i64 v, .int .i64 id], .bool b]) ∧ Below V.heap.size V w') :
    Calls Try.prog 19 #[.pointer (some ⟨x, 0, none⟩)] w fun e w' => e = .returned (.tuple #[.int .i64 v, .bool b]) ∧ Below w.heap.size w w' := by
  have HC := Lib.hid (xclosed h)
  obtain ⟨c0, c1, c2, c3, c4⟩ := h.cells
  have HQ := Lib.hid (hq w (Below.refl _ _))
  clear h hq
  go_enter Try.func19, Try.ntmps19
  go_wp2_with (first
    | (go_at_call 23; refine Calls.mono (by with_reducible exact HC.out) ?_; rintro e w1 ⟨rfl, rfl⟩)
    | (go_at_call 28; refine Calls.mono (by with_reducible exact HQ.out) ?_; rintro e w2 ⟨rfl, hb⟩; have HB := Lib.hid hb; clear hb))
  go_ret2
  exact ⟨rfl, HB.out.alloc HB.out.size _⟩
end
end Go.Proofs.Ytkdfkhebjhnbmaa
