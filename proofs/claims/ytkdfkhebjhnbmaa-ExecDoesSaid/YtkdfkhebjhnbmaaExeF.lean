/- Package exec: Start. -/
import Derived.Test.YtkdfkhebjhnbmaaExeE
set_option linter.unusedSimpArgs false
set_option linter.unusedVariables false
namespace Go.Proofs.Ytkdfkhebjhnbmaa
open Go.ChangeShapes Go.WideShapes Go.ChangeAt Go.RowKit Go.Base Go.Que Go.Exe

section
variable {F G K : Nat → Prop} {w w' : World} {x nb gb q n : Nat} {slots started : Int} {L : List Rn} {DN DG : DataW Value}
def NoPost (c : Int) (w : World) (e : Ending) (w' : World) : Prop := e = .returned (.int .i64 c) ∧ Below w.heap.size w w'
/-- Start refuses. -/
theorem start_late (h : ExX F w x slots started L nb gb q DN DG K) {k : Ky} {u now : Int} {num : Int} {b : Bool} (hlk : ∀ V, Below w.heap.size w V → (Instr.lookup 55 (.map (some nb)) (kyV k) true).run Try.prog V = .ok (.tuple #[.int .i64 num, .bool b]) V) (hu : u ≤ now) :
    Calls Try.prog 10 #[.pointer (some ⟨x, 0, none⟩), kyV k, .int .i64 u, .int .i64 now] w (NoPost 190 w) := by
  obtain ⟨j, o, g⟩ := k
  have HB1 := Lib.hid (below_alloc w (.cells #[.string j, .int .i64 o, .int .i64 g] 32))
  have HC := Lib.hid (fun V (hV : Below w.heap.size w V) => xclosed (h.later hV))
  have c2 : ∀ V, Below w.heap.size w V → V.cell? ⟨x, 2, none⟩ = some (.map (some nb)) := fun V hV => (h.later hV).cells.2.2.1
  have c2 := c2 _ HB1.out
  have l1 := fun k => hlk _ (below_drewN HB1.out k)
  clear h hlk
  go_enter Try.func10, Try.ntmps10
  go_wp2_with (go_at_call 23; refine Calls.mono (HC.out _ HB1.out) ?_; rintro e w1 ⟨rfl, rfl⟩)
  go_quiet (fail)
  go_wp2
  go_ret
  exact ⟨rfl, below_drewN HB1.out _⟩
theorem start_there (h : ExX F w x slots started L nb gb q DN DG K) {r : Rn} (hr : r ∈ L) {u now : Int} (hu : now < u) :
    Calls Try.prog 10 #[.pointer (some ⟨x, 0, none⟩), kyV r.key, .int .i64 u, .int .i64 now] w (NoPost 5 w) := by
  have hlk : ∀ V, Below w.heap.size w V → (Instr.lookup 55 (.map (some nb)) (kyV r.key) true).run Try.prog V = .ok (.tuple #[.int .i64 r.num, .bool true]) V := fun V hV => names_hit (h.later hV) hr
  obtain ⟨⟨j, o, g⟩, u0, num⟩ := r
  have HB1 := Lib.hid (below_alloc w (.cells #[.string j, .int .i64 o, .int .i64 g] 32))
  have HC := Lib.hid (fun V (hV : Below w.heap.size w V) => xclosed (h.later hV))
  have c2 : ∀ V, Below w.heap.size w V → V.cell? ⟨x, 2, none⟩ = some (.map (some nb)) := fun V hV => (h.later hV).cells.2.2.1
  have c2 := c2 _ HB1.out
  have l1 := fun k => hlk _ (below_drewN HB1.out k)
  have hu2 : ¬ u ≤ now := by omega
  clear h hlk hr
  go_enter Try.func10, Try.ntmps10
  go_wp2_with (go_at_call 23; refine Calls.mono (HC.out _ HB1.out) ?_; rintro e w1 ⟨rfl, rfl⟩)
  go_quiet (fail)
  go_wp2
  go_ret
  exact ⟨rfl, below_drewN HB1.out _⟩
theorem start_full (h : ExX F w x slots started L nb gb q DN DG K) {k : Ky} (hk : kyfit k) (hn : ∀ r ∈ L, r.key ≠ k) {u now : Int} (hu : now < u) (hf : slots ≤ (L.length : Int)) :
    Calls Try.prog 10 #[.pointer (some ⟨x, 0, none⟩), kyV k, .int .i64 u, .int .i64 now] w (NoPost 2 w) := by
  have hlk : ∀ V, Below w.heap.size w V → (Instr.lookup 55 (.map (some nb)) (kyV k) true).run Try.prog V = .ok (.tuple #[.int .i64 0, .bool false]) V := fun V hV => names_miss (h.later hV) hk hn
  obtain ⟨j, o, g⟩ := k
  have HB1 := Lib.hid (below_alloc w (.cells #[.string j, .int .i64 o, .int .i64 g] 32))
  have HC := Lib.hid (fun V (hV : Below w.heap.size w V) => xclosed (h.later hV))
  have HFr : Hid (∀ V, Below w.heap.size w V → Calls Try.prog 21 #[.pointer (some ⟨x, 0, none⟩)] V fun e w' => e = .returned (.int .i64 0) ∧ Below V.heap.size V w') := Lib.hid (fun V hV => by
    have := xfree (h.later hV)
    rw [show slots - (L.length : Int) = 0 by have := h.ok.few; omega] at this
    exact this)
  have c2 : ∀ V, Below w.heap.size w V → V.cell? ⟨x, 2, none⟩ = some (.map (some nb)) := fun V hV => (h.later hV).cells.2.2.1
  have c2 := c2 _ HB1.out
  have l1 := fun k => hlk _ (below_drewN HB1.out k)
  have hu2 : ¬ u ≤ now := by omega
  clear h hlk hk hn hf
  go_enter Try.func10, Try.ntmps10
  go_wp2_with (go_at_call 23; refine Calls.mono (HC.out _ HB1.out) ?_; rintro e w1 ⟨rfl, rfl⟩)
  go_quiet (fail)
  go_wp2_with (go_at_call 21; refine Calls.mono (HFr.out _ (below_drewN HB1.out _)) ?_; rintro e w1 ⟨rfl, hb⟩; have HB2 := Lib.hid ((below_drewN HB1.out _).trans (hb.mono (by simp))); clear hb)
  go_ret
  exact ⟨rfl, HB2.out⟩
/-- What Start writes behind the queue's Set. -/
def Wrote (x nb gb q : Nat) (slots num : Int) (DN DG : DataW Value) (k : Ky) (u : Int) (b0 : Nat) (V w5 w6 : World) : Prop :=
  (Instr.mapUpdate 55 (.map (some nb)) (.agg #[.string k.job, .int .i64 k.occ, .int .i64 k.host]) (.int .i64 num)).run Try.prog ((V.setCell ⟨x, 1, none⟩ (.int .i64 num)).drew) = .ok () w5 ∧
  (Instr.mapUpdate 56 (.map (some gb)) (.int .i64 num) (.agg #[.string k.job, .int .i64 k.occ, .int .i64 k.host, .int .i64 u])).run Try.prog w5.drew = .ok () w6 ∧
  w5.cell? ⟨x, 3, none⟩ = some (.map (some gb)) ∧ (∀ i, w5.cell? ⟨b0, i, none⟩ = V.cell? ⟨b0, i, none⟩) ∧
  w6.heap[x]? = some (.cells (exC slots num nb gb q) 60 (0, 0)) ∧ (∃ m, w6.ownsMap Try.prog 32 idE nb m (DN.put (kl k) (.held (.int .i64 num)))) ∧ (∃ m, w6.ownsMap Try.prog 3 idE gb m (DG.put (.int .i64 num) (.held (goV ⟨k, u, num⟩)))) ∧
  Moved (fun k => k = x ∨ k = nb ∨ k = gb) V w6
theorem start_maps {V : World} {k : Ky} {u num : Int} {b0 : Nat} {cs : Array Value} {t : TypeId} {z : Nat × Nat} (hself : V.heap[x]? = some (.cells (exC slots started nb gb q) 60 (0, 0))) (hnm : V.ownsMap Try.prog 32 idE nb (Maps.size DN) DN) (hgm : V.ownsMap Try.prog 3 idE gb (Maps.size DG) DG)
    (hk : kyfit k) (hnum : i64 num) (hne : nb ≠ gb) (hs1 : Maps.size DN < maxLen) (hs2 : Maps.size DG < maxLen) (hb0 : V.heap[b0]? = some (.cells cs t z)) (hbx : b0 ≠ x) : ∃ w5 w6, Wrote x nb gb q slots num DN DG k u b0 V w5 w6 := by
  have xn : x ≠ nb := by obtain ⟨es, clock, hb, _⟩ := hnm; rintro rfl; rw [hself] at hb; cases hb
  have xg : x ≠ gb := by obtain ⟨es, clock, hb, _⟩ := hgm; rintro rfl; rw [hself] at hb; cases hb
  have bn : b0 ≠ nb := by obtain ⟨es, clock, hb, _⟩ := hnm; rintro rfl; rw [hb0] at hb; cases hb
  have m4 : Moved (fun k => k = x) V ((V.setCell ⟨x, 1, none⟩ (.int .i64 num)).drew) := ((Moved.refl (fun k => k = x) V).setCell (.inr rfl) _).drew
  have s4 : ((V.setCell ⟨x, 1, none⟩ (.int .i64 num)).drew).heap[x]? = some (.cells (exC slots num nb gb q) 60 (0, 0)) := by
    show (V.setCell ⟨x, 1, none⟩ (.int .i64 num)).heap[x]? = _
    rw [heap_set hself]; rfl
  obtain ⟨w5, r5, o5, t5⟩ := (own_map_moved hnm m4 (fun e => xn e.symm)).store law_key Try.underlying55 hs1 (val := .int .i64 num) (d := .held (.int .i64 num)) (ps := []) (kl_some hk) rfl
  have m5 := turned_moved t5
  have m45 : Moved (fun k => k = x ∨ k = nb) V w5 := (m4.weaken (fun _ _ h => .inl h)).trans m5 (fun _ _ h => .inr h)
  have g5 : w5.drew.ownsMap Try.prog 3 idE gb (Maps.size DG) DG := own_map_moved hgm (m45.drew) (by rintro (e | e); exact xg e.symm; exact hne e.symm)
  obtain ⟨w6, r6, o6, t6⟩ := g5.store law_int Try.underlying56 hs2 (val := goV ⟨k, u, num⟩) (d := .held (goV ⟨k, u, num⟩)) (ps := []) (int_some hnum) rfl
  have m6 := turned_moved t6
  have m6' : Moved (fun k => k = gb) w5 w6 := ((Moved.refl _ w5).drew).trans m6 (fun _ _ h => h)
  have s5 := m5.heap s4 xn
  refine ⟨w5, w6, r5, r6, cell_of_row _ _ 3 _ _ _ s5, fun i => ?_, m6'.heap s5 xg, ⟨_, own_map_moved o5 m6' hne⟩, ⟨_, o6⟩, (m45.weaken (fun _ _ h => h.imp id .inl)).trans m6' (fun _ _ h => .inr (.inr h))⟩
  exact World.cell?_of_block (m45.block b0 (heap_lt hb0) (by rintro (e | e); exact hbx e; exact bn e))
end
end Go.Proofs.Ytkdfkhebjhnbmaa
