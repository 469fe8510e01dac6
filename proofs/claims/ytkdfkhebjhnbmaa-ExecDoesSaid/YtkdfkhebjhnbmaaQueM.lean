/- Package queue: what it tells without a change: closed, When, Len, due, Next. -/
import Derived.Test.YtkdfkhebjhnbmaaQueL
import Derived.WalkSpells
set_option linter.unusedSimpArgs false
set_option linter.unusedVariables false
namespace Go.Proofs.Ytkdfkhebjhnbmaa
open Go.ChangeShapes Go.WideShapes Go.ChangeAt Go.RowKit Go.Base Go.Que

theorem eql_map (w : World) (r : Option Nat) : (binOp .eql 72 (.map r) (.map none)).run Try.prog w = .ok (.bool r.isNone) w := run_eql_map_nil w _ _ _ r Try.underlying72
section
variable {w w' : World} {F G : Nat → Prop} {q c mb n N m : Nat} {A : Option Addr} {D : DataW Unit} {f : Nat → Tm} {turns : Int}
theorem qclosed_any (h : Que w F q f n turns) : Calls Try.prog 30 #[.pointer (some ⟨q, 0, none⟩)] w fun e w' => e = .returned (.bool false) ∧ w = w' := by
  obtain ⟨A, c, mb, D, h⟩ := h
  obtain ⟨q0, q1, q2⟩ := h.cells
  have hE := eql_map
  clear h
  go_enter Try.func30, Try.ntmps30
  go_wp2
  go_ret
  exact ⟨rfl, rfl⟩
theorem qclosed_nil (w : World) : Calls Try.prog 30 #[.pointer none] w fun e w' => e = .returned (.bool true) ∧ w = w' := by
  go_enter Try.func30, Try.ntmps30
  go_wp2
  go_ret
  exact ⟨rfl, rfl⟩
theorem qlen_any (h : Que w F q f n turns) : Calls Try.prog 57 #[.pointer (some ⟨q, 0, none⟩)] w fun e w' => e = .returned (.int .i64 (n : Int)) ∧ w = w' := by
  have HC := Lib.hid (qclosed_any h)
  have HL := Lib.hid (plen_any h)
  clear h
  go_enter Try.func57, Try.ntmps57
  go_wp2_with (first
    | (go_at_call 30; refine Calls.mono (by with_reducible exact HC.out) ?_; rintro e w1 ⟨rfl, rfl⟩)
    | (go_at_call 31; refine Calls.mono (by with_reducible exact HL.out) ?_; rintro e w2 ⟨rfl, rfl⟩))
  go_ret
  exact ⟨rfl, rfl⟩
/-- A look at the map of places. -/
theorem qlook_hit (h : QueX w F q A c mb D f n turns) {k : Nat} (hk : k < n) : (Instr.lookup 72 (.map (some mb)) (.int .i64 (f k).id) true).run Try.prog w = .ok (.tuple #[.int .i64 (k : Int), .bool true]) w := by
  have hf := (h.fit k hk).2.1
  obtain ⟨v, ps, hrun, hv⟩ := h.map.look_ok law_int Try.underlying72 (zeroI w) (plainElem_int Try.underlying3 (by decide)) (key_int hf.1 hf.2)
  rw [h.plc.at_ k hk] at hv
  obtain ⟨a, rfl, hz, _⟩ := plainElem_int_inv Try.underlying3 hv
  injection hz with hz; injection hz with hz; injection hz with _ hz
  rw [h.plc.mem hk, ← hz] at hrun
  exact hrun
theorem qlook_miss (h : QueX w F q A c mb D f n turns) {id : Int} (h1 : -9223372036854775808 ≤ id) (h2 : id ≤ 9223372036854775807) (hn : ∀ k, k < n → (f k).id ≠ id) : (Instr.lookup 72 (.map (some mb)) (.int .i64 id) true).run Try.prog w = .ok (.tuple #[.int .i64 0, .bool false]) w := by
  obtain ⟨v, ps, hrun, hv⟩ := h.map.look_ok law_int Try.underlying72 (zeroI w) (plainElem_int Try.underlying3 (by decide)) (key_int h1 h2)
  have hf : Maps.has D (kv id) = false := by
    rw [Bool.eq_false_iff]; intro h3
    obtain ⟨k, hk, e⟩ := (h.plc.has _).1 h3
    exact hn k hk e
  rw [Maps.atKey_of_not_has hf] at hv
  obtain ⟨a, rfl, hz, _⟩ := plainElem_int_inv Try.underlying3 hv
  injection hz with hz; injection hz with hz; injection hz with _ hz
  rw [hf, ← hz] at hrun
  exact hrun
theorem pfirst_any (h : Que w F q f n turns) (hn : 0 < n) : Calls Try.prog 62 #[.pointer (some ⟨q, 0, none⟩)] w fun e w' => e = .returned (tmV (f 0)) ∧ Below w.heap.size w w' := by
  obtain ⟨A, c, mb, D, h⟩ := h
  exact first_any h.row hn
/-- What is due. -/
def dueV (f : Nat → Tm) (n : Nat) (now : Int) : Value := if 0 < n ∧ (f 0).at_ ≤ now then .tuple #[.agg #[.int .i64 (f 0).at_, .int .i64 (f 0).id], .bool true] else .tuple #[.agg #[.int .i64 0, .int .i64 0], .bool false]
set_option maxHeartbeats 1000000 in
theorem due_any (h : Que w F q f n turns) (now : Int) : Calls Try.prog 35 #[.iface 80 (.pointer (some ⟨q, 0, none⟩)), .int .i64 now] w fun e w' => e = .returned (dueV f n now) ∧ Below w.heap.size w w' := by
  have HL := Lib.hid (fun V (hV : Below w.heap.size w V) => plen_any (h.later hV))
  have HF := Lib.hid (fun V (hV : Below w.heap.size w V) => pfirst_any (h.later hV))
  have hN := h.few
  clear h
  by_cases h0 : n = 0
  · subst h0
    go_enter Try.func35, Try.ntmps35
    go_wp2_with (go_at_call 31; refine Calls.mono (HL.out _ (below_alloc _ _)) ?_; rintro e w1 ⟨rfl, rfl⟩)
    exact bodyPost_ret (v := .tuple #[.agg #[.int .i64 0, .int .i64 0], .bool false]) (by simp [results, Try.results35, go_sem]) rfl ⟨by unfold dueV; rw [if_neg (by omega)], below_alloc _ _⟩
  · have hn : 0 < n := by omega
    have he : ((n : Int) == 0) = false := by rw [beq_eq_false_iff_ne]; omega
    obtain ⟨a, ha⟩ : ∃ a, a = f 0 := ⟨_, rfl⟩
    have HF2 : Hid (∀ V, Below w.heap.size w V → Calls Try.prog 62 #[.pointer (some ⟨q, 0, none⟩)] V fun e w' => e = .returned (.agg #[.int .i64 a.at_, .int .i64 a.id, .int .i64 a.turn]) ∧ Below V.heap.size V w') := Lib.hid (fun V hV => by rw [ha]; exact HF.out V hV hn)
    have hF1 := field_tm a.at_ a.id a.turn
    have hF3 := field_at a.at_ a.id
    have HD := Lib.hid ha
    clear ha
    have HA := Lib.hid (below_alloc w (.cells #[.int .i64 0, .int .i64 0] 65))
    by_cases hg : now < a.at_
    · go_enter Try.func35, Try.ntmps35
      go_wp2_with (first
        | (go_at_call 31; refine Calls.mono (HL.out _ HA.out) ?_; rintro e w1 ⟨rfl, rfl⟩)
        | (have tok1 := HA; go_at_call 62; refine Calls.mono (HF2.out _ HA.out) ?_; rintro e w2 ⟨rfl, hb⟩; have HB := Lib.hid (HA.out.trans (hb.mono (by simp))); have hc0 := hb.cell (p := ⟨w.heap.size, 0, none⟩) (by simp); have hc1 := hb.cell (p := ⟨w.heap.size, 1, none⟩) (by simp); have hfz0 := hb.frozen (p := ⟨w.heap.size, 0, none⟩) (by simp); have hfz1 := hb.frozen (p := ⟨w.heap.size, 1, none⟩) (by simp); have hsz : w.heap.size + 1 ≤ w2.heap.size := (by have := hb.size; simp at this; omega); clear hb HA tok1)
        | (go_at_call 62; refine Calls.mono (HF2.out _ HB.out) ?_; rintro e w3 ⟨rfl, hb⟩; have HB3 := Lib.hid (HB.out.trans (hb.mono HB.out.size)); have hd0 := hb.cell (p := ⟨w.heap.size, 0, none⟩) (by show w.heap.size < _; omega); have hd1 := hb.cell (p := ⟨w.heap.size, 1, none⟩) (by show w.heap.size < _; omega); have he0 := hb.frozen (p := ⟨w.heap.size, 0, none⟩) (by show w.heap.size < _; omega); have he1 := hb.frozen (p := ⟨w.heap.size, 1, none⟩) (by show w.heap.size < _; omega); clear hb))
      exact bodyPost_ret (v := .tuple #[.agg #[.int .i64 0, .int .i64 0], .bool false]) (by simp [results, Try.results35, go_sem, hc0, hc1]) rfl ⟨by unfold dueV; rw [← HD.out, if_neg (by omega)], (HB.out.setCell (Nat.le_refl _) _).setCell (Nat.le_refl _) _⟩
    · have hg2 : a.at_ ≤ now := by omega
      have hg3 : decide (now < a.at_) = false := by rw [decide_eq_false_iff_not]; omega
      go_enter Try.func35, Try.ntmps35
      go_wp2_with (first
        | (go_at_call 31; refine Calls.mono (HL.out _ HA.out) ?_; rintro e w1 ⟨rfl, rfl⟩)
        | (have tok1 := HA; go_at_call 62; refine Calls.mono (HF2.out _ HA.out) ?_; rintro e w2 ⟨rfl, hb⟩; have HB := Lib.hid (HA.out.trans (hb.mono (by simp))); have hc0 := hb.cell (p := ⟨w.heap.size, 0, none⟩) (by simp); have hc1 := hb.cell (p := ⟨w.heap.size, 1, none⟩) (by simp); have hfz0 := hb.frozen (p := ⟨w.heap.size, 0, none⟩) (by simp); have hfz1 := hb.frozen (p := ⟨w.heap.size, 1, none⟩) (by simp); have hsz : w.heap.size + 1 ≤ w2.heap.size := (by have := hb.size; simp at this; omega); clear hb HA tok1)
        | (go_at_call 62; refine Calls.mono (HF2.out _ HB.out) ?_; rintro e w3 ⟨rfl, hb⟩; have HB3 := Lib.hid (HB.out.trans (hb.mono HB.out.size)); have hd0 := hb.cell (p := ⟨w.heap.size, 0, none⟩) (by show w.heap.size < _; omega); have hd1 := hb.cell (p := ⟨w.heap.size, 1, none⟩) (by show w.heap.size < _; omega); have he0 := hb.frozen (p := ⟨w.heap.size, 0, none⟩) (by show w.heap.size < _; omega); have he1 := hb.frozen (p := ⟨w.heap.size, 1, none⟩) (by show w.heap.size < _; omega); clear hb))
      exact bodyPost_ret (v := .tuple #[.agg #[.int .i64 a.at_, .int .i64 a.id], .bool true]) (by simp [results, Try.results35, go_sem, hc0, hc1, hd0, hd1]) rfl ⟨by unfold dueV; rw [← HD.out, if_pos ⟨hn, hg2⟩], (HB3.out.setCell (Nat.le_refl _) _).setCell (Nat.le_refl _) _⟩
end
end Go.Proofs.Ytkdfkhebjhnbmaa
