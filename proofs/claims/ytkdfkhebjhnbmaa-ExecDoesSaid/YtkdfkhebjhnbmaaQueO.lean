/- Package queue: Pop, Next, Drop, New. -/
import Derived.Test.YtkdfkhebjhnbmaaQueN
set_option linter.unusedSimpArgs false
set_option linter.unusedVariables false
namespace Go.Proofs.Ytkdfkhebjhnbmaa
open Go.ChangeShapes Go.WideShapes Go.ChangeAt Go.RowKit Go.Base Go.Que

section
variable {w w' : World} {F G : Nat → Prop} {q c mb n N m : Nat} {A : Option Addr} {D : DataW Unit} {f : Nat → Tm} {turns : Int}
def dX (f : Nat → Tm) (n : Nat) (now : Int) : Int := if 0 < n ∧ (f 0).at_ ≤ now then (f 0).at_ else 0
def dY (f : Nat → Tm) (n : Nat) (now : Int) : Int := if 0 < n ∧ (f 0).at_ ≤ now then (f 0).id else 0
def dZ (f : Nat → Tm) (n : Nat) (now : Int) : Bool := decide (0 < n ∧ (f 0).at_ ≤ now)
theorem due_eq (f : Nat → Tm) (n : Nat) (now : Int) : dueV f n now = .tuple #[.agg #[.int .i64 (dX f n now), .int .i64 (dY f n now)], .bool (dZ f n now)] := by
  unfold dueV dX dY dZ
  by_cases h : 0 < n ∧ (f 0).at_ ≤ now
  · rw [if_pos h, if_pos h, if_pos h, decide_eq_true h]
  · rw [if_neg h, if_neg h, if_neg h, decide_eq_false h]
set_option maxHeartbeats 2000000 in
theorem qpop_tight (h : Que w F q f n turns) (hF : ∀ k, F k → k < w.heap.size) (hH : Heap n f) (now : Int) : Calls Try.prog 27 #[.pointer (some ⟨q, 0, none⟩), .int .i64 now] w (QPop F q f n turns now w) := by
  have HC := Lib.hid (fun V (hV : Below w.heap.size w V) => qclosed_any (h.later hV))
  have HPo := Lib.hid (fun V (hV : Below w.heap.size w V) => pop_any (h.later hV) hH now)
  have HA := Lib.hid (below_alloc w (.cells #[.int .i64 0, .int .i64 0] 65))
  have HFl := Lib.hid hF
  have HV := Lib.hid (due_eq f n now)
  clear h hH hF
  go_enter Try.func27, Try.ntmps27
  go_wp2_with (first
    | (go_at_call 30; refine Calls.mono (HC.out _ HA.out) ?_; rintro e w1 ⟨rfl, rfl⟩)
    | (go_at_call 34; refine Calls.mono (HPo.out _ HA.out) ?_; rintro e w2 ⟨rfl, hp1, hp2, hm⟩; rw [HV.out]; have HP1 := Lib.hid hp1; have HP2 := Lib.hid hp2; have HM := Lib.hid ((Below.movedNew HA.out).trans hm (fun _ _ h => h)); have k4 := hm.heap (heap_new w _) (fun h => by have := HFl.out _ h; omega); obtain ⟨u4, f4⟩ := cells_of_heap k4; have c40 := u4 0; have c41 := u4 1; have f40 := f4 0; have f41 := f4 1; clear hp1 hp2 hm k4 u4 f4))
  have hnF : ¬ F w.heap.size := fun h => by have := HFl.out _ h; omega
  refine bodyPost_ret (v := .tuple #[.agg #[.int .i64 (dX f n now), .int .i64 (dY f n now)], .bool (dZ f n now)]) (by simp [results, Try.results27, go_sem, c40, c41]) rfl ⟨by rw [HV.out], fun h => ?_, fun h => (HP2.out h).put2 hnF _ _, (HM.out.setCell (.inl (Nat.le_refl _)) _).setCell (.inl (Nat.le_refl _)) _⟩
  obtain ⟨m, g, e, hq, r⟩ := HP1.out h
  exact ⟨m, g, e, hq.put2 hnF _ _, r⟩
theorem qpop_any (h : Que w F q f n turns) (hH : Heap n f) (now : Int) : Calls Try.prog 27 #[.pointer (some ⟨q, 0, none⟩), .int .i64 now] w (QPop F q f n turns now w) := by
  obtain ⟨F0, h0, hG, hF⟩ := h.tight
  exact (qpop_tight h0 hF hH now).mono fun e w' hp => hp.wide hG
set_option maxHeartbeats 2000000 in
theorem qnext_any (h : Que w F q f n turns) : Calls Try.prog 28 #[.pointer (some ⟨q, 0, none⟩)] w fun e w' => e = .returned (dueV f n 9223372036854775807) ∧ Below w.heap.size w w' := by
  have HC := Lib.hid (fun V (hV : Below w.heap.size w V) => qclosed_any (h.later hV))
  have HPo := Lib.hid (fun V (hV : Below w.heap.size w V) => due_any (h.later hV) 9223372036854775807)
  have HA := Lib.hid (below_alloc w (.cells #[.int .i64 0, .int .i64 0] 65))
  have HV := Lib.hid (due_eq f n 9223372036854775807)
  clear h
  go_enter Try.func28, Try.ntmps28
  go_wp2_with (first
    | (go_at_call 30; refine Calls.mono (HC.out _ HA.out) ?_; rintro e w1 ⟨rfl, rfl⟩)
    | (go_at_call 35; refine Calls.mono (HPo.out _ HA.out) ?_; rintro e w2 ⟨rfl, hb⟩; rw [HV.out]; have HB := Lib.hid (HA.out.trans (hb.mono (by simp))); obtain ⟨u4, f4⟩ := cells_of_heap (kept_new hb); have c40 := u4 0; have c41 := u4 1; have f40 := f4 0; have f41 := f4 1; clear hb u4 f4))
  exact bodyPost_ret (v := .tuple #[.agg #[.int .i64 (dX f n 9223372036854775807), .int .i64 (dY f n 9223372036854775807)], .bool (dZ f n 9223372036854775807)]) (by simp [results, Try.results28, go_sem, c40, c41]) rfl ⟨by rw [HV.out], (HB.out.setCell (Nat.le_refl _) _).setCell (Nat.le_refl _) _⟩
/-- A timer taken away. -/
def QDrop (F : Nat → Prop) (q : Nat) (f : Nat → Tm) (m : Nat) (turns : Int) (t : Tm) (w : World) (e : Ending) (w' : World) : Prop :=
  e = .returned (.bool true) ∧ ∃ g, Que w' F q g m turns ∧ Moved F w w' ∧ Heap m g ∧ Shuf (m + 1) f (snoc m g t)
theorem drop_hit (h : Que w F q f (m + 1) turns) (hH : Heap (m + 1) f) {k : Nat} (hk : k < m + 1) : Calls Try.prog 25 #[.pointer (some ⟨q, 0, none⟩), .int .i64 (f k).id] w (QDrop F q f m turns (f k) w) := by
  have HC := Lib.hid (qclosed_any h)
  have HR := Lib.hid (hremove_any h hH hk)
  obtain ⟨A, c, mb, D, h⟩ := h
  obtain ⟨q0, q1, q2⟩ := h.cells
  have hl := qlook_hit h hk
  clear h hH
  go_enter Try.func25, Try.ntmps25
  go_wp2_with (first
    | (go_at_call 30; refine Calls.mono (by with_reducible exact HC.out) ?_; rintro e w1 ⟨rfl, rfl⟩)
    | (go_at_call 33; refine Calls.mono (by with_reducible exact HR.out) ?_; rintro e w2 ⟨rfl, hp⟩; have HP := Lib.hid hp; clear hp))
  go_ret
  exact ⟨rfl, HP.out⟩
theorem drop_miss (h : Que w F q f n turns) {id : Int} (h1 : -9223372036854775808 ≤ id) (h2 : id ≤ 9223372036854775807) (hn : ∀ k, k < n → (f k).id ≠ id) : Calls Try.prog 25 #[.pointer (some ⟨q, 0, none⟩), .int .i64 id] w fun e w' => e = .returned (.bool false) ∧ w = w' := by
  have HC := Lib.hid (qclosed_any h)
  obtain ⟨A, c, mb, D, h⟩ := h
  obtain ⟨q0, q1, q2⟩ := h.cells
  have hl := qlook_miss h h1 h2 hn
  clear h hn
  go_enter Try.func25, Try.ntmps25
  go_wp2_with (go_at_call 30; refine Calls.mono (by with_reducible exact HC.out) ?_; rintro e w1 ⟨rfl, rfl⟩)
  go_ret
  exact ⟨rfl, rfl⟩
def noTm : Nat → Tm := fun _ => ⟨0, 0, 0⟩
theorem qnew_any (w : World) : Calls Try.prog 22 #[] w fun e w' => ∃ q, e = .returned (.pointer (some ⟨q, 0, none⟩)) ∧ Que w' (fun k => w.heap.size ≤ k) q noTm 0 0 ∧ Below w.heap.size w w' := by
  have hmm := @run_makeMap Try.prog
  go_enter Try.func22, Try.ntmps22
  go_wp2
  go_ret
  refine ⟨w.heap.size + 1, rfl, ⟨none, 0, w.heap.size, .map [], ⟨⟨?_, ⟨[], World.ownsRow_nil _ _ _ _, fun k hk => by omega⟩, (by show 78 ≠ 82; decide), by omega⟩, ?_, ⟨Maps.tidy_empty, fun id => ⟨(fun h => by cases h), (fun ⟨k, hk, _⟩ => by omega)⟩, fun k hk => by omega, rfl, (fun i j hi => by omega)⟩, (fun k hk => by omega), ⟨Nat.le_succ _, Nat.le_refl _, fun k hk => by cases hk⟩⟩⟩, ((below_alloc w _).alloc (by simp) _)⟩
  · have := heap_new (w.alloc (.map #[] 0)) (.cells #[.slice none 0 0, .map (some w.heap.size), .int .i64 0] 78)
    simpa [qR] using this
  · exact own_map_moved (q := fun _ => False) (World.ownsMap_made w _ _ _) (Below.movedNew (below_alloc _ _)) (fun h => h)
end
end Go.Proofs.Ytkdfkhebjhnbmaa
