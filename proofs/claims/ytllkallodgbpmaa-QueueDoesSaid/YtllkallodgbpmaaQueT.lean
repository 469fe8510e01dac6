/- The law QueueNobody. -/
import Derived.Test.YtllkallodgbpmaaQueR
import Derived.Test.YtllkallodgbpmaaIRows
import Derived.Deep.CutBlock
import Derived.Shelf.Abstract
import Derived.RangeFuncNested
import Derived.RangeFuncBound
import Derived.RangeFuncCalls
import Derived.RangeFuncLeaves
import Derived.RangeFuncFrom
set_option linter.unusedSimpArgs false
set_option linter.unusedVariables false
namespace Go.Proofs.Ytllkallodgbpmaa
open Go.ChangeShapes Go.WideShapes Go.ChangeAt Go.RowKit Go.Base Go.Que Go.Shelf

theorem next_nil (w : World) : Calls Try.prog 19 #[.pointer none] w fun e w' => e = .returned (.tuple #[.agg #[.int .i64 0, .int .i64 0], .bool false]) ∧ Below w.heap.size w w' := by
  go_enter Try.func19, Try.ntmps19
  go_wp2_with (go_at_call 22; refine Calls.mono (qclosed_nil _) ?_; rintro e w1 ⟨rfl, rfl⟩)
  exact bodyPost_ret (v := .tuple #[.agg #[.int .i64 0, .int .i64 0], .bool false]) (by simp [results, Try.results19, go_sem]) rfl ⟨rfl, below_alloc _ _⟩
theorem pop_nil (now : Int) (w : World) : Calls Try.prog 13 #[.pointer none, .int .i64 now] w fun e w' => e = .returned (.tuple #[.agg #[.int .i64 0, .int .i64 0], .bool false]) ∧ Below w.heap.size w w' := by
  go_enter Try.func13, Try.ntmps13
  go_wp2_with (go_at_call 22; refine Calls.mono (qclosed_nil _) ?_; rintro e w1 ⟨rfl, rfl⟩)
  exact bodyPost_ret (v := .tuple #[.agg #[.int .i64 0, .int .i64 0], .bool false]) (by simp [results, Try.results13, go_sem]) rfl ⟨rfl, below_alloc _ _⟩
theorem when_nil (id : Int) (w : World) : Calls Try.prog 15 #[.pointer none, .int .i64 id] w fun e w' => e = .returned (.tuple #[.int .i64 0, .bool false]) ∧ w = w' := by
  go_enter Try.func15, Try.ntmps15
  go_wp2_with (go_at_call 22; refine Calls.mono (qclosed_nil _) ?_; rintro e w1 ⟨rfl, rfl⟩)
  go_ret2
  exact ⟨rfl, rfl⟩
theorem set_nil (id at_ : Int) (w : World) : Calls Try.prog 9 #[.pointer none, .int .i64 id, .int .i64 at_] w fun e w' => e = .returned (.int .i64 6) ∧ w = w' := by
  go_enter Try.func9, Try.ntmps9
  go_wp2_with (go_at_call 22; refine Calls.mono (qclosed_nil _) ?_; rintro e w1 ⟨rfl, rfl⟩)
  go_ret
  exact ⟨rfl, rfl⟩
theorem drop_nil (id : Int) (w : World) : Calls Try.prog 11 #[.pointer none, .int .i64 id] w fun e w' => e = .returned (.bool false) ∧ w = w' := by
  go_enter Try.func11, Try.ntmps11
  go_wp2_with (go_at_call 22; refine Calls.mono (qclosed_nil _) ?_; rintro e w1 ⟨rfl, rfl⟩)
  go_ret
  exact ⟨rfl, rfl⟩
theorem len_nil (w : World) : Calls Try.prog 20 #[.pointer none] w fun e w' => e = .returned (.int .i64 0) ∧ w = w' := by
  go_enter Try.func20, Try.ntmps20
  go_wp2_with (go_at_call 22; refine Calls.mono (qclosed_nil _) ?_; rintro e w1 ⟨rfl, rfl⟩)
  go_ret
  exact ⟨rfl, rfl⟩
theorem fork_nil (w : World) : Calls Try.prog 17 #[.pointer none] w fun e w' => e = .returned (.pointer none) ∧ Below w.heap.size w w' := by
  go_enter Try.func17, Try.ntmps17
  go_wp2_with (go_at_call 22; refine Calls.mono (qclosed_nil _) ?_; rintro e w1 ⟨rfl, rfl⟩)
  go_ret
  exact ⟨rfl, by first | exact Below.refl _ _ | exact below_alloc _ _⟩
theorem iter_nil (y : Value) (g : Nat) (w : World) (hg : w.cell? ⟨g, 0, none⟩ = some (.pointer none)) : Calls Try.prog 31 #[y, .pointer (some ⟨g, 0, none⟩)] w fun e w' => e = .returned (.tuple #[]) ∧ w = w' := by
  go_enter Try.func31, Try.ntmps31
  go_wp2_with (go_at_call 22; refine Calls.mono (qclosed_nil _) ?_; rintro e w1 ⟨rfl, rfl⟩)
  go_returns
  exact ⟨rfl, rfl⟩
set_option maxHeartbeats 4000000 in
set_option maxRecDepth 20000 in
theorem nobody_in (k i a : Int) (w : World) :
    CallsIn Fence.wide 3 Try.prog 5 #[.agg #[.int .i64 k, .int .i64 i, .int .i64 a]] w fun e w' => e = .returned (.bool true) ∧ Below w.heap.size w w' := by
  have HLi := Lib.hid (fun V => qlives_any V)
  have hE := eql_func
  obtain ⟨w0, hw0⟩ : ∃ w0, w0 = (w.alloc (.cells #[.int .i64 k, .int .i64 i, .int .i64 a] 31)).alloc (.cells #[.bool false] 4) := ⟨_, rfl⟩
  have hs0 : w0.heap.size = w.heap.size + 2 := by rw [hw0]; simp
  have HB0 : Hid (Below w.heap.size w w0) := Lib.hid (by rw [hw0]; exact (below_alloc _ _).alloc (by simp) _)
  have HX : Hid (∀ V, Below w0.heap.size w0 V → V.heap[w.heap.size]? = some (.cells #[.int .i64 k, .int .i64 i, .int .i64 a] 31 (0, 0)) ∧ V.heap[w.heap.size + 1]? = some (.cells #[.bool false] 4 (0, 0))) := Lib.hid (fun V hV => by
    refine ⟨(hV.block _ (by omega)).trans ?_, (hV.block _ (by omega)).trans ?_⟩
    · rw [hw0]; exact heap_old _ (by simp) (heap_new w _)
    · rw [hw0]; have := heap_new (w.alloc (.cells #[.int .i64 k, .int .i64 i, .int .i64 a] 31)) (.cells #[.bool false] 4); simpa using this)
  have HW0 := Lib.hid hw0
  clear hw0
  refine callsIn_of_wp_marks Try.func5 rfl trivial ?_ rfl
  simp only [Try.ntmps5, List.size_toArray, List.length_cons, List.length_nil, Nat.reduceAdd, Nat.reduceSub, Array.replicate_succ, Array.replicate_zero, List.push_toArray, List.append_toArray, List.nil_append, List.cons_append]
  gi_wp2_with fail
  refine ⟨trivial, ?_⟩
  gi_at_call 19
  rw [← HW0.out]
  refine (callsIn_wide.2 (next_nil _)).mono ?_
  rintro e w1 ⟨rfl, hb1⟩
  have HB1 := Lib.hid hb1
  have z1 : w.heap.size + 2 ≤ w1.heap.size := by have := hb1.size; omega
  have y1 : w.heap.size < w1.heap.size := by omega
  have y2 : w.heap.size + 1 < w1.heap.size := by omega
  have c1 : w1.cell? ⟨w.heap.size, 1, none⟩ = some (.int .i64 i) := cell_of_row _ _ 1 _ _ _ (HX.out w1 hb1).1
  have c2 : w1.cell? ⟨w.heap.size, 2, none⟩ = some (.int .i64 a) := cell_of_row _ _ 2 _ _ _ (HX.out w1 hb1).1
  clear hb1
  gi_wp2_with fail
  refine ⟨trivial, ?_⟩
  gi_at_call 13
  refine (callsIn_wide.2 (pop_nil a _)).mono ?_
  rintro e w2 ⟨rfl, hb2⟩
  have k1 : w2.heap[w1.heap.size]? = some (.cells #[.int .i64 0, .int .i64 0] 36 (0, 0)) := kept_new hb2
  have HB2 := Lib.hid ((HB1.out.alloc HB1.out.size (.cells #[.int .i64 0, .int .i64 0] 36)).trans (hb2.mono (by have := HB1.out.size; simp; omega)))
  have z2 : w1.heap.size + 1 ≤ w2.heap.size := by have := hb2.size; simpa using this
  clear hb2 c1 c2
  have y3 : w.heap.size < w2.heap.size := by omega
  have c1 : w2.cell? ⟨w.heap.size, 1, none⟩ = some (.int .i64 i) := cell_of_row _ _ 1 _ _ _ (HX.out w2 HB2.out).1
  have K1 := Lib.hid k1
  clear k1
  gi_wp2_with (first
    | (refine ⟨trivial, ?_⟩; gi_at_call 15; refine (callsIn_wide.2 (when_nil i _)).mono ?_; rintro e w3 ⟨rfl, rfl⟩)
    | (refine ⟨trivial, ?_⟩; gi_at_call 21; refine (callsIn_wide.2 (all_any none _)).mono ?_; rintro e w3 ⟨rfl, rfl⟩; simp only [allV]))
  refine ⟨trivial, ?_⟩
  gi_at_call 8
  refine (callsIn_wide.2 (HLi.out _)).mono ?_
  rintro e w4 ⟨rfl, hb4⟩
  have k2 : w4.heap[w2.heap.size]? = some (.cells #[.int .i64 0, .int .i64 0] 36 (0, 0)) := (hb4.block _ (by simp; omega)).trans (heap_old _ (by simp) (heap_new w2 _))
  have k3 : w4.heap[w2.heap.size + 1]? = some (.cells #[.pointer none] 23 (0, 0)) := (hb4.block _ (by simp)).trans (by have := heap_new (w2.alloc (.cells #[.int .i64 0, .int .i64 0] 36)) (.cells #[.pointer none] 23); simpa using this)
  have k1 : w4.heap[w1.heap.size]? = some (.cells #[.int .i64 0, .int .i64 0] 36 (0, 0)) := (hb4.block _ (by simp; omega)).trans (heap_old _ (by simp; omega) (heap_old _ (by omega) K1.out))
  have hB4 : Below w0.heap.size w0 w4 := ((HB2.out.alloc HB2.out.size (.cells #[.int .i64 0, .int .i64 0] 36)).alloc (by have := HB2.out.size; simp; omega) (.cells #[.pointer none] 23)).trans (hb4.mono (by have := HB2.out.size; simp; omega))
  have z4 : w2.heap.size + 2 ≤ w4.heap.size := by have := hb4.size; simpa using this
  have k0 := (HX.out w4 hB4).1
  have kr := (HX.out w4 hB4).2
  have HF : Hid (∀ W, Below w4.heap.size w4 W → W.heap[w.heap.size]? = some (.cells #[.int .i64 k, .int .i64 i, .int .i64 a] 31 (0, 0)) ∧ W.heap[w.heap.size + 1]? = some (.cells #[.bool false] 4 (0, 0)) ∧ W.heap[w1.heap.size]? = some (.cells #[.int .i64 0, .int .i64 0] 36 (0, 0)) ∧ W.heap[w2.heap.size]? = some (.cells #[.int .i64 0, .int .i64 0] 36 (0, 0))) := Lib.hid (fun W hW =>
    ⟨(hW.block _ (heap_lt k0)).trans k0, (hW.block _ (heap_lt kr)).trans kr, (hW.block _ (heap_lt k1)).trans k1, (hW.block _ (heap_lt k2)).trans k2⟩)
  have HBw : Hid (Below w.heap.size w w4) := Lib.hid (HB0.out.trans (hB4.mono (by omega)))
  have hseq : SeqStopsK Fence.wide 2 Try.prog 31 #[.pointer (some ⟨w2.heap.size + 1, 0, none⟩)] (fun x : Empty => x.elim) (fun _ _ => True) (fun xs => xs = []) (fun _ => False) 0 w4 := fun l J Jx W hW hJ hJx hY h0 =>
    (callsIn_wide.2 (iter_nil _ (w2.heap.size + 1) W (cell_of_row _ _ 0 _ _ _ ((hW.block _ (heap_lt k3)).trans k3)))).mono fun e W' ⟨he, hw⟩ => ⟨⟨_, he⟩, .inl ⟨[], rfl, by rw [← hw]; exact h0⟩⟩
  clear hb4 k0 kr k1 k2 k3 hB4
  gi_wp2_with fail
  refine wpIn_rangeFunc_ownF rfl (by omega) (gf := 31) (lb := #[.pointer (some ⟨w2.heap.size + 1, 0, none⟩)]) rfl trivial (enters_of Try.func31 (by kernel_rfl) rfl)
    hseq (fun _ _ => trivial) (fun _ _ _ _ _ _ _ _ => trivial) (Below.refl _ _) (fun x => x.elim)
    (fun _ W => Below w4.heap.size w4 W) (fun _ _ _ => False) (ownFrom_below (Nat.le_refl _) (Nat.le_refl _)) (fun _ _ _ _ _ h _ _ => h) (Below.refl _ _) (fun x => x.elim) (fun _ x => x.elim) (fun _ _ x => x.elim) ?done (fun _ _ _ _ _ h => h.elim)
  case done =>
    rintro D xs W hD hS hI hK
    clear hseq hS
    have HI := Lib.hid hI
    have HK := Lib.hid hK
    have zW := hI.size
    obtain ⟨m0, mr, m1, m2⟩ := HF.out W hI
    have a0 : W.cell? ⟨w.heap.size, 1, none⟩ = some (.int .i64 i) := cell_of_row _ _ 1 _ _ _ m0
    have a1 : W.cell? ⟨w.heap.size, 2, none⟩ = some (.int .i64 a) := cell_of_row _ _ 2 _ _ _ m0
    have a2 : W.cell? ⟨w1.heap.size, 0, none⟩ = some (.int .i64 0) := cell_of_row _ _ 0 _ _ _ m1
    have a3 : W.cell? ⟨w1.heap.size, 1, none⟩ = some (.int .i64 0) := cell_of_row _ _ 1 _ _ _ m1
    have a4 : W.cell? ⟨w2.heap.size, 0, none⟩ = some (.int .i64 0) := cell_of_row _ _ 0 _ _ _ m2
    have a5 : W.cell? ⟨w2.heap.size, 1, none⟩ = some (.int .i64 0) := cell_of_row _ _ 1 _ _ _ m2
    clear hI hK m0 m1 m2 mr
    gi_wp2_with (first
      | (refine ⟨trivial, ?_⟩; gi_at_call 9; refine (callsIn_wide.2 (set_nil i a _)).mono ?_; rintro e w5 ⟨rfl, rfl⟩)
      | (refine ⟨trivial, ?_⟩; gi_at_call 11; refine (callsIn_wide.2 (drop_nil i _)).mono ?_; rintro e w5 ⟨rfl, rfl⟩)
      | (refine ⟨trivial, ?_⟩; gi_at_call 20; refine (callsIn_wide.2 (len_nil _)).mono ?_; rintro e w5 ⟨rfl, rfl⟩)
      | (refine ⟨trivial, ?_⟩; gi_at_call 17; refine (callsIn_wide.2 (fork_nil _)).mono ?_; rintro e w6 ⟨rfl, hb6⟩; have HI6 := Lib.hid (HI.out.trans (hb6.mono zW)); have HD6 := Lib.hid ((hb6.block _ (heap_lt HK.out)).trans HK.out); have k6 := (HF.out w6 HI6.out).2.1; have r6 : w6.cell? ⟨w.heap.size + 1, 0, none⟩ = some (.bool false) := cell_of_row _ _ 0 _ _ _ k6; have f6 : w6.frozen? ⟨w.heap.size + 1, 0, none⟩ = false := (cells_of_heap k6).2 0; have K6 := Lib.hid k6; clear hb6 k6))
    have hne : D ≠ w.heap.size + 1 := by omega
    have hK' : (w6.setCell ⟨w.heap.size + 1, 0, none⟩ (.bool true)).heap[D]? = some (.deferred (some [])) := (Below.heap_setCell w6 _ _ D hne).trans HD6.out
    refine ⟨by simp, .inl ⟨_, _, rfl, run_takeDeferred hK', ?_⟩⟩
    have hq : ((w6.setCell ⟨w.heap.size + 1, 0, none⟩ (.bool true)).putObj D (.deferred none)).heap[w.heap.size + 1]? = some (.cells #[.bool true] 4 (0, 0)) := (World.putObj_heap_other hne.symm).trans (by rw [heap_set K6.out 0 _]; rfl)
    have e0 : ((w6.setCell ⟨w.heap.size + 1, 0, none⟩ (.bool true)).putObj D (.deferred none)).cell? ⟨w.heap.size + 1, 0, none⟩ = some (.bool true) := cell_of_row _ _ 0 _ _ _ hq
    refine ⟨.bool true, ?_, rfl, ?_⟩
    · simp [results, Try.f5, go_sem, e0]
    · exact ((HBw.out.trans (HI6.out.mono (by have := HBw.out.size; omega))).setCell (Nat.le_succ _) _).grown (grownBy_putObj' _ D (.deferred none)) (by have := HBw.out.size; have := HI6.out.size; simp; omega) (fun k e => by cases e; omega)
theorem law_nobody (k i a : Int) (w : World) : Calls Try.prog 5 #[.agg #[.int .i64 k, .int .i64 i, .int .i64 a]] w fun e w' => e = .returned (.bool true) ∧ Below w.heap.size w w' :=
  callsIn_wide.1 (nobody_in k i a w)
/-- An argument of type Op. -/
theorem open_op3 {H : Type} {enc : TypeId × Value → H} {w : World} {base b0 : Nat} {spare : Nat → Bool} {held : Bool} {r : Reach} {v : Value} {d : DataW H} {p : List MemPlace}
    (hv : Value.okWide Try.prog w r b0 31 v) (h : DataW.Trod enc Try.prog w base spare held 31 v d p) : ∃ x y z : Int, v = .agg #[.int .i64 x, .int .i64 y, .int .i64 z] := by
  obtain ⟨cs, rfl, hl, hall⟩ := open_agg_any Try.underlying31 (by kernel_rfl) (by kernel_rfl) hv h
  have one : ∀ j, j < 3 → ∃ z : Int, cs[j]? = some (.int .i64 z) := fun j hj => by
    rcases (by omega : j = 0 ∨ j = 1 ∨ j = 2) with rfl | rfl | rfl
    · obtain ⟨x, n, y, hx, ht⟩ := hall 0 _ rfl
      obtain ⟨z, hz, _⟩ := DataW.trod_int Try.underlying3 ht
      injection hz with hz
      exact ⟨z, by rw [hx, hz]⟩
    · obtain ⟨x, n, y, hx, ht⟩ := hall 1 _ rfl
      obtain ⟨z, hz, _⟩ := DataW.trod_int Try.underlying3 ht
      injection hz with hz
      exact ⟨z, by rw [hx, hz]⟩
    · obtain ⟨x, n, y, hx, ht⟩ := hall 2 _ rfl
      obtain ⟨z, hz, _⟩ := DataW.trod_int Try.underlying3 ht
      injection hz with hz
      exact ⟨z, by rw [hx, hz]⟩
  obtain ⟨x, hx⟩ := one 0 (by omega)
  obtain ⟨y, hy⟩ := one 1 (by omega)
  obtain ⟨z, hz⟩ := one 2 (by omega)
  refine ⟨x, y, z, ?_⟩
  have hl3 : cs.length = 3 := hl
  match cs, hl3, hx, hy, hz with
  | [c0, c1, c2], _, hx, hy, hz =>
    simp at hx hy hz
    rw [hx, hy, hz]
end Go.Proofs.Ytllkallodgbpmaa
