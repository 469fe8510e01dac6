/- The law's 'same'; a nil net; the law NetNobody. -/
import Derived.Test.YtbmadhmcnjcdfaaNetI
set_option linter.unusedSimpArgs false
set_option linter.unusedVariables false
namespace Go.Proofs.Ytbmadhmcnjcdfaa
open Go.ChangeShapes Go.WideShapes Go.ChangeAt Go.RowKit Go.Base Go.Net

def sameB (p q : Pk) : Bool := p.id == q.id && p.fr == q.fr && p.dst == q.dst && p.body == q.body
set_option maxHeartbeats 2000000 in
theorem same_any (p q : Pk) (A A' : Option Addr) (c c' : Nat) (w : World) (hy : Byt w A p.body) (hy' : Byt w A' q.body) :
    Calls Try.prog 14 #[.agg #[.int .i64 p.id, .int .i64 p.fr, .int .i64 p.dst, .slice A p.body.length c], .agg #[.int .i64 q.id, .int .i64 q.fr, .int .i64 q.dst, .slice A' q.body.length c']] w fun e w' => e = .returned (.bool (sameB p q)) ∧ Below w.heap.size w w' := by
  obtain ⟨W, hW⟩ : ∃ W, W = (w.alloc (.cells #[.int .i64 p.id, .int .i64 p.fr, .int .i64 p.dst, .slice A p.body.length c] 37)).alloc (.cells #[.int .i64 q.id, .int .i64 q.fr, .int .i64 q.dst, .slice A' q.body.length c'] 37) := ⟨_, rfl⟩
  have HB : Hid (Below w.heap.size w W) := Lib.hid (by rw [hW]; exact (below_alloc _ _).alloc (by simp) _)
  have k1 : W.heap[w.heap.size]? = some (.cells #[.int .i64 p.id, .int .i64 p.fr, .int .i64 p.dst, .slice A p.body.length c] 37 (0, 0)) := by rw [hW]; exact heap_old _ (by simp) (heap_new w _)
  have k2 : W.heap[w.heap.size + 1]? = some (.cells #[.int .i64 q.id, .int .i64 q.fr, .int .i64 q.dst, .slice A' q.body.length c'] 37 (0, 0)) := by
    rw [hW]; have := heap_new (w.alloc (.cells #[.int .i64 p.id, .int .i64 p.fr, .int .i64 p.dst, .slice A p.body.length c] 37)) (.cells #[.int .i64 q.id, .int .i64 q.fr, .int .i64 q.dst, .slice A' q.body.length c'] 37); simpa using this
  have C1 := run_convert_byt (P := Try.prog) (src := 31) (dst := 9) Try.underlying31 Try.underlying5 Try.underlying9 _ c rfl (hy.later HB.out)
  have C2 := run_convert_byt (P := Try.prog) (src := 31) (dst := 9) Try.underlying31 Try.underlying5 Try.underlying9 _ c' rfl (hy'.later HB.out)
  have HW := Lib.hid hW
  have c10 : W.cell? ⟨w.heap.size, 0, none⟩ = some (.int .i64 p.id) := cell_of_row _ _ 0 _ _ _ k1
  have c11 : W.cell? ⟨w.heap.size, 1, none⟩ = some (.int .i64 p.fr) := cell_of_row _ _ 1 _ _ _ k1
  have c12 : W.cell? ⟨w.heap.size, 2, none⟩ = some (.int .i64 p.dst) := cell_of_row _ _ 2 _ _ _ k1
  have c13 : W.cell? ⟨w.heap.size, 3, none⟩ = some (.slice A p.body.length c) := cell_of_row _ _ 3 _ _ _ k1
  have c20 : W.cell? ⟨w.heap.size + 1, 0, none⟩ = some (.int .i64 q.id) := cell_of_row _ _ 0 _ _ _ k2
  have c21 : W.cell? ⟨w.heap.size + 1, 1, none⟩ = some (.int .i64 q.fr) := cell_of_row _ _ 1 _ _ _ k2
  have c22 : W.cell? ⟨w.heap.size + 1, 2, none⟩ = some (.int .i64 q.dst) := cell_of_row _ _ 2 _ _ _ k2
  have c23 : W.cell? ⟨w.heap.size + 1, 3, none⟩ = some (.slice A' q.body.length c') := cell_of_row _ _ 3 _ _ _ k2
  clear hW k1 k2 hy hy'
  go_enter Try.func14, Try.ntmps14
  go_wp2_with (rw [← HW.out])
  all_goals
    go_ret
    refine ⟨ret_bool ?_, HB.out⟩
    unfold sameB
    simp [*]
section
variable (w : World)
theorem find_nil (i : Int) : Calls Try.prog 31 #[.pointer none, .int .i64 i] w fun e w' => e = .returned (.tuple #[.int .i64 0, .int .i64 6]) ∧ w = w' := by
  go_enter Try.func31, Try.ntmps31
  go_wp2_with (go_at_call 26; refine Calls.mono (closed_nil _) ?_; rintro e w1 ⟨rfl, rfl⟩)
  go_ret2
  exact ⟨rfl, rfl⟩
theorem send_nil (a b : Int) (v : Value) : Calls Try.prog 10 #[.pointer none, .int .i64 a, .int .i64 b, v] w fun e w' => e = .returned (.tuple #[.int .i64 0, .int .i64 6]) ∧ w = w' := by
  go_enter Try.func10, Try.ntmps10
  go_wp2_with (go_at_call 26; refine Calls.mono (closed_nil _) ?_; rintro e w1 ⟨rfl, rfl⟩)
  go_ret2
  exact ⟨rfl, rfl⟩
theorem again_nil (i : Int) : Calls Try.prog 17 #[.pointer none, .int .i64 i] w fun e w' => e = .returned (.tuple #[.int .i64 0, .int .i64 6]) ∧ w = w' := by
  go_enter Try.func17, Try.ntmps17
  go_wp2_with (go_at_call 31; refine Calls.mono (find_nil _ _) ?_; rintro e w1 ⟨rfl, rfl⟩)
  go_ret2
  exact ⟨rfl, rfl⟩
theorem take_nil (i : Int) : Calls Try.prog 12 #[.pointer none, .int .i64 i] w fun e w' => e = .returned (.tuple #[.agg #[.int .i64 0, .int .i64 0, .int .i64 0, .slice none 0 0], .int .i64 6]) ∧ Below w.heap.size w w' := by
  have kz := cell_new w #[.int .i64 0, .int .i64 0, .int .i64 0, .slice none 0 0] 37 (0, 0)
  go_enter Try.func12, Try.ntmps12
  go_wp2_with (go_at_call 31; refine Calls.mono (find_nil _ _) ?_; rintro e w1 ⟨rfl, rfl⟩)
  exact bodyPost_ret (v := .tuple #[.agg #[.int .i64 0, .int .i64 0, .int .i64 0, .slice none 0 0], .int .i64 6]) (by simp [results, Try.results12, go_sem]) rfl ⟨rfl, below_alloc _ _⟩
theorem drop_nil (i : Int) : Calls Try.prog 15 #[.pointer none, .int .i64 i] w fun e w' => e = .returned (.int .i64 6) ∧ Below w.heap.size w w' := by
  go_enter Try.func15, Try.ntmps15
  go_wp2_with (go_at_call 12; refine Calls.mono (take_nil _ _) ?_; rintro e w1 ⟨rfl, hb⟩; have HB := Lib.hid hb; clear hb)
  go_ret
  exact ⟨rfl, HB.out.alloc HB.out.size _⟩
theorem part_nil (a b : Int) : Calls Try.prog 19 #[.pointer none, .int .i64 a, .int .i64 b] w fun e w' => e = .returned (.tuple #[.int .i64 0, .int .i64 6]) ∧ Below w.heap.size w w' := by
  go_enter Try.func19, Try.ntmps19
  go_wp2_with (go_at_call 26; refine Calls.mono (closed_nil _) ?_; rintro e w1 ⟨rfl, rfl⟩)
  go_ret2
  exact ⟨rfl, (below_alloc _ _).alloc (by simp) _⟩
theorem list_nil : Calls Try.prog 24 #[.pointer none] w fun e w' => e = .returned (.slice none 0 0) ∧ w = w' := by
  go_enter Try.func24, Try.ntmps24
  go_wp2_with (go_at_call 26; refine Calls.mono (closed_nil _) ?_; rintro e w1 ⟨rfl, rfl⟩)
  go_ret
  exact ⟨rfl, rfl⟩
theorem to_nil (a : Int) : Calls Try.prog 25 #[.pointer none, .int .i64 a] w fun e w' => e = .returned (.slice none 0 0) ∧ w = w' := by
  go_enter Try.func25, Try.ntmps25
  go_wp2_with (go_at_call 26; refine Calls.mono (closed_nil _) ?_; rintro e w1 ⟨rfl, rfl⟩)
  go_ret
  exact ⟨rfl, rfl⟩
theorem len_nil : Calls Try.prog 23 #[.pointer none] w fun e w' => e = .returned (.int .i64 0) ∧ w = w' := by
  go_enter Try.func23, Try.ntmps23
  go_wp2_with (go_at_call 26; refine Calls.mono (closed_nil _) ?_; rintro e w1 ⟨rfl, rfl⟩)
  go_ret
  exact ⟨rfl, rfl⟩
theorem lost_nil : Calls Try.prog 22 #[.pointer none] w fun e w' => e = .returned (.int .i64 0) ∧ w = w' := by
  go_enter Try.func22, Try.ntmps22
  go_wp2_with (go_at_call 26; refine Calls.mono (closed_nil _) ?_; rintro e w1 ⟨rfl, rfl⟩)
  go_ret
  exact ⟨rfl, rfl⟩
end
set_option maxHeartbeats 4000000 in
set_option maxRecDepth 20000 in
theorem law_nobody (k i j : Int) (A0 : Option Addr) (n0 c0 : Nat) (w : World) :
    Calls Try.prog 5 #[.agg #[.int .i64 k, .int .i64 i, .int .i64 j, .slice A0 n0 c0]] w fun e w' => e = .returned (.bool true) ∧ Below w.heap.size w w' := by
  have HLi := Lib.hid (fun V => nlives_any V)
  obtain ⟨W, hW⟩ : ∃ W, W = w.alloc (.cells #[.int .i64 k, .int .i64 i, .int .i64 j, .slice A0 n0 c0] 33) := ⟨_, rfl⟩
  have HB : Hid (Below w.heap.size w W) := Lib.hid (by rw [hW]; exact below_alloc _ _)
  have kk : W.heap[w.heap.size]? = some (.cells #[.int .i64 k, .int .i64 i, .int .i64 j, .slice A0 n0 c0] 33 (0, 0)) := by rw [hW]; exact heap_new w _
  have HK := Lib.hid kk
  have HW := Lib.hid hW
  have HC : Hid (∀ V, Below W.heap.size W V → V.cell? ⟨w.heap.size, 1, none⟩ = some (.int .i64 i) ∧ V.cell? ⟨w.heap.size, 2, none⟩ = some (.int .i64 j) ∧ V.cell? ⟨w.heap.size, 3, none⟩ = some (.slice A0 n0 c0)) := Lib.hid (fun V hV =>
    ⟨cell_later hV (cell_of_row _ _ 1 _ _ _ kk), cell_later hV (cell_of_row _ _ 2 _ _ _ kk), cell_later hV (cell_of_row _ _ 3 _ _ _ kk)⟩)
  obtain ⟨a1, a2, a3⟩ := HC.out W (Below.refl _ _)
  clear hW kk
  go_enter Try.func5, Try.ntmps5
  go_wp2_with (first
    | rw [← HW.out]
    | (go_at_call 10; refine Calls.mono (send_nil _ _ _ _) ?_; rintro e w1 ⟨rfl, rfl⟩)
    | (go_at_call 12; refine Calls.mono (take_nil _ _) ?_; rintro e w1 ⟨rfl, hb⟩; have HB1 := Lib.hid (hb.alloc hb.size (.cells #[.int .i64 0, .int .i64 0, .int .i64 0, .slice none 0 0] 37)); have kz := heap_new w1 (.cells #[.int .i64 0, .int .i64 0, .int .i64 0, .slice none 0 0] 37); have HKz := Lib.hid kz; clear hb kz a1 a2 a3; obtain ⟨a1, a2, a3⟩ := HC.out _ HB1.out)
    | (go_at_call 17; refine Calls.mono (again_nil _ _) ?_; rintro e w2 ⟨rfl, rfl⟩)
    | (go_at_call 19; refine Calls.mono (part_nil _ _ _) ?_; rintro e w3 ⟨rfl, hb⟩; have HB3 := Lib.hid (HB1.out.trans (hb.mono HB1.out.size)); have k3 := (hb.block _ (heap_lt HKz.out)).trans HKz.out; have HK3 := Lib.hid k3; clear hb k3 a1 a2 a3)
    | (go_at_call 9; refine Calls.mono (HLi.out _) ?_; rintro e w4 ⟨rfl, hb⟩; have HB4 := Lib.hid (HB3.out.trans (hb.mono HB3.out.size)); have k4 := (hb.block _ (heap_lt HK3.out)).trans HK3.out; have z0 := cell_of_row _ _ 0 _ _ _ k4; have z1 := cell_of_row _ _ 1 _ _ _ k4; have z2 := cell_of_row _ _ 2 _ _ _ k4; have z3 := cell_of_row _ _ 3 _ _ _ k4; have HK4 := Lib.hid k4; clear hb k4; obtain ⟨a1, a2, a3⟩ := HC.out _ HB4.out)
    | (go_at_call 14; refine Calls.mono (same_any ⟨0, 0, 0, []⟩ ⟨0, 0, 0, []⟩ none none 0 0 _ (Byt.nil _ _) (Byt.nil _ _)) ?_; rintro e w5 ⟨rfl, hb⟩; have HB5 := Lib.hid (HB4.out.trans (hb.mono HB4.out.size)); clear hb a1 a2 a3 z0 z1 z2 z3; obtain ⟨a1, a2, a3⟩ := HC.out _ HB5.out; rw [show sameB ⟨0, 0, 0, []⟩ ⟨0, 0, 0, []⟩ = true from rfl])
    | (go_at_call 15; refine Calls.mono (drop_nil _ _) ?_; rintro e w6 ⟨rfl, hb⟩; have HB6 := Lib.hid (HB5.out.trans (hb.mono HB5.out.size)); clear hb a1 a2 a3; obtain ⟨a1, a2, a3⟩ := HC.out _ HB6.out)
    | (go_at_call 24; refine Calls.mono (list_nil _) ?_; rintro e w7 ⟨rfl, rfl⟩)
    | (go_at_call 25; refine Calls.mono (to_nil _ _) ?_; rintro e w8 ⟨rfl, rfl⟩)
    | (go_at_call 23; refine Calls.mono (len_nil _) ?_; rintro e w9 ⟨rfl, rfl⟩)
    | (go_at_call 22; refine Calls.mono (lost_nil _) ?_; rintro e w9 ⟨rfl, rfl⟩))
  go_ret
  exact ⟨rfl, HB.out.trans (HB6.out.mono HB.out.size)⟩
end Go.Proofs.Ytbmadhmcnjcdfaa
