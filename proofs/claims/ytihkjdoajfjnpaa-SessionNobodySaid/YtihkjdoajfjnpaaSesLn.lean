/- The law SessionNobody, walked: every call of a nil session. -/
import Derived.Test.YtihkjdoajfjnpaaSesY
import Derived.Test.YtihkjdoajfjnpaaSesOps
set_option linter.unusedSimpArgs false
set_option linter.unusedVariables false
namespace Go.Proofs.Ytihkjdoajfjnpaa
open Go.ChangeShapes Go.WideShapes Go.ChangeAt Go.RowKit Go.Base Go.Ses

theorem ready_nil (w : World) : Calls Try.prog 13 #[.pointer none] w fun e w' => e = .returned (.bool false) ∧ w = w' := by
  have HC := Lib.hid (closed_nil w)
  go_enter Try.func13, Try.ntmps13
  go_wp2_with (go_at_call 19; refine Calls.mono HC.out ?_; rintro e w2 ⟨rfl, rfl⟩)
  go_ret
  exact ⟨rfl, rfl⟩
theorem yours_nil (w : World) : Calls Try.prog 14 #[.pointer none] w fun e w' => e = .returned (.int .i64 0) ∧ w = w' := by
  have HC := Lib.hid (closed_nil w)
  go_enter Try.func14, Try.ntmps14
  go_wp2_with (go_at_call 19; refine Calls.mono HC.out ?_; rintro e w2 ⟨rfl, rfl⟩)
  go_ret
  exact ⟨rfl, rfl⟩
theorem pending_nil (w : World) : Calls Try.prog 15 #[.pointer none] w fun e w' => e = .returned (.int .i64 0) ∧ w = w' := by
  have HC := Lib.hid (closed_nil w)
  go_enter Try.func15, Try.ntmps15
  go_wp2_with (go_at_call 19; refine Calls.mono HC.out ?_; rintro e w2 ⟨rfl, rfl⟩)
  go_ret
  exact ⟨rfl, rfl⟩
theorem send_nil (A : Option Addr) (n c : Nat) (w : World) : Calls Try.prog 11 #[.pointer none, .slice A n c] w fun e w' => e = .returned (.int .i64 6) ∧ w = w' := by
  have HC := Lib.hid (closed_nil w)
  go_enter Try.func11, Try.ntmps11
  go_wp2_with (go_at_call 19; refine Calls.mono HC.out ?_; rintro e w2 ⟨rfl, rfl⟩)
  go_ret
  exact ⟨rfl, rfl⟩
set_option maxHeartbeats 1000000 in
theorem on_nil (e0 e1 e2 e3 e4 : Int) (A : Option Addr) (n c : Nat) (w : World) : Calls Try.prog 10 #[.pointer none, .agg #[.int .i64 e0, .int .i64 e1, .int .i64 e2, .int .i64 e3, .int .i64 e4, .slice A n c]] w fun e w' => e = .returned (.tuple #[.slice none 0 0, .bool false, .int .i64 6]) ∧ Below w.heap.size w w' := by
  have HC := Lib.hid (fun w => closed_nil w)
  obtain ⟨W1, hW1⟩ : ∃ W1, W1 = w.alloc (.cells #[.int .i64 e0, .int .i64 e1, .int .i64 e2, .int .i64 e3, .int .i64 e4, .slice A n c] 29) := ⟨_, rfl⟩
  have hb : Below w.heap.size w W1 := by rw [hW1]; exact below_alloc _ _
  have HW := Lib.hid hW1
  have HB := Lib.hid hb
  clear hW1 hb
  go_enter Try.func10, Try.ntmps10
  go_wp2_with (first | rw [← HW.out] | (go_at_call 19; refine Calls.mono (HC.out _) ?_; rintro e w2 ⟨rfl, rfl⟩))
  go_ret3
  exact ⟨rfl, HB.out⟩
set_option maxHeartbeats 1000000 in
theorem tick_nil (now : Int) (w : World) : Calls Try.prog 12 #[.pointer none, .int .i64 now] w fun e w' => e = .returned (.slice none 0 0) ∧ Below w.heap.size w w' := by
  have HC := Lib.hid (fun w => closed_nil w)
  go_enter Try.func12, Try.ntmps12
  go_wp2_with (go_at_call 19; refine Calls.mono (HC.out _) ?_; rintro e w2 ⟨rfl, rfl⟩)
  go_ret
  exact ⟨rfl, below_alloc _ _⟩
set_option maxHeartbeats 4000000 in
set_option maxRecDepth 20000 in
theorem law_nobody (x : SOp) (w : World) : Calls Try.prog 4 #[.agg x.vals.toArray] w fun e w' => e = .returned (.bool true) ∧ Below w.heap.size w w' := by
  obtain ⟨k, sd, now, bA, bl, bc, e0, e1, e2, e3, e4, eA, el, ec⟩ := x
  obtain ⟨nb, hnb⟩ : ∃ k, k = bl.length := ⟨_, rfl⟩
  obtain ⟨ne, hne⟩ : ∃ k, k = el.length := ⟨_, rfl⟩
  show Calls _ _ #[.agg #[.int .i64 k, .int .i64 sd, .slice bA bl.length bc, .int .i64 e0, .int .i64 e1, .int .i64 e2, .int .i64 e3, .int .i64 e4, .slice eA el.length ec, .int .i64 now]] _ _
  rw [← hnb, ← hne]
  obtain ⟨W1, hW1⟩ : ∃ W1, W1 = w.alloc (.cells #[.int .i64 k, .int .i64 sd, .slice bA nb bc, .int .i64 e0, .int .i64 e1, .int .i64 e2, .int .i64 e3, .int .i64 e4, .slice eA ne ec, .int .i64 now] 31) := ⟨_, rfl⟩
  have hb1 : Below w.heap.size w W1 := by rw [hW1]; exact below_alloc _ _
  have k1 : W1.heap[w.heap.size]? = some (.cells #[.int .i64 k, .int .i64 sd, .slice bA nb bc, .int .i64 e0, .int .i64 e1, .int .i64 e2, .int .i64 e3, .int .i64 e4, .slice eA ne ec, .int .i64 now] 31 (0, 0)) := by rw [hW1]; exact heap_new w _
  have HW := Lib.hid hW1
  have HB1 := Lib.hid hb1
  have HK1 := Lib.hid k1
  have c2 : W1.cell? ⟨w.heap.size, 2, none⟩ = some (.slice bA nb bc) := cell_of_row _ _ 2 _ _ _ k1
  have c3 : W1.cell? ⟨w.heap.size, 3, none⟩ = some (.int .i64 e0) := cell_of_row _ _ 3 _ _ _ k1
  have c4 : W1.cell? ⟨w.heap.size, 4, none⟩ = some (.int .i64 e1) := cell_of_row _ _ 4 _ _ _ k1
  have c5 : W1.cell? ⟨w.heap.size, 5, none⟩ = some (.int .i64 e2) := cell_of_row _ _ 5 _ _ _ k1
  have c6 : W1.cell? ⟨w.heap.size, 6, none⟩ = some (.int .i64 e3) := cell_of_row _ _ 6 _ _ _ k1
  have c7 : W1.cell? ⟨w.heap.size, 7, none⟩ = some (.int .i64 e4) := cell_of_row _ _ 7 _ _ _ k1
  have c8 : W1.cell? ⟨w.heap.size, 8, none⟩ = some (.slice eA ne ec) := cell_of_row _ _ 8 _ _ _ k1
  have HOn := Lib.hid (on_nil e0 e1 e2 e3 e4 eA ne ec W1)
  clear hW1 hb1 k1 hnb hne
  go_enter Try.func4, Try.ntmps4
  go_wp2_with (first
    | (rw [← HW.out])
    | (go_at_call 10; refine Calls.mono (by with_reducible exact HOn.out) ?_; rintro e w2 ⟨rfl, hb2⟩; have HB2 := Lib.hid hb2; have HLv := Lib.hid (lives_any w2); clear c2 c3 c4 c5 c6 c7 c8 hb2)
    | (go_at_call 7; refine Calls.mono (by with_reducible exact HLv.out) ?_; rintro e w3 ⟨rfl, hb3⟩; have hbx := HB2.out.trans (hb3.mono HB2.out.size); have k3 := (hbx.block _ (heap_lt HK1.out)).trans HK1.out; have HB3 := Lib.hid (HB1.out.trans (hbx.mono HB1.out.size)); have HK3 := Lib.hid k3; have c2 : w3.cell? ⟨w.heap.size, 2, none⟩ = some (.slice bA nb bc) := cell_of_row _ _ 2 _ _ _ k3; have c9 : w3.cell? ⟨w.heap.size, 9, none⟩ = some (.int .i64 now) := cell_of_row _ _ 9 _ _ _ k3; have HSn := Lib.hid (send_nil bA nb bc w3); have HTn := Lib.hid (tick_nil now w3); clear hb3 hbx k3)
    | (go_at_call 11; refine Calls.mono (by with_reducible exact HSn.out) ?_; rintro e w5 ⟨rfl, rfl⟩)
    | (go_at_call 12; refine Calls.mono (by with_reducible exact HTn.out) ?_; rintro e w4 ⟨rfl, hb4⟩; have HB4 := Lib.hid (HB3.out.trans (hb4.mono HB3.out.size)); have HR := Lib.hid (ready_nil w4); have HY := Lib.hid (yours_nil w4); have HP := Lib.hid (pending_nil w4); clear c2 c9 hb4)
    | (go_at_call 13; refine Calls.mono (by with_reducible exact HR.out) ?_; rintro e w5 ⟨rfl, rfl⟩)
    | (go_at_call 14; refine Calls.mono (by with_reducible exact HY.out) ?_; rintro e w5 ⟨rfl, rfl⟩)
    | (go_at_call 15; refine Calls.mono (by with_reducible exact HP.out) ?_; rintro e w5 ⟨rfl, rfl⟩))
  go_ret
  exact ⟨rfl, HB4.out⟩
end Go.Proofs.Ytihkjdoajfjnpaa
