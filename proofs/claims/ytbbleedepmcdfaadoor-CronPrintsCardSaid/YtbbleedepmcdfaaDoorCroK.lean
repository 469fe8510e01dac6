/- Walks of package cron: the readers of the five fields; a spec of five marks. -/
import Derived.Test.YtbbleedepmcdfaaDoorCroJ
import Derived.Laws.EntriesVeiled
set_option linter.unusedSimpArgs false
set_option linter.unusedVariables false
namespace Go.Proofs.YtbbleedepmcdfaaDoor
open Go.ChangeShapes Go.WideShapes Go.ChangeAt Go.RowKit Go.Base Go.Cro Go.Shelf

theorem named_call (nm : ByteArray) (n : Int) (w : World) : Calls Tryd.prog 38 #[.string nm, .int .i64 n] w fun e w' => e = .returned (.func (.func 57) #[] #[.pointer (some ⟨w.heap.size, 0, none⟩), .pointer (some ⟨w.heap.size + 1, 0, none⟩)]) ∧ w' = (w.alloc (.cells #[.string nm] 9)).alloc (.cells #[.int .i64 n] 3) := by
  go_enter Tryd.func38, Tryd.ntmps38
  go_wp2
  go_ret
  exact ⟨rfl, rfl⟩

/-- The five readers. -/
def Rds (w : World) (rs : Array Value) : Prop := ∃ rv3 rv4, rs = #[.func (.func 37) #[] #[], .func (.func 37) #[] #[], .func (.func 37) #[] #[], rv3, rv4] ∧ rv3.oneCell' = true ∧ rv4.oneCell' = true ∧ IsRd w rv3 3 ∧ IsRd w rv4 4

set_option maxHeartbeats 1000000 in
theorem readers_any (w : World) : Calls Tryd.prog 21 #[] w fun e w' => ∃ a3 b3 a4 b4 : Addr, e = .returned (.agg #[.func (.func 37) #[] #[], .func (.func 37) #[] #[], .func (.func 37) #[] #[], .func (.func 57) #[] #[.pointer (some a3), .pointer (some b3)], .func (.func 57) #[] #[.pointer (some a4), .pointer (some b4)]]) ∧
    (w'.cell? a3 = some (.string monthsT) ∧ w'.cell? b3 = some (.int .i64 1) ∧ w'.cell? a4 = some (.string weekT) ∧ w'.cell? b4 = some (.int .i64 0)) ∧ (w.heap.size ≤ a3.block ∧ w.heap.size ≤ b3.block ∧ w.heap.size ≤ a4.block ∧ w.heap.size ≤ b4.block) ∧ Below w.heap.size w w' := by
  have H1 := Lib.hid (named_call monthsT 1)
  have H2 := Lib.hid (named_call weekT 0)
  unfold monthsT at H1
  unfold weekT at H2
  go_enter Tryd.func21, Tryd.ntmps21
  go_wp2_with fail
  refine (H1.out _).mono ?_
  rintro e w1 ⟨rfl, rfl⟩
  go_wp2_with fail
  refine (H2.out _).mono ?_
  rintro e w1 ⟨rfl, rfl⟩
  have hW : ∀ o1 o2 o3 o4, ((((w.alloc (.cells #[.nilFunc, .nilFunc, .nilFunc, .nilFunc, .nilFunc] 47)).alloc o1).alloc o2).alloc o3 |>.alloc o4).heap[w.heap.size]? = some (.cells #[.nilFunc, .nilFunc, .nilFunc, .nilFunc, .nilFunc] 47 (0, 0)) := fun _ _ _ _ => by
    iterate 4 (refine heap_old _ (by simp <;> omega) ?_)
    exact heap_at _ (by simp)
  go_wp2_with (refine wpList_store_new rfl 47 (.tmp 0) (.tmp 3) rfl w.heap.size #[.func (.func 37) #[] #[], .func (.func 37) #[] #[], .func (.func 37) #[] #[], .func (.func 57) #[] #[.pointer (some ⟨w.heap.size + 1, 0, none⟩), .pointer (some ⟨w.heap.size + 1 + 1, 0, none⟩)], .func (.func 57) #[] #[.pointer (some ⟨w.heap.size + 1 + 1 + 1, 0, none⟩), .pointer (some ⟨w.heap.size + 1 + 1 + 1 + 1, 0, none⟩)]] rfl rfl 47 #[.nilFunc, .nilFunc, .nilFunc, .nilFunc, .nilFunc] (hW _ _ _ _) (by kernel_rfl) rfl rfl ?_)
  intro w2 s2 b2 r2 o2
  obtain ⟨c2, _⟩ := cells_of_heap r2
  have B2 := Lib.hid (b2 w.heap.size w ((((below_alloc _ _).alloc (by simp) _).alloc (by simp; omega) _).alloc (by simp; omega) _ |>.alloc (by simp; omega) _) (Nat.le_refl _))
  obtain ⟨k2, _⟩ := cells_of_other o2
  have q1 : w2.cell? ⟨w.heap.size + 1, 0, none⟩ = some (.string monthsT) := by rw [k2 _ _ (by omega)]; unfold monthsT; simp [go_sem]
  have q2 : w2.cell? ⟨w.heap.size + 1 + 1, 0, none⟩ = some (.int .i64 1) := by rw [k2 _ _ (by omega)]; simp [go_sem]
  have q3 : w2.cell? ⟨w.heap.size + 1 + 1 + 1, 0, none⟩ = some (.string weekT) := by rw [k2 _ _ (by omega)]; unfold weekT; simp [go_sem]
  have q4 : w2.cell? ⟨w.heap.size + 1 + 1 + 1 + 1, 0, none⟩ = some (.int .i64 0) := by rw [k2 _ _ (by omega)]; simp [go_sem]
  have HQ := Lib.hid (And.intro q1 (And.intro q2 (And.intro q3 q4)))
  clear s2 b2 r2 o2 k2 q1 q2 q3 q4 hW
  go_wp2_with fail
  exact bodyPost_ret (v := .agg #[.func (.func 37) #[] #[], .func (.func 37) #[] #[], .func (.func 37) #[] #[], .func (.func 57) #[] #[.pointer (some ⟨w.heap.size + 1, 0, none⟩), .pointer (some ⟨w.heap.size + 1 + 1, 0, none⟩)], .func (.func 57) #[] #[.pointer (some ⟨w.heap.size + 1 + 1 + 1, 0, none⟩), .pointer (some ⟨w.heap.size + 1 + 1 + 1 + 1, 0, none⟩)]]) (by simp [results, Tryd.results21, go_sem, c2]) rfl ⟨_, _, _, _, rfl, HQ.out, ⟨by show w.heap.size ≤ w.heap.size + 1; omega, by show w.heap.size ≤ w.heap.size + 1 + 1; omega, by show w.heap.size ≤ w.heap.size + 1 + 1 + 1; omega, by show w.heap.size ≤ w.heap.size + 1 + 1 + 1 + 1; omega⟩, B2.out⟩

/-- The marks of five fields, as the cells of their array. -/
def mk2 (m : Int × Bool) : List Value := [.int .u64 m.1, .bool m.2]
def specV (ms : List (Int × Bool)) : Value := .agg #[.int .u64 (ms.getD 0 (0, false)).1, .int .u64 (ms.getD 1 (0, false)).1, .int .u64 (ms.getD 2 (0, false)).1, .int .u64 (ms.getD 3 (0, false)).1, .int .u64 (ms.getD 4 (0, false)).1, .bool (ms.getD 2 (0, false)).2, .bool (ms.getD 4 (0, false)).2]
theorem specOf_any (b0 b1 b2 b3 b4 : Int) (t0 t1 t2 t3 t4 : Bool) (w : World) :
    Calls Tryd.prog 25 #[.agg #[.int .u64 b0, .bool t0, .int .u64 b1, .bool t1, .int .u64 b2, .bool t2, .int .u64 b3, .bool t3, .int .u64 b4, .bool t4]] w fun e w' => e = .returned (specV [(b0, t0), (b1, t1), (b2, t2), (b3, t3), (b4, t4)]) ∧ Below w.heap.size w w' := by
  have H : Hid (specV [(b0, t0), (b1, t1), (b2, t2), (b3, t3), (b4, t4)] = .agg #[.int .u64 b0, .int .u64 b1, .int .u64 b2, .int .u64 b3, .int .u64 b4, .bool t2, .bool t4]) := Lib.hid rfl
  rw [H.out]
  go_enter Tryd.func25, Tryd.ntmps25
  go_wp2
  exact bodyPost_ret (v := .agg #[.int .u64 b0, .int .u64 b1, .int .u64 b2, .int .u64 b3, .int .u64 b4, .bool t2, .bool t4]) (by simp [results, Tryd.results25, go_sem]) rfl ⟨rfl, by go_grown⟩
end Go.Proofs.YtbbleedepmcdfaaDoor
