/- Walks of package store: settle, cut, cutAtCrash. -/
import Derived.Test.YtobgiialecgpnaaStoD
import Derived.BigRegion
set_option linter.unusedSimpArgs false
set_option linter.unusedVariables false
namespace Go.Proofs.Ytobgiialecgpnaa
open Go.ChangeShapes Go.WideShapes Go.ChangeAt Go.RowKit Go.Base Go.Sto

def FilePost (a : Nat) (v : Value) (sure : Nat) (stays : Bool) (w : World) (e : Ending) (w' : World) : Prop :=
  e = .returned (.tuple #[]) ∧ w'.heap[a]? = some (.cells #[v, .int .i64 (sure : Int), .bool stays] 67 (0, 0)) ∧ Moved (fun k => k = a) w w' ∧ w'.heap.size = w.heap.size
theorem settle_any (a n c sure : Nat) (A : Option Addr) (stays : Bool) (w : World) (h : w.heap[a]? = some (.cells #[.slice A n c, .int .i64 (sure : Int), .bool stays] 67 (0, 0))) :
    Calls Try.prog 41 #[.pointer (some ⟨a, 0, none⟩)] w (FilePost a (.slice A n c) n true w) := by
  obtain ⟨hc, hf⟩ := cells_of_heap h
  have c0 := hc 0
  have c1 := hc 1
  have c2 := hc 2
  have f1 := hf 1
  have f2 := hf 2
  have H := Lib.hid h
  clear hc hf h
  go_enter Try.func41, Try.ntmps41
  go_wp2
  go_returns
  exact ⟨rfl, heap_set (heap_set H.out 1 _) 2 _, Moved.setCell (p := fun k => k = a) (Moved.setCell (p := fun k => k = a) (Moved.refl _ w) (.inr rfl) _) (.inr rfl) _, by simp⟩
theorem file_set3 {w : World} {a : Nat} {x y z v : Value} {sure : Nat} {stays : Bool} (h : w.heap[a]? = some (.cells #[x, y, z] 67 (0, 0))) :
    FilePost a v sure stays w (.returned (.tuple #[])) (((w.setCell ⟨a, 0, none⟩ v).setCell ⟨a, 1, none⟩ (.int .i64 (sure : Int))).setCell ⟨a, 2, none⟩ (.bool stays)).drew :=
  ⟨rfl, heap_set (heap_set (heap_set h 0 _) 1 _) 2 _, (Moved.setCell (p := fun k => k = a) (Moved.setCell (p := fun k => k = a) (Moved.setCell (p := fun k => k = a) (Moved.refl _ w) (.inr rfl) _) (.inr rfl) _) (.inr rfl) _).drew, by simp [World.drew]⟩
set_option maxHeartbeats 4000000 in
theorem cut_at (a n c sure m r : Nat) (z : Int) (A : Option Addr) (stays : Bool) (w : World) (h : w.heap[a]? = some (.cells #[.slice A n c, .int .i64 (sure : Int), .bool stays] 67 (0, 0))) (hz : ((n : Int) < z ∧ m = n) ∨ (z ≤ (n : Int) ∧ z = (m : Int))) (hc : n ≤ c) (hcm : c ≤ maxLen) (hr : (m < sure ∧ r = m) ∨ (sure ≤ m ∧ r = sure)) :
    Calls Try.prog 43 #[.pointer (some ⟨a, 0, none⟩), .int .i64 z] w (FilePost a (.slice A m c) r true w) := by
  obtain ⟨hc', hf⟩ := cells_of_heap h
  have c0 := hc' 0
  have c1 := hc' 1
  have c2 := hc' 2
  have f0 := hf 0
  have f1 := hf 1
  have f2 := hf 2
  have H := Lib.hid h
  unfold maxLen at hcm
  have hmn : m ≤ n := by omega
  have hm0 : (0 : Int) ≤ (m : Int) := by omega
  have hmc : (m : Int) ≤ (c : Int) := by omega
  clear hc' hf h
  rcases hz with ⟨hz, rfl⟩ | ⟨hz, rfl⟩
  · rcases hr with ⟨hr, rfl⟩ | ⟨hr, rfl⟩
    · have hr' : (r : Int) < (sure : Int) := by omega
      go_enter Try.func43, Try.ntmps43
      go_wp2
      go_region
      go_returns
      exact file_set3 H.out
    · have hr' : (r : Int) ≤ (m : Int) := by omega
      go_enter Try.func43, Try.ntmps43
      go_wp2
      go_region
      go_returns
      exact file_set3 H.out
  · have hz' : (m : Int) ≤ (n : Int) := hz
    rcases hr with ⟨hr, rfl⟩ | ⟨hr, rfl⟩
    · have hr' : (r : Int) < (sure : Int) := by omega
      go_enter Try.func43, Try.ntmps43
      go_wp2
      go_region
      go_returns
      exact file_set3 H.out
    · have hr' : (r : Int) ≤ (m : Int) := by omega
      go_enter Try.func43, Try.ntmps43
      go_wp2
      go_region
      go_returns
      exact file_set3 H.out
/-- What cut leaves: the first z bytes. -/
theorem cut_any (a n c sure m : Nat) (z : Int) (A : Option Addr) (stays : Bool) (w : World) (h : w.heap[a]? = some (.cells #[.slice A n c, .int .i64 (sure : Int), .bool stays] 67 (0, 0))) (hz : 0 ≤ z) (hm : m = min z.toNat n) (hc : n ≤ c) (hcm : c ≤ maxLen) :
    Calls Try.prog 43 #[.pointer (some ⟨a, 0, none⟩), .int .i64 z] w (FilePost a (.slice A m c) (min sure m) true w) :=
  cut_at a n c sure m (min sure m) z A stays w h (by omega) hc hcm (by omega)
set_option maxHeartbeats 4000000 in
theorem cutAtCrash_any (a n c sure m : Nat) (A : Option Addr) (stays : Bool) (w : World) (h : w.heap[a]? = some (.cells #[.slice A n c, .int .i64 (sure : Int), .bool stays] 67 (0, 0))) (hm : m ≤ n) (hc : n ≤ c) (hcm : c ≤ maxLen) :
    Calls Try.prog 46 #[.pointer (some ⟨a, 0, none⟩), .int .i64 (m : Int)] w (FilePost a (.slice A m c) m (stays || decide (0 < m)) w) := by
  obtain ⟨hc', hf⟩ := cells_of_heap h
  have c0 := hc' 0
  have c1 := hc' 1
  have c2 := hc' 2
  have f0 := hf 0
  have f1 := hf 1
  have f2 := hf 2
  have H := Lib.hid h
  unfold maxLen at hcm
  have hm0 : (0 : Int) ≤ (m : Int) := by omega
  have hmc : (m : Int) ≤ (c : Int) := by omega
  clear hc' hf h
  cases stays
  · by_cases h0 : 0 < m
    · have h0' : (0 : Int) < (m : Int) := by omega
      have e : (false || decide (0 < m)) = true := by simp [h0]
      rw [e]
      go_enter Try.func46, Try.ntmps46
      go_wp2
      go_region
      go_returns
      exact file_set3 H.out
    · obtain rfl : m = 0 := by omega
      rw [show (false || decide (0 < 0)) = false by rfl]
      go_enter Try.func46, Try.ntmps46
      go_wp2
      go_region
      go_returns
      exact file_set3 (sure := 0) H.out
  · rw [Bool.true_or]
    go_enter Try.func46, Try.ntmps46
    go_wp2
    go_region
    go_returns
    exact file_set3 H.out
end Go.Proofs.Ytobgiialecgpnaa
