/- Package exec: the reference's New, Find; how it refuses. -/
import Derived.Test.YtkdfkhebjhnbmaaExeP
set_option linter.unusedSimpArgs false
set_option linter.unusedVariables false
namespace Go.Proofs.Ytkdfkhebjhnbmaa
open Go.ChangeShapes Go.WideShapes Go.ChangeAt Go.RowKit Go.Base Go.Que Go.Exe

theorem rnew_bad {slots : Int} (h : slots < 1 ∨ 65536 < slots) (w : World) : Calls Try.prog 8 #[.int .i64 slots] w fun e w' => e = .returned (.tuple #[.pointer none, .int .i64 1]) ∧ w = w' := by
  by_cases h1 : slots < 1
  · clear h
    go_enter Try.func8, Try.ntmps8
    go_wp2
    go_ret2
    exact ⟨rfl, rfl⟩
  · have h2 : 65536 < slots := by omega
    clear h
    go_enter Try.func8, Try.ntmps8
    go_wp2
    go_ret2
    exact ⟨rfl, rfl⟩
theorem rnew_ok {slots : Int} (h1 : 1 ≤ slots) (h2 : slots ≤ 65536) (w : World) : Calls Try.prog 8 #[.int .i64 slots] w fun e w' => e = .returned (.tuple #[.pointer (some ⟨w.heap.size, 0, none⟩), .int .i64 0]) ∧ RYP (fun _ => False) w' w.heap.size slots [] ∧ Below w.heap.size w w' := by
  have g1 : ¬ slots < 1 := by omega
  have g2 : ¬ 65536 < slots := by omega
  go_enter Try.func8, Try.ntmps8
  go_wp2
  go_ret2
  exact ⟨rfl, ⟨none, 0, heap_new w _, World.ownsRow_nil _ _ _ _, fun k hk => by cases hk⟩, below_alloc _ _⟩
/-- What Find answers. -/
def FindIs (L : List Rn) (k : Ky) (idx : Int) : Prop := (idx = -1 ∧ ∀ r ∈ L, r.key ≠ k) ∨ ∃ i, ∃ h : i < L.length, idx = (i : Int) ∧ L[i].key = k
set_option maxHeartbeats 2000000 in
set_option maxRecDepth 20000 in
theorem rfind_any {w : World} {y : Nat} {slots : Int} {L : List Rn} (h : RY w y slots L) (k : Ky) (hN : L.length ≤ 65536) :
    Calls Try.prog 18 #[.pointer (some ⟨y, 0, none⟩), kyV k] w fun e w' => ∃ idx, e = .returned (.int .i64 idx) ∧ FindIs L k idx ∧ Below w.heap.size w w' := by
  obtain ⟨kj, ko, kg⟩ := k
  obtain ⟨A, c, hy, ho⟩ := h
  have hyl := heap_lt hy
  obtain ⟨n, hn⟩ : ∃ n, n = L.length := ⟨_, rfl⟩
  have HRd := Lib.hid (fun V (hV : Below w.heap.size w V) => (rd_of ho rfl).later hV)
  have HY := Lib.hid (fun V (hV : Below w.heap.size w V) => show V.cell? ⟨y, 1, none⟩ = some (.slice A n c) by rw [hn]; exact cell_later hV (cell_of_row _ _ 1 _ _ _ hy))
  have HKb : Hid (∀ V, Below (w.alloc (.cells #[.string kj, .int .i64 ko, .int .i64 kg] 32)).heap.size (w.alloc (.cells #[.string kj, .int .i64 ko, .int .i64 kg] 32)) V → V.heap[w.heap.size]? = some (.cells #[.string kj, .int .i64 ko, .int .i64 kg] 32 (0, 0)) ∧ Below w.heap.size w V) := Lib.hid (fun V hV => ⟨(hV.block _ (by simp)).trans (heap_new w _), (below_alloc w _).trans (hV.mono (by simp))⟩)
  rw [← hn] at hN
  have HN := Lib.hid hn
  have hyes := key_eql_yes
  clear hy ho hn
  go_enter Try.func18, Try.ntmps18
  go_wp2_with fail
  go_loopw [5] (fun iv wr => ∃ i : Nat, i ≤ n ∧ iv = .int .i64 (i : Int) ∧ Hid (Below (w.alloc (.cells #[.string kj, .int .i64 ko, .int .i64 kg] 32)).heap.size (w.alloc (.cells #[.string kj, .int .i64 ko, .int .i64 kg] 32)) wr) ∧ Hid (∀ r ∈ L.take i, r.key ≠ ⟨kj, ko, kg⟩)) (fun iv _ => n - (intOf iv).toNat)
  case atStart => exact ⟨0, by omega, rfl, Lib.hid (Below.refl _ _), Lib.hid (fun r hr => by simp at hr)⟩
  case round =>
    obtain ⟨i, hi, rfl, HB, HT⟩ := hrel
    have hi0 : (0 : Int) ≤ (i : Int) := by omega
    obtain ⟨kb, hbw⟩ := HKb.out _ HB.out
    have HBw := Lib.hid hbw
    have cy := HY.out _ hbw
    by_cases hid : i < n
    · have hid' : (i : Int) < (n : Int) := by omega
      have hil : i < L.length := by rw [← HN.out]; exact hid
      obtain ⟨g1, hA1, hc1⟩ := HRd.out _ hbw i hil
      have HTk : Hid (∀ r ∈ L.take (i + 1), r = L[i] ∨ r ∈ L.take i) := Lib.hid (fun r hr => by
        rw [List.take_succ_eq_append_getElem hil] at hr
        rcases List.mem_append.1 hr with h | h
        · exact .inr h
        · rw [List.mem_singleton] at h; exact .inl h)
      have HFi : Hid (L[i].key = ⟨kj, ko, kg⟩ → FindIs L ⟨kj, ko, kg⟩ (i : Int)) := Lib.hid (fun e => .inr ⟨i, hil, rfl, e⟩)
      obtain ⟨r, hr⟩ : ∃ r, r = L[i] := ⟨_, rfl⟩
      rw [← hr] at hc1 HTk HFi
      obtain ⟨⟨j, o, g⟩, u, num⟩ := r
      have a0 : wr.cell? ⟨g1, i * 4, none⟩ = some (.string j) := (hc1 0 (by omega)).trans rfl
      have a1 : wr.cell? ⟨g1, i * 4 + 1, none⟩ = some (.int .i64 o) := (hc1 1 (by omega)).trans rfl
      have a2 : wr.cell? ⟨g1, i * 4 + 2, none⟩ = some (.int .i64 g) := (hc1 2 (by omega)).trans rfl
      obtain ⟨y1, z1⟩ := cells_of_heap kb
      have b0 := y1 0
      have b1 := y1 1
      have b2 := y1 2
      clear hr hc1 hil y1 z1 kb hbw
      subst hA1
      by_cases hk : (⟨j, o, g⟩ : Ky) = ⟨kj, ko, kg⟩
      · injection hk with e1 e2 e3
        subst e1
        subst e2
        subst e3
        go_wp2
        go_quiet (fail)
        go_wp2
        go_ret
        exact ⟨_, rfl, HFi.out trivial, below_drewN HBw.out _⟩
      · have hno := fun V => key_eql_no hk V
        simp only [] at hno
        go_wp2
        go_quiet (fail)
        go_wp2
        go_roundw
        case rel => exact ⟨i + 1, by omega, by go_num, Lib.hid (below_drewN HB.out _), Lib.hid (fun r hr => by
          rcases HTk.out r hr with rfl | h
          · exact hk
          · exact HT.out r h)⟩
        case measure => simp [intOf]; omega
    · have hid' : ¬ (i : Int) < (n : Int) := by omega
      have hall : ∀ r ∈ L, r.key ≠ ⟨kj, ko, kg⟩ := fun r hr => HT.out r (by rw [List.take_of_length_le (by rw [← HN.out]; omega)]; exact hr)
      go_wp2
      go_ret
      exact ⟨_, rfl, .inl ⟨rfl, hall⟩, HBw.out⟩
end Go.Proofs.Ytkdfkhebjhnbmaa
