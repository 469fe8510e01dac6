/- Package exec: calls as the laws make them; the laws' own lives; a nil exec. -/
import Derived.Test.YtkdfkhebjhnbmaaExeH
import Derived.RangeFuncNested
import Derived.RangeFuncBound
set_option linter.unusedSimpArgs false
set_option linter.unusedVariables false
namespace Go.Proofs.Ytkdfkhebjhnbmaa
open Go.ChangeShapes Go.WideShapes Go.ChangeAt Go.RowKit Go.Base Go.Que Go.Exe

section
variable {F G K : Nat → Prop} {w w' : World} {x n : Nat} {slots started : Int} {L : List Rn}
theorem EX.free (h : EX F w x slots started L) : Calls Try.prog 21 #[.pointer (some ⟨x, 0, none⟩)] w fun e w' => e = .returned (.int .i64 (slots - (L.length : Int))) ∧ Below w.heap.size w w' := by
  obtain ⟨⟨nb, gb, q, DN, DG, K, hx⟩, hs⟩ := h
  exact xfree hx
theorem EX.get_hit (h : EX F w x slots started L) {r : Rn} (hr : r ∈ L) : Calls Try.prog 17 #[.pointer (some ⟨x, 0, none⟩), kyV r.key] w fun e w' => e = .returned (.tuple #[goV r, .bool true]) ∧ Below w.heap.size w w' := by
  obtain ⟨⟨nb, gb, q, DN, DG, K, hx⟩, hs⟩ := h
  exact xget_hit hx hr
theorem EX.get_miss (h : EX F w x slots started L) {k : Ky} (hk : kyfit k) (hn : ∀ r ∈ L, r.key ≠ k) : Calls Try.prog 17 #[.pointer (some ⟨x, 0, none⟩), kyV k] w fun e w' => e = .returned (.tuple #[zGo, .bool false]) ∧ Below w.heap.size w w' := by
  obtain ⟨⟨nb, gb, q, DN, DG, K, hx⟩, hs⟩ := h
  exact xget_miss hx hk hn
theorem EX.next (h : EX F w x slots started L) : Calls Try.prog 19 #[.pointer (some ⟨x, 0, none⟩)] w fun e w' => e = .returned (.tuple #[.int .i64 ((L.head?.map Rn.until_).getD 0), .bool (!L.isEmpty)]) ∧ Below w.heap.size w w' := by
  obtain ⟨⟨nb, gb, q, DN, DG, K, hx⟩, hs⟩ := h
  cases L with
  | nil => exact xnext hx (id := 0) (fun V hV => nextF_none (hx.later hV).que)
  | cons r l => exact xnext hx (id := r.num) (fun V hV => nextF (t := tmR r) (hx.later hV).que ⟨r, List.mem_cons_self .., rfl⟩ (ts_first hx.ok))
theorem EX.start_ok (h : EX F w x slots started L) {k : Ky} (hk : kyfit k) (hn : ∀ r ∈ L, r.key ≠ k) {u now : Int} (hu : now < u) (hi : i64 u) (hf : (L.length : Int) < slots) (hst : started + 1 < 4611686018427387904) :
    Calls Try.prog 10 #[.pointer (some ⟨x, 0, none⟩), kyV k, .int .i64 u, .int .i64 now] w (OpE F x slots (started + 1) (insR ⟨k, u, started + 1⟩ L) (.int .i64 0) w) := by
  obtain ⟨⟨nb, gb, q, DN, DG, K, hx⟩, hs⟩ := h
  exact Proofs.Ytkdfkhebjhnbmaa.start_ok hx hk hn hu hi hf hst
/-- Start refuses, and why. -/
def whyNot (slots : Int) (L : List Rn) (k : Ky) (u now : Int) (c : Int) : Prop := (u ≤ now ∧ c = 190) ∨ (now < u ∧ ∃ r ∈ L, r.key = k) ∧ c = 5 ∨ (now < u ∧ (∀ r ∈ L, r.key ≠ k) ∧ slots ≤ (L.length : Int)) ∧ c = 2
theorem EX.start_no (h : EX F w x slots started L) {k : Ky} (hk : kyfit k) {u now c : Int} (hw : whyNot slots L k u now c) :
    Calls Try.prog 10 #[.pointer (some ⟨x, 0, none⟩), kyV k, .int .i64 u, .int .i64 now] w (NoPost c w) := by
  obtain ⟨⟨nb, gb, q, DN, DG, K, hx⟩, hs⟩ := h
  rcases hw with ⟨h1, rfl⟩ | ⟨⟨h1, r, hr, rfl⟩, rfl⟩ | ⟨⟨h1, h2, h3⟩, rfl⟩
  · by_cases hm : ∃ r ∈ L, r.key = k
    · obtain ⟨r, hr, rfl⟩ := hm
      exact start_late hx (fun V hV => names_hit (hx.later hV) hr) h1
    · exact start_late hx (fun V hV => names_miss (hx.later hV) hk (fun r hr e => hm ⟨r, hr, e⟩)) h1
  · exact start_there hx hr h1
  · exact start_full hx hk h2 h1 h3
theorem EX.finish_hit (h : EX F w x slots started L) {r : Rn} (hr : r ∈ L) : Calls Try.prog 12 #[.pointer (some ⟨x, 0, none⟩), kyV r.key] w (OpE F x slots started (del L r.num) (.int .i64 0) w) := by
  obtain ⟨⟨nb, gb, q, DN, DG, K, hx⟩, hs⟩ := h
  exact xfinish_hit hx hr
theorem EX.finish_miss (h : EX F w x slots started L) {k : Ky} (hk : kyfit k) (hn : ∀ r ∈ L, r.key ≠ k) : Calls Try.prog 12 #[.pointer (some ⟨x, 0, none⟩), kyV k] w fun e w' => e = .returned (.int .i64 4) ∧ Below w.heap.size w w' := by
  obtain ⟨⟨nb, gb, q, DN, DG, K, hx⟩, hs⟩ := h
  exact xfinish_miss hx hk hn
end
/-! ### a nil exec -/
theorem free_nil (w : World) : Calls Try.prog 21 #[.pointer none] w fun e w' => e = .returned (.int .i64 0) ∧ w = w' := by
  go_enter Try.func21, Try.ntmps21
  go_wp2_with (go_at_call 23; refine Calls.mono (xclosed_nil _) ?_; rintro e w1 ⟨rfl, rfl⟩)
  go_ret
  exact ⟨rfl, rfl⟩
theorem get_nil (k : Ky) (w : World) : Calls Try.prog 17 #[.pointer none, kyV k] w fun e w' => e = .returned (.tuple #[zGo, .bool false]) ∧ Below w.heap.size w w' := by
  obtain ⟨j, o, g⟩ := k
  go_enter Try.func17, Try.ntmps17
  go_wp2_with (go_at_call 23; refine Calls.mono (xclosed_nil _) ?_; rintro e w1 ⟨rfl, rfl⟩)
  exact bodyPost_ret (v := .tuple #[zGo, .bool false]) (by simp [results, Try.results17, go_sem]) rfl ⟨rfl, (below_alloc _ _).alloc (by simp) _⟩
theorem next_nil2 (w : World) : Calls Try.prog 19 #[.pointer none] w fun e w' => e = .returned (.tuple #[.int .i64 0, .bool false]) ∧ w = w' := by
  go_enter Try.func19, Try.ntmps19
  go_wp2_with (go_at_call 23; refine Calls.mono (xclosed_nil _) ?_; rintro e w1 ⟨rfl, rfl⟩)
  go_ret2
  exact ⟨rfl, rfl⟩
theorem start_nil (k : Ky) (u now : Int) (w : World) : Calls Try.prog 10 #[.pointer none, kyV k, .int .i64 u, .int .i64 now] w (NoPost 6 w) := by
  obtain ⟨j, o, g⟩ := k
  go_enter Try.func10, Try.ntmps10
  go_wp2_with (go_at_call 23; refine Calls.mono (xclosed_nil _) ?_; rintro e w1 ⟨rfl, rfl⟩)
  go_ret
  exact ⟨rfl, below_alloc _ _⟩
theorem finish_nil (k : Ky) (w : World) : Calls Try.prog 12 #[.pointer none, kyV k] w (NoPost 6 w) := by
  obtain ⟨j, o, g⟩ := k
  go_enter Try.func12, Try.ntmps12
  go_wp2_with (go_at_call 23; refine Calls.mono (xclosed_nil _) ?_; rintro e w1 ⟨rfl, rfl⟩)
  go_ret
  exact ⟨rfl, below_alloc _ _⟩
theorem kill_nil (now : Int) (w : World) : Calls Try.prog 15 #[.pointer none, .int .i64 now] w fun e w' => e = .returned (.slice none 0 0) ∧ w = w' := by
  go_enter Try.func15, Try.ntmps15
  go_wp2_with (go_at_call 23; refine Calls.mono (xclosed_nil _) ?_; rintro e w1 ⟨rfl, rfl⟩)
  go_ret
  exact ⟨rfl, rfl⟩
theorem xall_nil (w : World) : Calls Try.prog 20 #[.pointer none] w fun e w' => e = .returned (.slice none 0 0) ∧ Below w.heap.size w w' := by
  go_enter Try.func20, Try.ntmps20
  go_wp2_with (go_at_call 23; refine Calls.mono (xclosed_nil _) ?_; rintro e w1 ⟨rfl, rfl⟩)
  go_ret
  exact ⟨rfl, below_alloc _ _⟩
/-! ### lives -/
def kA : Ky := ⟨⟨#[97]⟩, 0, 0⟩
def kB : Ky := ⟨⟨#[98]⟩, 0, 0⟩
def rA : Rn := ⟨kA, 9, 1⟩
theorem kA_fit : kyfit kA := ⟨by decide, ⟨by decide, by decide⟩, ⟨by decide, by decide⟩⟩
theorem kB_fit : kyfit kB := ⟨by decide, ⟨by decide, by decide⟩, ⟨by decide, by decide⟩⟩
theorem kB_kA : rA.key ≠ kB := fun e => by
  have h1 := congrArg (fun k : Ky => k.job.data.toList) e
  simp [rA, kA, kB] at h1
end Go.Proofs.Ytkdfkhebjhnbmaa
