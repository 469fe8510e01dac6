/- Walks of package net: closed, arePlaces, Len, Lost, New; the search by Ids. -/
import Derived.Test.YtbmadhmcnjcdfaaNetB
set_option linter.unusedSimpArgs false
set_option linter.unusedVariables false
namespace Go.Proofs.Ytbmadhmcnjcdfaa
open Go.ChangeShapes Go.WideShapes Go.ChangeAt Go.RowKit Go.Base Go.Net

theorem nan_any (x : Int) (w : World) : Calls Try.prog 43 #[.int .i64 x] w fun e w' => e = .returned (.bool false) ∧ w = w' := by
  go_enter Try.func43, Try.ntmps43
  go_wp2
  go_ret
  exact ⟨rfl, rfl⟩
def cmpI (x y : Int) : Int := if x < y then -1 else if y < x then 1 else 0
theorem compare_any (x y : Int) (w : World) : Calls Try.prog 41 #[.int .i64 x, .int .i64 y] w fun e w' => e = .returned (.int .i64 (cmpI x y)) ∧ w = w' := by
  go_enter Try.func41, Try.ntmps41
  by_cases h1 : x < y
  · go_wp2_with (go_at_call 43; refine Calls.mono (nan_any _ _) ?_; rintro e w1 ⟨rfl, rfl⟩)
    go_ret
    exact ⟨ret_int (by unfold cmpI; rw [if_pos h1]), rfl⟩
  · by_cases h2 : y < x
    · go_wp2_with (go_at_call 43; refine Calls.mono (nan_any _ _) ?_; rintro e w1 ⟨rfl, rfl⟩)
      go_ret
      exact ⟨ret_int (by unfold cmpI; rw [if_neg (by omega), if_pos h2]), rfl⟩
    · go_wp2_with (go_at_call 43; refine Calls.mono (nan_any _ _) ?_; rintro e w1 ⟨rfl, rfl⟩)
      go_ret
      exact ⟨ret_int (by unfold cmpI; rw [if_neg (by omega), if_neg (by omega)]), rfl⟩
theorem by_id (a b c d : Value) (x i : Int) (w : World) (ha : a = .int .i64 x) : Calls Try.prog 40 #[.agg #[a, b, c, d], .int .i64 i] w fun e w' => e = .returned (.int .i64 (cmpI x i)) ∧ Below w.heap.size w w' := by
  subst ha
  go_enter Try.func40, Try.ntmps40
  go_wp2_with (go_at_call 41; refine Calls.mono (compare_any _ _ _) ?_; rintro e w1 ⟨rfl, rfl⟩)
  go_ret
  exact ⟨rfl, below_alloc _ _⟩
section
variable {T : TypeId} {F G : Nat → Prop} {w w' : World} {p : Nat} {s : St} {A : Option Addr} {c : Nat} {vs : List PkV} {x : PkV}
theorem closed_nil (w : World) : Calls Try.prog 26 #[.pointer none] w fun e w' => e = .returned (.bool true) ∧ w = w' := by
  go_enter Try.func26, Try.ntmps26
  go_wp2
  go_ret
  exact ⟨rfl, rfl⟩
theorem closed_any (h : NetX T w F p s A c vs) : Calls Try.prog 26 #[.pointer (some ⟨p, 0, none⟩)] w fun e w' => e = .returned (.bool false) ∧ w = w' := by
  obtain ⟨c0, c1, c2, c3⟩ := h.cells
  have h0 := h.good.p0
  have hne : (s.places == 0) = false := by simp; omega
  clear h
  go_enter Try.func26, Try.ntmps26
  go_wp2
  go_ret
  exact ⟨rfl, rfl⟩
def areB (s : St) (a b : Int) : Bool := decide (isP s a ∧ isP s b)
theorem places_any (h : NetX T w F p s A c vs) (a b : Int) : Calls Try.prog 27 #[.pointer (some ⟨p, 0, none⟩), .int .i64 a, .int .i64 b] w fun e w' => e = .returned (.bool (areB s a b)) ∧ w = w' := by
  obtain ⟨c0, c1, c2, c3⟩ := h.cells
  clear h
  obtain ⟨N, hN⟩ : ∃ N, N = s.places := ⟨_, rfl⟩
  rw [← hN] at c0
  have HN := Lib.hid hN
  clear hN
  go_enter Try.func27, Try.ntmps27
  go_wp2
  all_goals
    go_ret
    refine ⟨ret_bool ?_, rfl⟩
    have hN := HN.out
    rw [Bool.eq_iff_iff]
    simp only [areB, decide_eq_true_eq, Bool.false_eq_true]
    unfold isP
    first | omega | (refine ⟨fun h => h.elim, fun h => ?_⟩; omega)
theorem len_any (h : NetX T w F p s A c vs) : Calls Try.prog 23 #[.pointer (some ⟨p, 0, none⟩)] w fun e w' => e = .returned (.int .i64 (s.l.length : Int)) ∧ w = w' := by
  have HC := Lib.hid (closed_any h)
  obtain ⟨c0, c1, c2, c3⟩ := h.cells
  rw [← h.len]
  clear h
  go_enter Try.func23, Try.ntmps23
  go_wp2_with (go_at_call 26; refine Calls.mono HC.out ?_; rintro e w1 ⟨rfl, rfl⟩)
  go_ret
  exact ⟨rfl, rfl⟩
theorem lost_any (h : NetX T w F p s A c vs) : Calls Try.prog 22 #[.pointer (some ⟨p, 0, none⟩)] w fun e w' => e = .returned (.int .i64 s.lost) ∧ w = w' := by
  have HC := Lib.hid (closed_any h)
  obtain ⟨c0, c1, c2, c3⟩ := h.cells
  clear h
  go_enter Try.func22, Try.ntmps22
  go_wp2_with (go_at_call 26; refine Calls.mono HC.out ?_; rintro e w1 ⟨rfl, rfl⟩)
  go_ret
  exact ⟨rfl, rfl⟩
def NewPost (n : Int) (w : World) (e : Ending) (w' : World) : Prop :=
  if 1 ≤ n ∧ n ≤ 65537 then ∃ p : Nat, e = .returned (.tuple #[.pointer (some ⟨p, 0, none⟩), .int .i64 0]) ∧ NT 55 (fun k => w.heap.size ≤ k) w' p ⟨n, 0, 0, []⟩ ∧ Below w.heap.size w w'
  else e = .returned (.tuple #[.pointer none, .int .i64 1]) ∧ w = w'
theorem nt_new {n : Int} (h0 : 1 ≤ n) (h1 : n ≤ 65537) (hT : T ≠ 37 ∧ T ≠ 5) (hs : w.heap[p]? = some (.cells #[.int .i64 n, .slice none 0 0, .int .i64 0, .int .i64 0] T (0, 0))) (hF : F p) : NT T F w p ⟨n, 0, 0, []⟩ :=
  ⟨none, 0, [], ⟨good_new h0 h1, rfl, hs, World.ownsRow_nil _ _ _ _, ⟨hF, (fun k hk => by cases hk)⟩, (fun x hx => by cases hx), hT⟩⟩
theorem new_any (n : Int) (w : World) : Calls Try.prog 7 #[.int .i64 n] w (NewPost n w) := by
  by_cases h : 1 ≤ n ∧ n ≤ 65537
  · obtain ⟨h0, h1⟩ := h
    go_enter Try.func7, Try.ntmps7
    go_wp2
    go_ret2
    unfold NewPost
    rw [if_pos ⟨h0, h1⟩]
    exact ⟨_, rfl, nt_new h0 h1 (by decide) (heap_new w _) (Nat.le_refl _), below_alloc _ _⟩
  · by_cases h0 : 1 ≤ n
    · have h1 : ¬ n ≤ 65537 := fun h1 => h ⟨h0, h1⟩
      go_enter Try.func7, Try.ntmps7
      go_wp2
      go_ret2
      unfold NewPost
      rw [if_neg h]
      exact ⟨rfl, rfl⟩
    · go_enter Try.func7, Try.ntmps7
      go_wp2
      go_ret2
      unfold NewPost
      rw [if_neg h]
      exact ⟨rfl, rfl⟩
end
end Go.Proofs.Ytbmadhmcnjcdfaa
