/- Sets of small numbers as bits: their members, one after the other, on both ways; how many there are. No program. -/
import Derived.PlainAid
import Derived.Lib.TrailingZeros
import Derived.Laws.BitsAllLaws
set_option linter.unusedSimpArgs false
set_option linter.unusedVariables false
namespace Go.Nxt
open Go Go.Op

theorem sorted_ext {l1 l2 : List Int} (h1 : l1.Pairwise (· < ·)) (h2 : l2.Pairwise (· < ·)) (h : ∀ x, x ∈ l1 ↔ x ∈ l2) : l1 = l2 := by
  induction l1 generalizing l2 with
  | nil =>
    cases l2 with
    | nil => rfl
    | cons b l2 => exact absurd ((h b).2 (by simp)) (by simp)
  | cons a l1 ih =>
    cases l2 with
    | nil => exact absurd ((h a).1 (by simp)) (by simp)
    | cons b l2 =>
      have h1' := List.pairwise_cons.1 h1
      have h2' := List.pairwise_cons.1 h2
      have hab : a = b := by
        rcases List.mem_cons.1 ((h a).1 (by simp)) with e | e
        · exact e
        · rcases List.mem_cons.1 ((h b).2 (by simp)) with e' | e'
          · exact e'.symm
          · have := h1'.1 b e'; have := h2'.1 a e; omega
      subst hab
      refine congrArg _ (ih h1'.2 h2'.2 fun x => ?_)
      constructor
      · intro hx
        rcases List.mem_cons.1 ((h x).1 (by simp [hx])) with e | e
        · have := h1'.1 x hx; omega
        · exact e
      · intro hx
        rcases List.mem_cons.1 ((h x).2 (by simp [hx])) with e | e
        · have := h2'.1 x hx; omega
        · exact e
theorem sorted_extN {l1 l2 : List Nat} (h1 : l1.Pairwise (· < ·)) (h2 : l2.Pairwise (· < ·)) (h : ∀ x, x ∈ l1 ↔ x ∈ l2) : l1 = l2 := by
  have h3 : l1.map (fun n : Nat => (n : Int)) = l2.map (fun n : Nat => (n : Int)) := by
    refine sorted_ext (List.pairwise_map.2 (h1.imp (by omega))) (List.pairwise_map.2 (h2.imp (by omega))) fun x => ?_
    simp [h]
  exact (List.map_inj_right (fun a b h => by omega)).1 h3

/-- The members of a set, rising. -/
def ups (n : Nat) : List Nat := (List.range 64).filter fun i => n.testBit i
/-- The members of a set, on a way: true: rising. -/
def vals (d : Bool) (n : Nat) : List Nat := if d then ups n else (ups n).reverse
def clr (n v : Nat) : Nat := n &&& (18446744073709551615 - 2 ^ v)

theorem range_sorted (n : Nat) : (List.range n).Pairwise (· < ·) := List.pairwise_lt_range
theorem ups_sorted (n : Nat) : (ups n).Pairwise (· < ·) := (range_sorted 64).filter _
theorem mem_ups {n v : Nat} : v ∈ ups n ↔ v < 64 ∧ n.testBit v = true := by simp [ups]
theorem mem_vals {d : Bool} {n v : Nat} : v ∈ vals d n ↔ v < 64 ∧ n.testBit v = true := by cases d <;> simp [vals, mem_ups]
theorem ups_zero : ups 0 = [] := by simp [ups]
theorem vals_zero (d : Bool) : vals d 0 = [] := by cases d <;> simp [vals, ups_zero]
theorem vals_len (d : Bool) (n : Nat) : (vals d n).length = (ups n).length := by cases d <;> simp [vals]
theorem ups_len (n : Nat) : (ups n).length ≤ 64 := by
  have := List.length_filter_le (fun i => n.testBit i) (List.range 64)
  simpa [ups] using this
theorem test_big {n i : Nat} (hn : n < 18446744073709551616) (hi : 64 ≤ i) : n.testBit i = false :=
  Nat.testBit_lt_two_pow (Nat.lt_of_lt_of_le hn (show 2 ^ 64 ≤ 2 ^ i from Nat.pow_le_pow_right (by decide) hi))
theorem clr_test {n v : Nat} (hn : n < 18446744073709551616) (hv : v < 64) (i : Nat) : (clr n v).testBit i = (n.testBit i && decide (i ≠ v)) := by
  have hp : 2 ^ v < 2 ^ 64 := Nat.pow_lt_pow_right (by decide) hv
  have e : 18446744073709551615 - 2 ^ v = 2 ^ 64 - (2 ^ v + 1) := by omega
  unfold clr
  rw [e, Nat.testBit_and, Nat.testBit_two_pow_sub_succ hp, Nat.testBit_two_pow]
  by_cases hi : i < 64
  · by_cases he : i = v
    · subst he; simp
    · have : ¬ v = i := fun h => he h.symm
      simp [hi, he, this]
  · rw [test_big hn (by omega)]; simp
theorem clr_lt {n v : Nat} (hn : n < 18446744073709551616) : clr n v < 18446744073709551616 := Nat.lt_of_le_of_lt Nat.and_le_left hn
/-- v is the first member on the way. -/
def Ext (d : Bool) (n v : Nat) : Prop := v < 64 ∧ n.testBit v = true ∧ ∀ i, (if d then i < v else v < i) → n.testBit i = false
theorem ups_split {n v : Nat} (hn : n < 18446744073709551616) (hv : v < 64) (ht : n.testBit v = true) (hl : ∀ i, i < v → n.testBit i = false) : ups n = v :: ups (clr n v) := by
  refine sorted_extN (ups_sorted n) (List.pairwise_cons.2 ⟨fun x hx => ?_, ups_sorted _⟩) fun x => ?_
  · obtain ⟨h1, h2⟩ := mem_ups.1 hx
    rw [clr_test hn hv] at h2
    simp at h2
    rcases Nat.lt_trichotomy x v with h | h | h
    · rw [hl x h] at h2; simp at h2
    · exact absurd h h2.2
    · exact h
  · rw [List.mem_cons, mem_ups, mem_ups, clr_test hn hv]
    by_cases he : x = v
    · subst he; simp [hv, ht]
    · simp [he]
theorem ups_last {n v : Nat} (hn : n < 18446744073709551616) (hv : v < 64) (ht : n.testBit v = true) (hl : ∀ i, v < i → n.testBit i = false) : ups n = ups (clr n v) ++ [v] := by
  refine sorted_extN (ups_sorted n) (List.pairwise_append.2 ⟨ups_sorted _, by simp, fun x hx y hy => ?_⟩) fun x => ?_
  · obtain ⟨h1, h2⟩ := mem_ups.1 hx
    rw [clr_test hn hv] at h2
    simp at h2 hy
    subst hy
    rcases Nat.lt_trichotomy x y with h | h | h
    · exact h
    · exact absurd h h2.2
    · rw [hl x h] at h2; simp at h2
  · rw [List.mem_append, mem_ups, mem_ups, clr_test hn hv]
    by_cases he : x = v
    · subst he; simp [hv, ht]
    · simp [he]
theorem vals_step {d : Bool} {n v : Nat} (hn : n < 18446744073709551616) (h : Ext d n v) : vals d n = v :: vals d (clr n v) := by
  obtain ⟨hv, ht, hl⟩ := h
  cases d
  · simp only [vals, Bool.false_eq_true, if_false] at hl ⊢
    rw [ups_last hn hv ht hl]; simp
  · simp only [vals, if_true] at hl ⊢
    exact ups_split hn hv ht hl
theorem ext_ne {d : Bool} {n v : Nat} (h : Ext d n v) : n ≠ 0 := by
  rintro rfl
  have := h.2.1
  simp at this
theorem ctz_ext {n : Nat} (hn : n < 18446744073709551616) (h0 : n ≠ 0) : Ext true n (Lib.ctz 64 n) := by
  obtain ⟨m, hm, hk⟩ := Lib.ctzFrom_spec 64 n (by omega) hn
  have e : Lib.ctz 64 n = Lib.ctzFrom 64 n := by simp [Lib.ctz, h0]
  rw [e]
  generalize Lib.ctzFrom 64 n = k at hm hk
  subst hm
  refine ⟨hk, ?_, fun i hi => ?_⟩
  · rw [Nat.mul_comm, Nat.testBit_mul_two_pow]
    simp
  · simp only [if_true] at hi
    rw [Nat.mul_comm, Nat.testBit_mul_two_pow]
    have : ¬ k ≤ i := by omega
    simp [this]
theorem log_ext {n : Nat} (hn : n < 18446744073709551616) (h0 : n ≠ 0) : Ext false n n.log2 := by
  refine ⟨(Nat.log2_lt h0).2 hn, Nat.testBit_log2 h0, fun i hi => ?_⟩
  simp only [Bool.false_eq_true, if_false] at hi
  exact Nat.testBit_lt_two_pow ((Nat.log2_lt h0).1 hi)

/-- The members below v. -/
theorem mod_test (n v i : Nat) : (n % 2 ^ v).testBit i = (n.testBit i && decide (i < v)) := by
  rw [Nat.testBit_mod_two_pow, Bool.and_comm]
/-- The members that are not ahead of v on a way. -/
def since (d : Bool) (n v : Nat) : Nat := if d then n &&& (18446744073709551615 - n % 2 ^ v) else n % 2 ^ (v + 1)
theorem since_lt {d : Bool} {n v : Nat} (hn : n < 18446744073709551616) : since d n v < 18446744073709551616 := by
  cases d
  · exact Nat.lt_of_le_of_lt (Nat.mod_le _ _) hn
  · exact Nat.lt_of_le_of_lt Nat.and_le_left hn
theorem since_test {d : Bool} {n v : Nat} (hn : n < 18446744073709551616) (i : Nat) : (since d n v).testBit i = (n.testBit i && decide (if d then v ≤ i else i ≤ v)) := by
  cases d
  · simp only [since, Bool.false_eq_true, if_false, mod_test]
    congr 1; exact decide_eq_decide.2 (by omega)
  · simp only [since, if_true]
    have hm : n % 2 ^ v < 2 ^ 64 := Nat.lt_of_le_of_lt (Nat.mod_le _ _) hn
    rw [show 18446744073709551615 - n % 2 ^ v = 2 ^ 64 - (n % 2 ^ v + 1) by omega, Nat.testBit_and, Nat.testBit_two_pow_sub_succ hm, mod_test]
    by_cases hi : i < 64
    · have e : (!decide (i < v)) = decide (v ≤ i) := by rw [← decide_not]; exact decide_eq_decide.2 (by omega)
      cases n.testBit i <;> simp [hi, e]
    · rw [test_big hn (by omega)]; simp
end Go.Nxt
