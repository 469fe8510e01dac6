/- Plain facts on packed numbers. No program. -/
import Derived.PlainAid
set_option linter.unusedSimpArgs false
set_option linter.unusedVariables false
namespace Go.Pk

/-- A number's bytes: seven bits each, the lowest ones first. -/
def numB (n : Nat) : List UInt8 := if n < 128 then [UInt8.ofNat n] else UInt8.ofNat (n % 128 + 128) :: numB (n / 128)
termination_by n
decreasing_by omega

theorem numB_lo {n : Nat} (h : n < 128) : numB n = [UInt8.ofNat n] := by rw [numB, if_pos h]
theorem numB_hi {n : Nat} (h : 128 ≤ n) : numB n = UInt8.ofNat (n % 128 + 128) :: numB (n / 128) := by rw [numB, if_neg (by omega)]
theorem numB_pos (n : Nat) : 0 < (numB n).length := by
  rcases Nat.lt_or_ge n 128 with h | h
  · rw [numB_lo h]; simp
  · rw [numB_hi h]; simp
theorem numB_len : ∀ (k n : Nat), n < 128 ^ k → 0 < k → (numB n).length ≤ k := by
  intro k
  induction k with
  | zero => intro n _ h; omega
  | succ k ih =>
    intro n h _
    rcases Nat.lt_or_ge n 128 with h1 | h1
    · rw [numB_lo h1]; simp
    · rw [numB_hi h1]
      rw [Nat.pow_succ] at h
      have hk : 0 < k := by
        rcases Nat.eq_zero_or_pos k with rfl | hk
        · simp at h; omega
        · exact hk
      have := ih (n / 128) (by omega) hk
      simp; omega
theorem numB_ten {n : Nat} (h : n < 18446744073709551616) : (numB n).length ≤ 10 := numB_len 10 n (by omega) (by omega)
theorem numB_one {n : Nat} : (numB n).length = 1 ↔ n < 128 := by
  rcases Nat.lt_or_ge n 128 with h | h
  · rw [numB_lo h]; simp [h]
  · rw [numB_hi h]
    have := numB_pos (n / 128)
    simp; constructor
    · intro h0; rw [h0] at this; simp at this
    · intro h1; omega

/-- A number out of bytes, from its byte i on: the number, and behind how many bytes it ends. -/
def getN : Nat → Nat → List UInt8 → Option (Nat × Nat)
  | _, _, [] => none
  | i, acc, c :: cs =>
    if 10 ≤ i ∨ 18446744073709551616 ≤ c.toNat % 128 * 128 ^ i then none
    else if 128 ≤ c.toNat then getN (i + 1) (acc + c.toNat % 128 * 128 ^ i) cs
    else if c.toNat = 0 ∧ 0 < i then none
    else some (acc + c.toNat * 128 ^ i, i + 1)

theorem ofNat_nat {n : Nat} (h : n < 256) : (UInt8.ofNat n).toNat = n := by simp [Nat.mod_eq_of_lt h]
theorem ofNat_toNat (c : UInt8) : UInt8.ofNat c.toNat = c := by simp

theorem pow_mono {i j : Nat} (h : i ≤ j) : 128 ^ i ≤ 128 ^ j := Nat.pow_le_pow_right (by omega) h
theorem pow_pos' (i : Nat) : 0 < 128 ^ i := Nat.pow_pos (by omega)

theorem getN_numB : ∀ (n i acc : Nat) (rest : List UInt8), n * 128 ^ i < 18446744073709551616 → (i = 0 ∨ 0 < n) → i < 10 → getN i acc (numB n ++ rest) = some (acc + n * 128 ^ i, i + (numB n).length) := by
  intro n
  induction n using Nat.strongRecOn with
  | _ n ih =>
    intro i acc rest hn hp hi
    have hpos := pow_pos' i
    rcases Nat.lt_or_ge n 128 with h | h
    · rw [numB_lo h]
      have e : (UInt8.ofNat n).toNat = n := ofNat_nat (by omega)
      simp only [List.cons_append, List.nil_append, getN, e]
      rw [if_neg (by rw [Nat.mod_eq_of_lt h]; omega), if_neg (by omega), if_neg (by omega)]
      rfl
    · rw [numB_hi h]
      have e : (UInt8.ofNat (n % 128 + 128)).toNat = n % 128 + 128 := ofNat_nat (by omega)
      have e2 : (n % 128 + 128) % 128 = n % 128 := by omega
      have hle : n % 128 * 128 ^ i ≤ n * 128 ^ i := Nat.mul_le_mul_right _ (Nat.mod_le _ _)
      have h3 : n / 128 * 128 ^ (i + 1) + n % 128 * 128 ^ i = n * 128 ^ i := by
        have := Nat.div_add_mod n 128
        have h4 : n * 128 ^ i = (128 * (n / 128) + n % 128) * 128 ^ i := by rw [this]
        rw [h4, Nat.add_mul, Nat.pow_succ]
        congr 1
        rw [Nat.mul_comm 128 (n / 128), Nat.mul_assoc, Nat.mul_comm 128]
      have h9 : i + 1 < 10 := by
        rcases Nat.lt_or_ge (i + 1) 10 with h | h
        · exact h
        · have h5 : 128 ^ 10 ≤ 128 ^ (i + 1) := pow_mono h
          have h6 : 1 * 128 ^ (i + 1) ≤ n / 128 * 128 ^ (i + 1) := Nat.mul_le_mul_right _ (by omega)
          have h7 : (128 : Nat) ^ 10 = 1180591620717411303424 := by decide
          omega
      simp only [List.cons_append, getN, e, e2]
      rw [if_neg (by omega), if_pos (by omega), ih (n / 128) (by omega) (i + 1) _ rest (by omega) (Or.inr (by omega)) h9]
      simp only [Option.some.injEq, Prod.mk.injEq, List.length_cons]
      omega

theorem getN_some : ∀ (bs : List UInt8) (i acc v k : Nat), i ≤ 10 → getN i acc bs = some (v, k) →
    ∃ m, v = acc + m * 128 ^ i ∧ m * 128 ^ i < 18446744073709551616 ∧ i < k ∧ k ≤ 10 ∧ k - i ≤ bs.length ∧ bs.take (k - i) = numB m ∧ (0 < i → 0 < m) := by
  intro bs
  induction bs with
  | nil => intro i acc v k _ h; simp [getN] at h
  | cons c cs ih =>
    intro i acc v k hi10 h
    have hc := c.toNat_lt
    simp only [getN] at h
    split at h
    · cases h
    · rename_i h1
      have h1a : i < 10 := by omega
      have h1b : c.toNat % 128 * 128 ^ i < 18446744073709551616 := by omega
      split at h
      · rename_i h2
        obtain ⟨m, hv, hm, hk, hk10, hlen, ht, hp⟩ := ih (i + 1) _ v k (by omega) h
        have hp := hp (by omega)
        have h9 : i + 1 ≤ 9 := by
          rcases Nat.lt_or_ge (i + 1) 10 with h' | h'
          · omega
          · have h5 : 128 ^ 10 ≤ 128 ^ (i + 1) := pow_mono h'
            have h6 : 1 * 128 ^ (i + 1) ≤ m * 128 ^ (i + 1) := Nat.mul_le_mul_right _ hp
            have h7 : (128 : Nat) ^ 10 = 1180591620717411303424 := by decide
            omega
        have hsplit : (c.toNat % 128 + 128 * m) * 128 ^ i = c.toNat % 128 * 128 ^ i + m * 128 ^ (i + 1) := by
          rw [Nat.add_mul, Nat.pow_succ]
          congr 1
          rw [Nat.mul_comm 128 m, Nat.mul_assoc, Nat.mul_comm 128]
        have hlt : (c.toNat % 128 + 128 * m) * 128 ^ i < 18446744073709551616 := by
          rw [hsplit]
          have hD : 18446744073709551616 = 2 * 128 ^ (8 - i) * 128 ^ (i + 1) := by
            rw [Nat.mul_assoc, ← Nat.pow_add, show 8 - i + (i + 1) = 9 by omega]
          have hs : c.toNat % 128 * 128 ^ i < 128 ^ (i + 1) := by
            rw [Nat.pow_succ, Nat.mul_comm (128 ^ i)]
            exact (Nat.mul_lt_mul_right (pow_pos' i)).2 (by omega)
          rw [hD] at hm ⊢
          have hm' : m < 2 * 128 ^ (8 - i) := Nat.lt_of_mul_lt_mul_right hm
          have : (m + 1) * 128 ^ (i + 1) ≤ 2 * 128 ^ (8 - i) * 128 ^ (i + 1) := Nat.mul_le_mul_right _ hm'
          rw [Nat.add_mul] at this
          omega
        refine ⟨c.toNat % 128 + 128 * m, by rw [hsplit, hv, Nat.add_assoc], hlt, by omega, hk10, by simp; omega, ?_, fun _ => by omega⟩
        rw [show k - i = (k - (i + 1)) + 1 by omega, List.take_succ_cons, ht, numB_hi (n := c.toNat % 128 + 128 * m) (by omega)]
        have e1 : (c.toNat % 128 + 128 * m) % 128 + 128 = c.toNat := by omega
        have e2 : (c.toNat % 128 + 128 * m) / 128 = m := by omega
        rw [e1, e2, ofNat_toNat]
      · rename_i h2
        split at h
        · cases h
        · rename_i h3
          simp only [Option.some.injEq, Prod.mk.injEq] at h
          obtain ⟨rfl, rfl⟩ := h
          have e : c.toNat % 128 = c.toNat := by omega
          refine ⟨c.toNat, rfl, by rw [e] at h1b; exact h1b, by omega, by omega, by simp, ?_, fun _ => by omega⟩
          rw [show i + 1 - i = 1 by omega, numB_lo (by omega), ofNat_toNat]
          rfl

/-- The number with which bytes begin, and how many bytes it has. -/
def rdNum (bs : List UInt8) : Option (Nat × Nat) := getN 0 0 bs
theorem rdNum_numB (n : Nat) (rest : List UInt8) (h : n < 18446744073709551616) : rdNum (numB n ++ rest) = some (n, (numB n).length) := by
  unfold rdNum
  rw [getN_numB n 0 0 rest (by simpa using h) (Or.inl rfl) (by omega)]
  simp
theorem rdNum_some {bs : List UInt8} {v k : Nat} (h : rdNum bs = some (v, k)) : v < 18446744073709551616 ∧ 0 < k ∧ k ≤ 10 ∧ k ≤ bs.length ∧ bs.take k = numB v := by
  obtain ⟨m, hv, hm, hk, hk10, hl, ht, _⟩ := getN_some bs 0 0 v k (by omega) h
  rw [Nat.pow_zero, Nat.mul_one] at hv hm
  obtain rfl : v = m := by omega
  exact ⟨hm, hk, hk10, by omega, by simpa using ht⟩

/-- An int as a number. -/
def whole (n : Int) : Nat := if 0 ≤ n then (2 * n).toNat else (-2 * n - 1).toNat
def unwhole (v : Nat) : Int := if v % 2 = 0 then (v / 2 : Nat) else -((v / 2 : Nat) : Int) - 1
theorem unwhole_whole (n : Int) : unwhole (whole n) = n := by
  unfold whole unwhole
  split
  · rw [if_pos (by omega)]; omega
  · rw [if_neg (by omega)]; omega
theorem whole_lt {n : Int} (h1 : -9223372036854775808 ≤ n) (h2 : n ≤ 9223372036854775807) : whole n < 18446744073709551616 := by
  unfold whole; split <;> omega
theorem whole_unwhole (v : Nat) : whole (unwhole v) = v := by
  unfold whole unwhole
  by_cases h : v % 2 = 0
  · rw [if_pos h, if_pos (by omega)]; omega
  · rw [if_neg h, if_neg (by omega)]; omega
theorem unwhole_bd {v : Nat} (h : v < 18446744073709551616) : -9223372036854775808 ≤ unwhole v ∧ unwhole v ≤ 9223372036854775807 := by
  unfold unwhole; split <;> omega
theorem whole_small (n : Int) : whole n < 128 ↔ -64 ≤ n ∧ n ≤ 63 := by
  unfold whole; split <;> omega
/-- A text's bytes. -/
def textB (s : List UInt8) : List UInt8 := numB s.length ++ s
/-- What is taken: bytes, or nothing any more. -/
def putB (s : Option (List UInt8)) (b : List UInt8) : Option (List UInt8) := s.bind fun xs => if xs.length + b.length ≤ 65536 then some (xs ++ b) else none
def putText (s : Option (List UInt8)) (t : List UInt8) : Option (List UInt8) := if 4096 < t.length then none else putB (putB s (numB t.length)) t
theorem putB_none (b : List UInt8) : putB none b = none := rfl
theorem putB_fit {xs b : List UInt8} (h : xs.length + b.length ≤ 65536) : putB (some xs) b = some (xs ++ b) := by simp [putB, h]
theorem putB_not {xs b : List UInt8} (h : ¬ xs.length + b.length ≤ 65536) : putB (some xs) b = none := by simp [putB, h]
end Go.Pk
