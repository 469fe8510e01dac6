/- Walks of package pack: a reader's firsts. -/
import Derived.Test.YtnphmejmcnihoaaPakD
import Derived.Laws.ShiftsVar
set_option linter.unusedSimpArgs false
set_option linter.unusedVariables false
namespace Go.Proofs.Ytnphmejmcnihoaa
open Go.ChangeShapes Go.WideShapes Go.ChangeAt Go.RowKit Go.Base Go.Pk

def numV (o : Option (Nat × Nat)) : Value := match o with
  | none => .tuple #[.int .u64 0, .int .i64 0]
  | some (v, k) => .tuple #[.int .u64 (v : Int), .int .i64 (k : Int)]
theorem getN_step (k acc : Nat) (bs : List UInt8) (hk : k < bs.length) (hk10 : k < 10) : getN k acc (bs.drop k) =
    if 18446744073709551616 ≤ bs[k].toNat % 128 * 128 ^ k then none
    else if 128 ≤ bs[k].toNat then getN (k + 1) (acc + bs[k].toNat % 128 * 128 ^ k) (bs.drop (k + 1))
    else if bs[k].toNat = 0 ∧ 0 < k then none
    else some (acc + bs[k].toNat * 128 ^ k, k + 1) := by
  rw [List.drop_eq_getElem_cons hk]
  simp only [getN]
  by_cases h : 18446744073709551616 ≤ bs[k].toNat % 128 * 128 ^ k
  · rw [if_pos (Or.inr h), if_pos h]
  · rw [if_neg (by omega), if_neg h]
theorem getN_end (acc : Nat) (k : Nat) (bs : List UInt8) (h : bs.length ≤ k ∨ 10 ≤ k) : getN k acc (bs.drop k) = none := by
  by_cases h1 : bs.length ≤ k
  · rw [List.drop_eq_nil_of_le h1]; rfl
  · rw [List.drop_eq_getElem_cons (by omega)]
    simp only [getN]
    rw [if_pos (Or.inl (by omega))]
theorem two_pow7 (k : Nat) : (2 : Int) ^ (k * 7) = ((128 ^ k : Nat) : Int) := by
  rw [Nat.mul_comm, Int.pow_mul, Int.natCast_pow]; rfl
theorem shl_fit (p k : Nat) (h : p * 128 ^ k < 18446744073709551616) : IntKind.u64.wrap ((p : Int) * 2 ^ (k * 7)) = ((p * 128 ^ k : Nat) : Int) := by
  rw [two_pow7, IntKind.wrap_u64, ← Int.natCast_mul]; omega
theorem shl_not (p k : Nat) : IntKind.u64.wrap ((p : Int) * 2 ^ (k * 7)) = ((p * 128 ^ k % 18446744073709551616 : Nat) : Int) := by
  rw [two_pow7, IntKind.wrap_u64, ← Int.natCast_mul]; omega
theorem shr_fit (p k : Nat) : ((p * 128 ^ k : Nat) : Int) / 2 ^ (k * 7) = (p : Int) := by
  rw [two_pow7, ← Int.natCast_ediv, Nat.mul_div_cancel _ (pow_pos' k)]
theorem shr_not (p k : Nat) (h : 18446744073709551616 ≤ p * 128 ^ k) : ((p * 128 ^ k % 18446744073709551616 : Nat) : Int) / 2 ^ (k * 7) = ((p * 128 ^ k % 18446744073709551616 / 128 ^ k : Nat) : Int) ∧ p * 128 ^ k % 18446744073709551616 / 128 ^ k < p := by
  refine ⟨by rw [two_pow7, ← Int.natCast_ediv], ?_⟩
  rw [Nat.div_lt_iff_lt_mul (pow_pos' k)]
  have := Nat.mod_lt (p * 128 ^ k) (show 0 < 18446744073709551616 by omega)
  omega
theorem or_fit (acc p k : Nat) (ha : acc < 128 ^ k) (h : p * 128 ^ k < 18446744073709551616) (hk : k < 10) : bits BinOp.or IntKind.u64 (acc : Int) ((p * 128 ^ k : Nat) : Int) = ((acc + p * 128 ^ k : Nat) : Int) := by
  have h9 : 128 ^ k ≤ 128 ^ 9 := pow_mono (by omega)
  have h9' : (128 : Nat) ^ 9 = 9223372036854775808 := by decide
  rw [u64_or_nat acc (p * 128 ^ k) (by omega) h, Nat.or_comm, nat_join (7 * k) (p * 128 ^ k) acc]
  · rw [Nat.add_comm]
  · rw [Nat.pow_mul]; exact Nat.mul_mod_left _ _
  · rw [Nat.pow_mul]; exact ha
theorem and127 (d : Nat) (h : d < 256) : bits BinOp.and IntKind.u8 (d : Int) 127 = ((d % 128 : Nat) : Int) := by
  have h1 := u8_and_nat d 127 h (by omega)
  rw [nat_mask7] at h1
  exact h1
theorem and128 (d : Nat) (h : d < 256) : bits BinOp.and IntKind.u8 (d : Int) 128 = if 128 ≤ d then 128 else 0 := by
  have h1 := u8_and_nat d 128 h (by omega)
  rw [show ((128 : Nat) : Int) = 128 from rfl] at h1
  rw [h1]
  have : ∀ y : Fin 256, ((y.val &&& 128 : Nat) : Int) = if 128 ≤ y.val then 128 else 0 := by decide +kernel
  exact this ⟨d, h⟩
theorem acc_next (acc p k : Nat) (ha : acc < 128 ^ k) (hp : p < 128) : acc + p * 128 ^ k < 128 ^ (k + 1) := by
  rw [Nat.pow_succ]
  have : (p + 1) * 128 ^ k ≤ 128 * 128 ^ k := Nat.mul_le_mul_right _ hp
  rw [Nat.add_mul] at this
  rw [Nat.mul_comm (128 ^ k)]
  omega
set_option maxHeartbeats 4000000 in
set_option maxRecDepth 20000 in
theorem firstNumber_lo (A : Option Addr) (bs : List UInt8) (c : Nat) (w : World) (hy : Byt w A bs) (hm : bs.length ≤ maxLen) (hl : bs.length ≤ 10) :
    Calls Try.prog 40 #[.slice A bs.length c] w fun e w' => e = .returned (numV (rdNum bs)) ∧ w = w' := by
  have HY := Lib.hid hy
  unfold maxLen at hm
  clear hy
  have hl' : (bs.length : Int) ≤ 10 := by omega
  go_enter Try.func40, Try.ntmps40
  go_wp2
  go_loop [4, 11] (fun t i => ∃ k acc : Nat, k ≤ bs.length ∧ k ≤ 10 ∧ i = .int .i64 (k : Int) ∧ t = .int .u64 (acc : Int) ∧ acc < 128 ^ k ∧ rdNum bs = getN k acc (bs.drop k)) (fun _ i => bs.length - (intOf i).toNat)
  case atStart => exact ⟨0, 0, Nat.zero_le _, Nat.zero_le _, rfl, rfl, by simp, rfl⟩
  case round =>
    obtain ⟨k, acc, hk, hk10, rfl, rfl, ha, he⟩ := hrel
    by_cases hlt : k < bs.length
    · have hlt' : (k : Int) < (bs.length : Int) := by omega
      have hlt2 : (k : Int) < 10 := by omega
      have hlt3 : k < bs.length := by omega
      obtain ⟨b, o, rfl, hc⟩ := HY.out k hlt3
      have hc0 : bs[k].toNat < 256 := bs[k].toNat_lt
      rw [getN_step k acc bs hlt3 (by omega)] at he
      generalize bs[k].toNat = d at *
      have HA := Lib.hid ha
      have e1 := and127 d hc0
      have e2 := and128 d hc0
      have hp : d % 128 < 128 := Nat.mod_lt _ (by omega)
      have hpI : ((d % 128 : Nat) : Int) < 128 := by omega
      have hp0 : (0 : Int) ≤ ((d % 128 : Nat) : Int) := by omega
      by_cases hf : 18446744073709551616 ≤ d % 128 * 128 ^ k
      · rw [if_pos hf] at he
        have HE := Lib.hid he
        have e3 := shl_not (d % 128) k
        obtain ⟨e4, h4⟩ := shr_not (d % 128) k hf
        clear ha he e2 hf
        generalize hq : d % 128 * 128 ^ k % 18446744073709551616 = q at *
        generalize hq2 : q / 128 ^ k = q2 at *
        generalize hpp : d % 128 = p at *
        clear hq hq2 hpp
        have h4' : (q2 : Int) < (p : Int) := by omega
        go_wp2
        all_goals
          go_ret2
          rw [HE.out]
          exact ⟨rfl, rfl⟩
      · rw [if_neg hf] at he
        have hf' : d % 128 * 128 ^ k < 18446744073709551616 := by omega
        have e3 := shl_fit (d % 128) k hf'
        have e4 := shr_fit (d % 128) k
        have e5 := or_fit acc (d % 128) k ha hf' (by omega)
        have hn := acc_next acc (d % 128) k ha hp
        have HN := Lib.hid hn
        have hq1 : 0 < d % 128 → 0 < d % 128 * 128 ^ k := fun h => Nat.mul_pos h (pow_pos' k)
        clear ha hn hf
        by_cases hd : 128 ≤ d
        · rw [if_pos hd] at he e2
          have HE := Lib.hid he
          clear he hq1
          generalize hq : d % 128 * 128 ^ k = q at *
          generalize hpp : d % 128 = p at *
          clear hq hpp
          go_wp2
          go_round
          case rel => exact ⟨k + 1, acc + q, by omega, by omega, by go_num, rfl, HN.out, HE.out⟩
          case measure => simp [intOf]; omega
        · rw [if_neg hd] at he e2
          by_cases hd0 : d = 0
          · subst hd0
            have hz : acc + 0 * 128 ^ k = acc := by simp
            rw [hz] at he
            have f1 : bits BinOp.and IntKind.u8 0 127 = 0 := by decide
            have f2 : bits BinOp.and IntKind.u8 0 128 = 0 := by decide
            have f3 : IntKind.u64.wrap 0 = 0 := by decide
            have f5 : bits BinOp.or IntKind.u64 (acc : Int) 0 = (acc : Int) := by
              have := or_fit acc 0 k HA.out (by simp) (by omega)
              simpa using this
            have hc' : w.cell? ⟨b, o + k, none⟩ = some (.int .u8 0) := hc
            clear e1 e2 e3 e4 e5 hz hf' HN hq1 hc0 hd hp hpI hp0 hc
            by_cases hk0 : 0 < k
            · rw [if_pos ⟨rfl, hk0⟩] at he
              have HE := Lib.hid he
              clear he
              have hk0' : (0 : Int) < (k : Int) := by omega
              go_wp2
              go_ret2
              rw [HE.out]
              exact ⟨rfl, rfl⟩
            · rw [if_neg (by omega)] at he
              have HE := Lib.hid he
              clear he
              have hk0' : (k : Int) ≤ 0 := by omega
              go_wp2
              go_ret2
              rw [HE.out]
              exact ⟨rfl, rfl⟩
          · rw [if_neg (by omega)] at he
            have HE := Lib.hid he
            have hdI : (0 : Int) < (d : Int) := by omega
            have ed : d % 128 = d := Nat.mod_eq_of_lt (by omega)
            rw [ed] at e1 e3 e4 e5 hf'
            clear he hq1 ed HN hp hpI hp0
            generalize hq : d * 128 ^ k = q at *
            clear hq
            go_wp2
            go_ret2
            rw [HE.out]
            exact ⟨rfl, rfl⟩
    · have HE : Hid (rdNum bs = none) := Lib.hid (by rw [he]; exact getN_end acc k bs (by omega))
      clear he ha
      have hge : (bs.length : Int) ≤ (k : Int) := by omega
      go_wp2
      go_ret2
      rw [HE.out]
      exact ⟨rfl, rfl⟩
set_option maxHeartbeats 4000000 in
set_option maxRecDepth 20000 in
theorem firstNumber_hi (A : Option Addr) (bs : List UInt8) (c : Nat) (w : World) (hy : Byt w A bs) (hm : bs.length ≤ maxLen) (hl : 10 < bs.length) :
    Calls Try.prog 40 #[.slice A bs.length c] w fun e w' => e = .returned (numV (rdNum bs)) ∧ w = w' := by
  have HY := Lib.hid hy
  unfold maxLen at hm
  clear hy
  have hl' : (10 : Int) < (bs.length : Int) := by omega
  go_enter Try.func40, Try.ntmps40
  go_wp2
  go_loop [4, 11] (fun t i => ∃ k acc : Nat, k ≤ 10 ∧ k ≤ 10 ∧ i = .int .i64 (k : Int) ∧ t = .int .u64 (acc : Int) ∧ acc < 128 ^ k ∧ rdNum bs = getN k acc (bs.drop k)) (fun _ i => 10 - (intOf i).toNat)
  case atStart => exact ⟨0, 0, Nat.zero_le _, Nat.zero_le _, rfl, rfl, by simp, rfl⟩
  case round =>
    obtain ⟨k, acc, hk, hk10, rfl, rfl, ha, he⟩ := hrel
    by_cases hlt : k < 10
    · have hlt' : (k : Int) < (bs.length : Int) := by omega
      have hlt2 : (k : Int) < 10 := by omega
      have hlt3 : k < bs.length := by omega
      obtain ⟨b, o, rfl, hc⟩ := HY.out k hlt3
      have hc0 : bs[k].toNat < 256 := bs[k].toNat_lt
      rw [getN_step k acc bs hlt3 (by omega)] at he
      generalize bs[k].toNat = d at *
      have HA := Lib.hid ha
      have e1 := and127 d hc0
      have e2 := and128 d hc0
      have hp : d % 128 < 128 := Nat.mod_lt _ (by omega)
      have hpI : ((d % 128 : Nat) : Int) < 128 := by omega
      have hp0 : (0 : Int) ≤ ((d % 128 : Nat) : Int) := by omega
      by_cases hf : 18446744073709551616 ≤ d % 128 * 128 ^ k
      · rw [if_pos hf] at he
        have HE := Lib.hid he
        have e3 := shl_not (d % 128) k
        obtain ⟨e4, h4⟩ := shr_not (d % 128) k hf
        clear ha he e2 hf
        generalize hq : d % 128 * 128 ^ k % 18446744073709551616 = q at *
        generalize hq2 : q / 128 ^ k = q2 at *
        generalize hpp : d % 128 = p at *
        clear hq hq2 hpp
        have h4' : (q2 : Int) < (p : Int) := by omega
        go_wp2
        all_goals
          go_ret2
          rw [HE.out]
          exact ⟨rfl, rfl⟩
      · rw [if_neg hf] at he
        have hf' : d % 128 * 128 ^ k < 18446744073709551616 := by omega
        have e3 := shl_fit (d % 128) k hf'
        have e4 := shr_fit (d % 128) k
        have e5 := or_fit acc (d % 128) k ha hf' (by omega)
        have hn := acc_next acc (d % 128) k ha hp
        have HN := Lib.hid hn
        have hq1 : 0 < d % 128 → 0 < d % 128 * 128 ^ k := fun h => Nat.mul_pos h (pow_pos' k)
        clear ha hn hf
        by_cases hd : 128 ≤ d
        · rw [if_pos hd] at he e2
          have HE := Lib.hid he
          clear he hq1
          generalize hq : d % 128 * 128 ^ k = q at *
          generalize hpp : d % 128 = p at *
          clear hq hpp
          go_wp2
          go_round
          case rel => exact ⟨k + 1, acc + q, by omega, by omega, by go_num, rfl, HN.out, HE.out⟩
          case measure => simp [intOf]; omega
        · rw [if_neg hd] at he e2
          by_cases hd0 : d = 0
          · subst hd0
            have hz : acc + 0 * 128 ^ k = acc := by simp
            rw [hz] at he
            have f1 : bits BinOp.and IntKind.u8 0 127 = 0 := by decide
            have f2 : bits BinOp.and IntKind.u8 0 128 = 0 := by decide
            have f3 : IntKind.u64.wrap 0 = 0 := by decide
            have f5 : bits BinOp.or IntKind.u64 (acc : Int) 0 = (acc : Int) := by
              have := or_fit acc 0 k HA.out (by simp) (by omega)
              simpa using this
            have hc' : w.cell? ⟨b, o + k, none⟩ = some (.int .u8 0) := hc
            clear e1 e2 e3 e4 e5 hz hf' HN hq1 hc0 hd hp hpI hp0 hc
            by_cases hk0 : 0 < k
            · rw [if_pos ⟨rfl, hk0⟩] at he
              have HE := Lib.hid he
              clear he
              have hk0' : (0 : Int) < (k : Int) := by omega
              go_wp2
              go_ret2
              rw [HE.out]
              exact ⟨rfl, rfl⟩
            · rw [if_neg (by omega)] at he
              have HE := Lib.hid he
              clear he
              have hk0' : (k : Int) ≤ 0 := by omega
              go_wp2
              go_ret2
              rw [HE.out]
              exact ⟨rfl, rfl⟩
          · rw [if_neg (by omega)] at he
            have HE := Lib.hid he
            have hdI : (0 : Int) < (d : Int) := by omega
            have ed : d % 128 = d := Nat.mod_eq_of_lt (by omega)
            rw [ed] at e1 e3 e4 e5 hf'
            clear he hq1 ed HN hp hpI hp0
            generalize hq : d * 128 ^ k = q at *
            clear hq
            go_wp2
            go_ret2
            rw [HE.out]
            exact ⟨rfl, rfl⟩
    · have HE : Hid (rdNum bs = none) := Lib.hid (by rw [he]; exact getN_end acc k bs (by omega))
      clear he ha
      have hge : (10 : Int) ≤ (k : Int) := by omega
      go_wp2
      go_ret2
      rw [HE.out]
      exact ⟨rfl, rfl⟩
theorem firstNumber_any (A : Option Addr) (bs : List UInt8) (c : Nat) (w : World) (hy : Byt w A bs) (hm : bs.length ≤ maxLen) :
    Calls Try.prog 40 #[.slice A bs.length c] w fun e w' => e = .returned (numV (rdNum bs)) ∧ w = w' := by
  by_cases hl : bs.length ≤ 10
  · exact firstNumber_lo A bs c w hy hm hl
  · exact firstNumber_hi A bs c w hy hm (by omega)
end Go.Proofs.Ytnphmejmcnihoaa
