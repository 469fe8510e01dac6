/- Walks of package mix and of its answers by definition: sums. -/
import Derived.Test.YtloemgdfmagbnaaDoorMixB
import Derived.Test.YtloemgdfmagbnaaDoorOpen
set_option linter.unusedSimpArgs false
set_option linter.unusedVariables false
namespace Go.Proofs.YtloemgdfmagbnaaDoor
open Go.ChangeShapes Go.WideShapes Go.ChangeAt Go.RowKit Go.Base Go.Mx

/-- The table of four bits lies in its variable. -/
def Tab (w : World) : Prop := ∀ k : Nat, k < 16 → w.cell? ⟨0, k, none⟩ = some (.int .u32 (st4 k : Nat))

theorem not32 (s : Nat) (hs : s < 4294967296) : bits BinOp.xor IntKind.u32 IntKind.u32.max (s : Int) = ((4294967295 - s : Nat) : Int) := by
  have h := u32_xor_nat 4294967295 s (by omega) hs
  have e : 4294967295 ^^^ s = 4294967295 - s := by
    apply Nat.eq_of_testBit_eq
    intro i
    rw [Nat.testBit_xor, show 4294967295 - s = 2 ^ 32 - (s + 1) by omega, Nat.testBit_two_pow_sub_succ (by omega), show (4294967295 : Nat) = 2 ^ 32 - 1 by decide, Nat.testBit_two_pow_sub_one]
    by_cases hi : i < 32
    · simp [hi]
    · have : s.testBit i = false := Nat.testBit_lt_two_pow (Nat.lt_of_lt_of_le (show s < 2 ^ 32 by omega) (Nat.pow_le_pow_right (by decide) (by omega)))
      simp [hi, this]
  rw [e] at h
  exact h
theorem and15 (x : Nat) (hx : x < 4294967296) : bits BinOp.and IntKind.u32 (x : Int) 15 = ((x % 16 : Nat) : Int) := by
  have h := u32_and_nat x 15 hx (by omega)
  rw [show x &&& 15 = x % 16 from Nat.and_two_pow_sub_one_eq_mod x 4] at h
  exact h
theorem four_xor (x : Nat) (hx : x < 4294967296) : bits BinOp.xor IntKind.u32 ((x : Int) / 16) (st4 (x % 16) : Nat) = ((st4 x : Nat) : Int) := by
  have hl := st4_low ⟨x % 16, by omega⟩
  have hb := fours_lt ⟨x % 16, by omega⟩
  simp only at hl hb
  rw [← hl] at hb
  have h := u32_xor_nat (x / 16) (st4 (x % 16)) (by omega) (by omega)
  rw [← nat_div x 16] at h
  rw [st4_four x]
  exact h

theorem update_any (s : Nat) (a : Option Addr) (bs : List UInt8) (cap : Nat) (w : World) (hs : s < 4294967296) (ht : Tab w) (hb : Byt w a bs) (hm : bs.length ≤ maxLen) :
    Calls Tryd.prog 13 #[.int .u32 s, .slice a bs.length cap] w fun e w' => e = .returned (.int .u32 (upd s bs : Nat)) ∧ w = w' := by
  have hsg : IntKind.u32.signed = false := rfl
  have hn := not32 s hs
  have hm' : (bs.length : Int) ≤ 9223372036854775807 := by unfold maxLen at hm; omega
  have HB := Lib.hid hb
  have HT := Lib.hid ht
  have HL : ∀ k, Hid (turn (4294967295 - s) (bs.take k) < 4294967296) := fun k => Lib.hid (turn_lt _ _ (by omega))
  have H : Hid (upd s bs = 4294967295 - turn (4294967295 - s) bs) := Lib.hid rfl
  clear hb ht hm
  go_enter Tryd.func13, Tryd.ntmps13
  go_wp2
  clear hn
  go_loop [0, 11] (fun t i => ∃ k : Nat, k ≤ bs.length ∧ i = .int .i64 (k : Int) ∧ t = .int .u32 (turn (4294967295 - s) (bs.take k) : Nat)) (fun _ i => bs.length - (intOf i).toNat)
  case atStart => exact ⟨0, Nat.zero_le _, rfl, rfl⟩
  case round =>
    obtain ⟨k, hk, rfl, rfl⟩ := hrel
    have ht := (HL k).out
    by_cases hlt : k < bs.length
    · have hlt' : (k : Int) < (bs.length : Int) := by omega
      obtain ⟨b, o, rfl, hc⟩ := HB.out k hlt
      have hc0 : bs[k].toNat < 256 := bs[k].toNat_lt
      have HE : Hid (turn (4294967295 - s) (bs.take (k + 1)) = st8 (turn (4294967295 - s) (bs.take k) ^^^ bs[k].toNat)) := Lib.hid (by rw [List.take_succ_eq_append_getElem hlt, turn_snoc])
      generalize turn (4294967295 - s) (bs.take k) = t at *
      generalize hcc : bs[k].toNat = c at *
      have e0 := u32_xor_nat t c ht (by omega)
      have hx0 : t ^^^ c < 4294967296 := xor_lt ht (by omega)
      generalize t ^^^ c = x0 at *
      have e1 := and15 x0 hx0
      have e2 := four_xor x0 hx0
      have e3 := HT.out (x0 % 16) (by omega)
      have hx1 := st4_lt hx0
      have e4 := and15 (st4 x0) hx1
      have e5 := four_xor (st4 x0) hx1
      have e6 := HT.out (st4 x0 % 16) (by omega)
      have l1 : x0 % 16 < 16 := by omega
      have l2 : st4 x0 % 16 < 16 := by omega
      go_wp2
      go_rounds 3
      go_round
      case rel => exact ⟨k + 1, by omega, by go_num, by rw [HE.out]; rfl⟩
      case measure => simp [intOf]; omega
    · obtain rfl : k = bs.length := by omega
      have hn := not32 _ ht
      rw [List.take_length] at hn
      go_wp2
      go_ret
      exact ⟨ret_int (by rw [H.out]), rfl⟩

def st1n : Nat → Nat → Nat
  | 0, x => x
  | k + 1, x => st1 (st1n k x)
theorem st1n_lt {x : Nat} (h : x < 4294967296) : ∀ k, st1n k x < 4294967296
  | 0 => h
  | k + 1 => st1_lt (st1n_lt h k)
theorem st1_odd {x : Nat} (hx : x < 4294967296) (h : x % 2 = 1) : bits BinOp.xor IntKind.u32 ((x : Int) / 2) 3988292384 = ((st1 x : Nat) : Int) := by
  have e := u32_xor_nat (x / 2) 3988292384 (by omega) (by omega)
  unfold st1
  rw [if_pos h]
  exact e
theorem st1_evn {x : Nat} (h : ¬ x % 2 = 1) : ((x : Int) / 2) = ((st1 x : Nat) : Int) := by
  unfold st1
  rw [if_neg h]
  omega

set_option maxHeartbeats 1000000 in
theorem turn_any (s : Nat) (a : Option Addr) (bs : List UInt8) (cap : Nat) (w : World) (hs : s < 4294967296) (hb : Byt w a bs) (hm : bs.length ≤ maxLen) :
    Calls Tryd.prog 22 #[.int .u32 s, .slice a bs.length cap] w fun e w' => e = .returned (.int .u32 (turn s bs : Nat)) ∧ w = w' := by
  have hm' : (bs.length : Int) ≤ 9223372036854775807 := by unfold maxLen at hm; omega
  have HB := Lib.hid hb
  have HL : ∀ k, Hid (turn s (bs.take k) < 4294967296) := fun k => Lib.hid (turn_lt _ _ (by omega))
  clear hb hm
  go_enter Tryd.func22, Tryd.ntmps22
  go_wp2
  go_loop [0, 5] (fun t i => ∃ k : Nat, k ≤ bs.length ∧ i = .int .i64 (k : Int) ∧ t = .int .u32 (turn s (bs.take k) : Nat)) (fun _ i => bs.length - (intOf i).toNat)
  case atStart => exact ⟨0, Nat.zero_le _, rfl, rfl⟩
  case round =>
    obtain ⟨k, hk, rfl, rfl⟩ := hrel
    have ht := (HL k).out
    by_cases hlt : k < bs.length
    · have hlt' : (k : Int) < (bs.length : Int) := by omega
      obtain ⟨b, o, rfl, hc⟩ := HB.out k hlt
      have hc0 : bs[k].toNat < 256 := bs[k].toNat_lt
      have HE : Hid (turn s (bs.take (k + 1)) = st8 (turn s (bs.take k) ^^^ bs[k].toNat)) := Lib.hid (by rw [List.take_succ_eq_append_getElem hlt, turn_snoc])
      generalize turn s (bs.take k) = t at *
      generalize hcc : bs[k].toNat = c at *
      have e0 := u32_xor_nat t c ht (by omega)
      have hx0 : t ^^^ c < 4294967296 := xor_lt ht (by omega)
      generalize t ^^^ c = x0 at *
      clear hcc ht
      go_wp2
      have HX : Hid (∀ j, st1n j x0 < 4294967296) := Lib.hid (fun j => st1n_lt hx0 j)
      go_loop [0, 6] (fun t i => ∃ j : Nat, j ≤ 8 ∧ i = .int .i64 (j : Int) ∧ t = .int .u32 (st1n j x0 : Nat)) (fun _ i => 8 - (intOf i).toNat)
      case atStart => exact ⟨0, Nat.zero_le _, rfl, rfl⟩
      case round =>
        obtain ⟨j, hj, rfl, rfl⟩ := hrel
        have hx := HX.out j
        by_cases hj8 : j < 8
        · have HS : Hid (st1n (j + 1) x0 = st1 (st1n j x0)) := Lib.hid rfl
          generalize st1n j x0 = y at *
          by_cases hy : y % 2 = 1
          · have e1 := st1_odd hx hy
            have hy' : ((y : Int) % 2 == 1) = true := by simp; omega
            go_wp2
            go_round
            case rel => exact ⟨j + 1, by omega, by go_num, by rw [HS.out]⟩
            case measure => simp [intOf]; omega
          · have e1 := st1_evn hy
            have hy' : ((y : Int) % 2 == 1) = false := by simp; omega
            go_wp2
            go_round
            case rel => exact ⟨j + 1, by omega, by go_num, by rw [HS.out]⟩
            case measure => simp [intOf]; omega
        · obtain rfl : j = 8 := by omega
          go_wp2
          go_round
          case rel => exact ⟨k + 1, by omega, by go_num, by rw [HE.out]; rfl⟩
          case measure => simp [intOf]; omega
    · obtain rfl : k = bs.length := by omega
      go_wp2
      go_ret
      exact ⟨rfl, rfl⟩

theorem refSum_any (a : Option Addr) (bs : List UInt8) (cap : Nat) (w : World) (hb : Byt w a bs) (hm : bs.length ≤ maxLen) :
    Calls Tryd.prog 10 #[.slice a bs.length cap] w fun e w' => e = .returned (.int .u32 (sum bs : Nat)) ∧ w = w' := by
  have hsg : IntKind.u32.signed = false := rfl
  have hn := not32 _ (turn_lt bs 4294967295 (by omega))
  have H : Hid (sum bs = 4294967295 - turn 4294967295 bs) := Lib.hid rfl
  have HB := Lib.hid hb
  clear hb
  go_enter Tryd.func10, Tryd.ntmps10
  go_wp2_with (go_at_call 22; refine (turn_any 4294967295 _ _ _ _ (by omega) HB.out hm).mono ?_; rintro e w' ⟨rfl, rfl⟩)
  go_ret
  exact ⟨ret_int (by rw [H.out]), rfl⟩
theorem refUpdate_any (s : Nat) (a : Option Addr) (bs : List UInt8) (cap : Nat) (w : World) (hs : s < 4294967296) (hb : Byt w a bs) (hm : bs.length ≤ maxLen) :
    Calls Tryd.prog 14 #[.int .u32 s, .slice a bs.length cap] w fun e w' => e = .returned (.int .u32 (upd s bs : Nat)) ∧ w = w' := by
  have hsg : IntKind.u32.signed = false := rfl
  have hn0 := not32 s hs
  have hs' : 4294967295 - s < 4294967296 := by omega
  have hn := not32 _ (turn_lt bs (4294967295 - s) hs')
  have H : Hid (upd s bs = 4294967295 - turn (4294967295 - s) bs) := Lib.hid rfl
  have HB := Lib.hid hb
  clear hb
  go_enter Tryd.func14, Tryd.ntmps14
  go_wp2_with (go_at_call 22; refine (turn_any _ _ _ _ _ hs' HB.out hm).mono ?_; rintro e w' ⟨rfl, rfl⟩)
  go_ret
  exact ⟨ret_int (by rw [H.out]), rfl⟩

/-- A list of lists of bytes. -/
def Parts (w : World) (p : Option Addr) (l : List (List UInt8)) : Prop := ∀ (i : Nat) (h : i < l.length), ∃ b o a cap, p = some ⟨b, o, none⟩ ∧ w.cell? ⟨b, o + i, none⟩ = some (.slice a l[i].length cap) ∧ Byt w a l[i] ∧ l[i].length ≤ maxLen
def upds (s : Nat) (l : List (List UInt8)) : Nat := l.foldl upd s
theorem upds_lt (l : List (List UInt8)) : ∀ s, s < 4294967296 → upds s l < 4294967296 := by
  induction l with
  | nil => intro s h; exact h
  | cons c l ih => intro s _; unfold upds; rw [List.foldl_cons]; exact ih _ (upd_lt _ _)
theorem upds_flat (l : List (List UInt8)) : ∀ s, s < 4294967296 → upds s l = upd s l.flatten := by
  induction l with
  | nil => intro s h; exact (upd_nil s h).symm
  | cons c l ih => intro s h; rw [List.flatten_cons, upd_append s _ _ h, ← ih _ (upd_lt _ _)]; rfl

theorem sum_any (p : Option Addr) (l : List (List UInt8)) (cap : Nat) (w : World) (ht : Tab w) (hb : Parts w p l) (hm : l.length ≤ maxLen) :
    Calls Tryd.prog 12 #[.slice p l.length cap] w fun e w' => e = .returned (.int .u32 (sum l.flatten : Nat)) ∧ w = w' := by
  have hm' : (l.length : Int) ≤ 9223372036854775807 := by unfold maxLen at hm; omega
  have HB := Lib.hid hb
  have HT := Lib.hid ht
  have HL : ∀ k, Hid (upds 0 (l.take k) < 4294967296) := fun k => Lib.hid (upds_lt _ _ (by omega))
  have H : Hid (sum l.flatten = upds 0 l) := Lib.hid (upds_flat l 0 (by omega)).symm
  clear hb hm ht
  go_enter Tryd.func12, Tryd.ntmps12
  go_wp2
  go_loop [3, 8] (fun t i => ∃ k : Nat, k ≤ l.length ∧ i = .int .i64 (k : Int) ∧ t = .int .u32 (upds 0 (l.take k) : Nat)) (fun _ i => l.length - (intOf i).toNat)
  case atStart => exact ⟨0, Nat.zero_le _, rfl, rfl⟩
  case round =>
    obtain ⟨k, hk, rfl, rfl⟩ := hrel
    have ht := (HL k).out
    by_cases hlt : k < l.length
    · have hlt' : (k : Int) < (l.length : Int) := by omega
      obtain ⟨b, o, a, cap, rfl, hc, hby, hml⟩ := HB.out k hlt
      have HY := Lib.hid hby
      have HE : Hid (upds 0 (l.take (k + 1)) = upd (upds 0 (l.take k)) l[k]) := Lib.hid (by rw [List.take_succ_eq_append_getElem hlt]; unfold upds; rw [List.foldl_append]; rfl)
      generalize upds 0 (l.take k) = t at *
      generalize l[k] = x at *
      clear hby
      go_wp2_with (go_at_call 13; refine (update_any _ _ _ _ _ ht HT.out HY.out hml).mono ?_; rintro e w' ⟨rfl, rfl⟩)
      go_round
      case rel => exact ⟨k + 1, by omega, by go_num, by rw [HE.out]⟩
      case measure => simp [intOf]; omega
    · obtain rfl : k = l.length := by omega
      go_wp2
      go_ret
      exact ⟨ret_int (by rw [H.out]), rfl⟩

/- Hashes of texts. -/
def hashk (h : Nat) (x : List UInt8) (k : Nat) : Nat := (x.take k).foldl (fun h c => stir h c.toNat) (stir h x.length)
theorem hashk_lt (h : Nat) (x : List UInt8) (k : Nat) : hashk h x k < 18446744073709551616 := by
  unfold hashk
  exact foldl_lt (x.take k) (stir h x.length) (stir_lt h x.length)
theorem hashk_succ (h : Nat) (x : List UInt8) (k : Nat) (hk : k < x.length) : hashk h x (k + 1) = stir (hashk h x k) x[k].toNat := by
  unfold hashk
  rw [List.take_succ_eq_append_getElem hk, List.foldl_append, List.foldl_cons, List.foldl_nil]
theorem hashk_all (h : Nat) (x : List UInt8) : hashk h x x.length = hash1 h x := by unfold hashk hash1; rw [List.take_length]
theorem hashes_succ (h : Nat) (l : List (List UInt8)) (k : Nat) (hk : k < l.length) : hashes h (l.take (k + 1)) = hash1 (hashes h (l.take k)) l[k] := by
  rw [List.take_succ_eq_append_getElem hk]; unfold hashes; rw [List.foldl_append, List.foldl_cons, List.foldl_nil]

theorem hash_any (p : Option Addr) (l : List (List UInt8)) (cap : Nat) (w : World) (hb : Strs w p l) (hm : l.length ≤ maxLen) :
    Calls Tryd.prog 19 #[.slice p l.length cap] w fun e w' => e = .returned (.int .u64 (Mx.hash l : Nat)) ∧ w = w' := by
  have hm' : (l.length : Int) ≤ 9223372036854775807 := by unfold maxLen at hm; omega
  have HB := Lib.hid hb
  have HL : ∀ k, Hid (hashes 11400714819323198485 (l.take k) < 18446744073709551616) := fun k => Lib.hid (hashes_lt _ _ (by omega))
  have H : Hid (Mx.hash l = hashes 11400714819323198485 l) := Lib.hid rfl
  clear hb hm
  go_enter Tryd.func19, Tryd.ntmps19
  go_wp2
  go_loop [3, 9] (fun t i => ∃ k : Nat, k ≤ l.length ∧ i = .int .i64 (k : Int) ∧ t = .int .u64 (hashes 11400714819323198485 (l.take k) : Nat)) (fun _ i => l.length - (intOf i).toNat)
  case atStart => exact ⟨0, Nat.zero_le _, rfl, rfl⟩
  case round =>
    obtain ⟨k, hk, rfl, rfl⟩ := hrel
    have ht := (HL k).out
    by_cases hlt : k < l.length
    · have hlt' : (k : Int) < (l.length : Int) := by omega
      obtain ⟨b, o, rfl, hc, hml⟩ := HB.out k hlt
      have hml' : (l[k].length : Int) ≤ 9223372036854775807 := by unfold maxLen at hml; omega
      have hml'' : l[k].length < 18446744073709551616 := by omega
      have HE : Hid (hashes 11400714819323198485 (l.take (k + 1)) = hash1 (hashes 11400714819323198485 (l.take k)) l[k]) := Lib.hid (hashes_succ _ _ _ hlt)
      generalize hashes 11400714819323198485 (l.take k) = t at *
      generalize l[k] = x at *
      have HK : ∀ j, Hid (hashk t x j < 18446744073709551616) := fun j => Lib.hid (hashk_lt _ _ _)
      have H0 : Hid (hashk t x 0 = stir t x.length) := Lib.hid (by unfold hashk; rw [List.take_zero, List.foldl_nil])
      have HA : Hid (hashk t x x.length = hash1 t x) := Lib.hid (hashk_all t x)
      go_wp2_with (go_at_call 26; with_reducible refine (stir_any _ _ _ ht hml'').mono ?_; rintro e w' ⟨rfl, rfl⟩)
      go_loop [3, 20] (fun t' i => ∃ j : Nat, j ≤ x.length ∧ i = .int .i64 (j : Int) ∧ t' = .int .u64 (hashk t x j : Nat)) (fun _ i => x.length - (intOf i).toNat)
      case atStart => exact ⟨0, Nat.zero_le _, rfl, by rw [H0.out]⟩
      case round =>
        obtain ⟨j, hj, rfl, rfl⟩ := hrel
        have hh := (HK j).out
        by_cases hjl : j < x.length
        · have hjl' : (j : Int) < (x.length : Int) := by omega
          have hc1 : x[j].toNat < 256 := x[j].toNat_lt
          have hc2 : x[j].toNat < 18446744073709551616 := by omega
          have HS : Hid (hashk t x (j + 1) = stir (hashk t x j) x[j].toNat) := Lib.hid (hashk_succ _ _ _ hjl)
          have HW : Hid (∀ h', IntKind.u64.wrap (((⟨x.toArray⟩ : ByteArray)[j]'h').toNat : Int) = (x[j].toNat : Int)) := Lib.hid (fun h' => by rw [IntKind.wrap_u64]; show (x[j].toNat : Int) % _ = _; omega)
          generalize hashk t x j = y at *
          go_wp2_with (go_at_call 26; rw [HW.out]; with_reducible refine (stir_any _ _ _ hh hc2).mono ?_; rintro e w' ⟨rfl, rfl⟩)
          go_round
          case rel => exact ⟨j + 1, by omega, by go_num, by rw [HS.out]⟩
          case measure => simp [intOf]; omega
        · obtain rfl : j = x.length := by omega
          go_wp2
          go_round
          case rel => exact ⟨k + 1, by omega, by go_num, by rw [HE.out, HA.out]⟩
          case measure => simp [intOf]; omega
    · obtain rfl : k = l.length := by omega
      go_wp2
      go_ret
      exact ⟨ret_int (by rw [H.out]), rfl⟩
theorem refHash_any (p : Option Addr) (l : List (List UInt8)) (cap : Nat) (w : World) (hb : Strs w p l) (hm : l.length ≤ maxLen) :
    Calls Tryd.prog 20 #[.slice p l.length cap] w fun e w' => e = .returned (.int .u64 (Mx.hash l : Nat)) ∧ w = w' := by
  have hm' : (l.length : Int) ≤ 9223372036854775807 := by unfold maxLen at hm; omega
  have HB := Lib.hid hb
  have HL : ∀ k, Hid (hashes 11400714819323198485 (l.take k) < 18446744073709551616) := fun k => Lib.hid (hashes_lt _ _ (by omega))
  have H : Hid (Mx.hash l = hashes 11400714819323198485 l) := Lib.hid rfl
  clear hb hm
  go_enter Tryd.func20, Tryd.ntmps20
  go_wp2
  go_loop [3, 4] (fun t i => ∃ k : Nat, k ≤ l.length ∧ i = .int .i64 (k : Int) ∧ t = .int .u64 (hashes 11400714819323198485 (l.take k) : Nat)) (fun _ i => l.length - (intOf i).toNat)
  case atStart => exact ⟨0, Nat.zero_le _, rfl, rfl⟩
  case round =>
    obtain ⟨k, hk, rfl, rfl⟩ := hrel
    have ht := (HL k).out
    by_cases hlt : k < l.length
    · have hlt' : (k : Int) < (l.length : Int) := by omega
      obtain ⟨b, o, rfl, hc, hml⟩ := HB.out k hlt
      have hml' : (l[k].length : Int) ≤ 9223372036854775807 := by unfold maxLen at hml; omega
      have hml'' : l[k].length < 18446744073709551616 := by omega
      have HE : Hid (hashes 11400714819323198485 (l.take (k + 1)) = hash1 (hashes 11400714819323198485 (l.take k)) l[k]) := Lib.hid (hashes_succ _ _ _ hlt)
      generalize hashes 11400714819323198485 (l.take k) = t at *
      generalize l[k] = x at *
      have HK : ∀ j, Hid (hashk t x j < 18446744073709551616) := fun j => Lib.hid (hashk_lt _ _ _)
      have H0 : Hid (hashk t x 0 = stir t x.length) := Lib.hid (by unfold hashk; rw [List.take_zero, List.foldl_nil])
      have HA : Hid (hashk t x x.length = hash1 t x) := Lib.hid (hashk_all t x)
      have hx := xor_lt64 ht hml''
      have ex := bits_xor_u64_nat t x.length ht hml''
      have HG : Hid (IntKind.u64.wrap ((mix (t ^^^ x.length) : Int) + 11400714819323198485) = ((stir t x.length : Nat) : Int)) := Lib.hid (plusG _)
      go_wp2_with (go_at_call 16; with_reducible refine (refMix_any _ _ hx).mono ?_; rintro e w' ⟨rfl, rfl⟩)
      clear ex hx
      go_loop [3, 5] (fun t' i => ∃ j : Nat, j ≤ x.length ∧ i = .int .i64 (j : Int) ∧ t' = .int .u64 (hashk t x j : Nat)) (fun _ i => x.length - (intOf i).toNat)
      case atStart => exact ⟨0, Nat.zero_le _, rfl, by rw [H0.out, HG.out]⟩
      case round =>
        obtain ⟨j, hj, rfl, rfl⟩ := hrel
        have hh := (HK j).out
        by_cases hjl : j < x.length
        · have hjl' : (j : Int) < (x.length : Int) := by omega
          have hc1 : x[j].toNat < 256 := x[j].toNat_lt
          have hc2 : x[j].toNat < 18446744073709551616 := by omega
          have HS : Hid (hashk t x (j + 1) = stir (hashk t x j) x[j].toNat) := Lib.hid (hashk_succ _ _ _ hjl)
          have HW : Hid (∀ h', IntKind.u64.wrap (((⟨x.toArray⟩ : ByteArray)[j]'h').toNat : Int) = (x[j].toNat : Int)) := Lib.hid (fun h' => by rw [IntKind.wrap_u64]; show (x[j].toNat : Int) % _ = _; omega)
          generalize hashk t x j = y at *
          have hx := xor_lt64 hh hc2
          have EX := Lib.hid (bits_xor_u64_nat y x[j].toNat hh hc2)
          have HG' : Hid (IntKind.u64.wrap ((mix (y ^^^ x[j].toNat) : Int) + 11400714819323198485) = ((stir y x[j].toNat : Nat) : Int)) := Lib.hid (plusG _)
          go_wp2_with (go_at_call 16; rw [HW.out, EX.out]; with_reducible refine (refMix_any _ _ hx).mono ?_; rintro e w' ⟨rfl, rfl⟩)
          go_round
          case rel => exact ⟨j + 1, by omega, by go_num, by rw [HS.out, HG'.out]⟩
          case measure => simp [intOf]; omega
        · obtain rfl : j = x.length := by omega
          go_wp2
          go_round
          case rel => exact ⟨k + 1, by omega, by go_num, by rw [HE.out, HA.out]⟩
          case measure => simp [intOf]; omega
    · obtain rfl : k = l.length := by omega
      go_wp2
      go_ret
      exact ⟨ret_int (by rw [H.out]), rfl⟩

/-- A number of places: none of what is below 1. -/
def spr (n : Int) (l : List (List UInt8)) : Int := if n < 1 then 0 else (spread n.toNat l : Nat)
theorem spr_lo (n : Int) (l : List (List UInt8)) (h : n < 1) : spr n l = 0 := if_pos h
theorem spr_hi (n : Nat) (l : List (List UInt8)) (h : 1 ≤ n) : spr (n : Int) l = (spread n l : Nat) := by unfold spr; rw [if_neg (by omega)]; simp
theorem spr_bd (n : Int) (l : List (List UInt8)) (h : 1 ≤ n) : 0 ≤ spr n l ∧ spr n l < n := by
  obtain ⟨k, rfl⟩ : ∃ k : Nat, n = (k : Int) := ⟨n.toNat, by omega⟩
  have := spread_lt (n := k) l (by omega)
  rw [spr_hi k l (by omega)]; omega
theorem spr_mono (m n : Int) (l : List (List UInt8)) (h : m ≤ n) : spr m l ≤ spr n l := by
  by_cases h1 : m < 1
  · rw [spr_lo m l h1]
    by_cases h2 : n < 1
    · rw [spr_lo n l h2]; exact Int.le_refl _
    · exact (spr_bd n l (by omega)).1
  · obtain ⟨k, rfl⟩ : ∃ k : Nat, m = (k : Int) := ⟨m.toNat, by omega⟩
    obtain ⟨j, rfl⟩ : ∃ j : Nat, n = (j : Int) := ⟨n.toNat, by omega⟩
    have := spread_mono l (show k ≤ j by omega)
    rw [spr_hi k l (by omega), spr_hi j l (by omega)]; omega

theorem spread_any (n : Int) (p : Option Addr) (l : List (List UInt8)) (cap : Nat) (w : World) (hn1 : n ≤ 9223372036854775807) (hb : Strs w p l) (hm : l.length ≤ maxLen) :
    Calls Tryd.prog 18 #[.int .i64 n, .slice p l.length cap] w fun e w' => e = .returned (.int .i64 (spr n l)) ∧ w = w' := by
  have HB := Lib.hid hb
  clear hb
  by_cases h1 : n < 1
  · have H := Lib.hid (spr_lo n l h1)
    go_enter Tryd.func18, Tryd.ntmps18
    go_wp2
    go_ret
    exact ⟨ret_int H.out.symm, rfl⟩
  · obtain ⟨k, rfl⟩ : ∃ k : Nat, n = (k : Int) := ⟨n.toNat, by omega⟩
    have hs := spread_lt (n := k) l (by omega)
    have H := Lib.hid (spr_hi k l (by omega))
    have hk : k < 18446744073709551616 := by omega
    have HH := hash_lt l
    have hw : IntKind.u64.wrap (k : Int) = (k : Int) := by rw [IntKind.wrap_u64]; omega
    have HS : Hid (k * Mx.hash l / 18446744073709551616 = spread k l) := Lib.hid rfl
    go_enter Tryd.func18, Tryd.ntmps18
    go_wp2_with (first | (go_at_call 19; refine (hash_any _ _ _ _ HB.out hm).mono ?_; rintro e w' ⟨rfl, rfl⟩) | (go_at_call 25; with_reducible refine (mul64_any _ _ hk HH _).mono ?_; rintro e w' ⟨rfl, rfl⟩; rw [HS.out]))
    go_ret
    exact ⟨ret_int (by rw [H.out]), rfl⟩
theorem refSpread_any (n : Int) (p : Option Addr) (l : List (List UInt8)) (cap : Nat) (w : World) (hn1 : n ≤ 9223372036854775807) (hb : Strs w p l) (hm : l.length ≤ maxLen) :
    Calls Tryd.prog 21 #[.int .i64 n, .slice p l.length cap] w fun e w' => e = .returned (.int .i64 (spr n l)) ∧ w = w' := by
  have HB := Lib.hid hb
  clear hb
  by_cases h1 : n < 1
  · have H := Lib.hid (spr_lo n l h1)
    go_enter Tryd.func21, Tryd.ntmps21
    go_wp2
    go_ret
    exact ⟨ret_int H.out.symm, rfl⟩
  · obtain ⟨k, rfl⟩ : ∃ k : Nat, n = (k : Int) := ⟨n.toNat, by omega⟩
    have hs := spread_lt (n := k) l (by omega)
    have H := Lib.hid (spr_hi k l (by omega))
    have hk : k < 18446744073709551616 := by omega
    have HH := hash_lt l
    have hw : IntKind.u64.wrap (k : Int) = (k : Int) := by rw [IntKind.wrap_u64]; omega
    have HS : Hid (k * Mx.hash l / 18446744073709551616 = spread k l) := Lib.hid rfl
    go_enter Tryd.func21, Tryd.ntmps21
    go_wp2_with (first | (go_at_call 20; refine (refHash_any _ _ _ _ HB.out hm).mono ?_; rintro e w' ⟨rfl, rfl⟩) | (go_at_call 25; with_reducible refine (mul64_any _ _ hk HH _).mono ?_; rintro e w' ⟨rfl, rfl⟩; rw [HS.out]))
    go_ret
    exact ⟨ret_int (by rw [H.out]), rfl⟩
end Go.Proofs.YtloemgdfmagbnaaDoor
