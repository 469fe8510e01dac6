/- Walks of package mix and of its answers by definition: sums. -/
import Derived.Test.YtnikhhbnbeljeaaGreatDoorMixA
import Derived.Test.YtnikhhbnbeljeaaGreatDoorBase
import Derived.Test.YtnikhhbnbeljeaaGreatDoorMixB
import Derived.Test.YtnikhhbnbeljeaaGreatDoorOpen
import Derived.Test.YtnikhhbnbeljeaaGreatDoorProg
import Derived.PlainAid
import Derived.Laws.BitsAllLaws
import Derived.WalkKit
import Derived.Handy
import Derived.ProofKit
import Derived.OpenShut
import Derived.Deep.DeepHandedRow
import Derived.Lib.Hide
import Derived.Laws.Tables
import Derived.Carry
import Derived.Deep.QuietTactic
import Derived.BigQuiet
import Derived.Outline
import Derived.Laws.ShiftsVar
import Derived.WalkSmall
import Derived.WalkSpells
import Derived.Lib.Strings
import Derived.Shelf.Bits.Mul64
import Derived.SliceStrings
set_option linter.unusedSimpArgs false
set_option linter.unusedVariables false
namespace Go.Proofs.YtnikhhbnbeljeaaGreatDoor.MI
open Go.ChangeShapes Go.WideShapes Go.ChangeAt Go.RowKit Go.Base Go.Mx

theorem not32 (s : Nat) (hs : s < 4294967296) : bits BinOp.xor IntKind.u32 IntKind.u32.max (s : Int) = ((4294967295 - s : Nat) : Int) := by
  have h := u32_xor_nat 4294967295 s (by omega) hs
  have e : 4294967295 ^^^ s = 4294967295 - s := by
    apply Nat.eq_of_testBit_eq
    intro i
    rw [Nat.testBit_xor, show 4294967295 - s = 2 ^ 32 - (s + 1) by omega, Nat.testBit_two_pow_sub_succ (by omega), show (4294967295 : Nat) = 2 ^ 32 - 1 by decide, Nat.testBit_two_pow_sub_one]
    by_cases hi : i < 32
    · simp [hi]
    · have : s.testBit i = false := Nat.testBit_lt_two_pow (Nat.lt_of_lt_of_le (show s < 2 ^ 32 by omega) (Nat.pow_le_pow_right (by decide) (by omega)))
      simp [hi, this]
  rw [e] at h
  exact h
theorem and15 (x : Nat) (hx : x < 4294967296) : bits BinOp.and IntKind.u32 (x : Int) 15 = ((x % 16 : Nat) : Int) := by
  have h := u32_and_nat x 15 hx (by omega)
  rw [show x &&& 15 = x % 16 from Nat.and_two_pow_sub_one_eq_mod x 4] at h
  exact h
theorem four_xor (x : Nat) (hx : x < 4294967296) : bits BinOp.xor IntKind.u32 ((x : Int) / 16) (st4 (x % 16) : Nat) = ((st4 x : Nat) : Int) := by
  have hl := st4_low ⟨x % 16, by omega⟩
  have hb := fours_lt ⟨x % 16, by omega⟩
  simp only at hl hb
  rw [← hl] at hb
  have h := u32_xor_nat (x / 16) (st4 (x % 16)) (by omega) (by omega)
  rw [← nat_div x 16] at h
  rw [st4_four x]
  exact h

def st1n : Nat → Nat → Nat
  | 0, x => x
  | k + 1, x => st1 (st1n k x)
theorem st1n_lt {x : Nat} (h : x < 4294967296) : ∀ k, st1n k x < 4294967296
  | 0 => h
  | k + 1 => st1_lt (st1n_lt h k)
theorem st1_odd {x : Nat} (hx : x < 4294967296) (h : x % 2 = 1) : bits BinOp.xor IntKind.u32 ((x : Int) / 2) 3988292384 = ((st1 x : Nat) : Int) := by
  have e := u32_xor_nat (x / 2) 3988292384 (by omega) (by omega)
  unfold st1
  rw [if_pos h]
  exact e
theorem st1_evn {x : Nat} (h : ¬ x % 2 = 1) : ((x : Int) / 2) = ((st1 x : Nat) : Int) := by
  unfold st1
  rw [if_neg h]
  omega

/-- A list of lists of bytes. -/
def Parts (w : World) (p : Option Addr) (l : List (List UInt8)) : Prop := ∀ (i : Nat) (h : i < l.length), ∃ b o a cap, p = some ⟨b, o, none⟩ ∧ w.cell? ⟨b, o + i, none⟩ = some (.slice a l[i].length cap) ∧ Byt w a l[i] ∧ l[i].length ≤ maxLen
def upds (s : Nat) (l : List (List UInt8)) : Nat := l.foldl upd s
theorem upds_lt (l : List (List UInt8)) : ∀ s, s < 4294967296 → upds s l < 4294967296 := by
  induction l with
  | nil => intro s h; exact h
  | cons c l ih => intro s _; unfold upds; rw [List.foldl_cons]; exact ih _ (upd_lt _ _)
theorem upds_flat (l : List (List UInt8)) : ∀ s, s < 4294967296 → upds s l = upd s l.flatten := by
  induction l with
  | nil => intro s h; exact (upd_nil s h).symm
  | cons c l ih => intro s h; rw [List.flatten_cons, upd_append s _ _ h, ← ih _ (upd_lt _ _)]; rfl

/- Hashes of texts. -/
def hashk (h : Nat) (x : List UInt8) (k : Nat) : Nat := (x.take k).foldl (fun h c => stir h c.toNat) (stir h x.length)
theorem hashk_lt (h : Nat) (x : List UInt8) (k : Nat) : hashk h x k < 18446744073709551616 := by
  unfold hashk
  exact foldl_lt (x.take k) (stir h x.length) (stir_lt h x.length)
theorem hashk_succ (h : Nat) (x : List UInt8) (k : Nat) (hk : k < x.length) : hashk h x (k + 1) = stir (hashk h x k) x[k].toNat := by
  unfold hashk
  rw [List.take_succ_eq_append_getElem hk, List.foldl_append, List.foldl_cons, List.foldl_nil]
theorem hashk_all (h : Nat) (x : List UInt8) : hashk h x x.length = hash1 h x := by unfold hashk hash1; rw [List.take_length]
theorem hashes_succ (h : Nat) (l : List (List UInt8)) (k : Nat) (hk : k < l.length) : hashes h (l.take (k + 1)) = hash1 (hashes h (l.take k)) l[k] := by
  rw [List.take_succ_eq_append_getElem hk]; unfold hashes; rw [List.foldl_append, List.foldl_cons, List.foldl_nil]

theorem hash_any (p : Option Addr) (l : List (List UInt8)) (cap : Nat) (w : World) (hb : Strs w p l) (hm : l.length ≤ maxLen) :
    Calls Tryz.prog 85 #[.slice p l.length cap] w fun e w' => e = .returned (.int .u64 (Mx.hash l : Nat)) ∧ w = w' := by
  have hm' : (l.length : Int) ≤ 9223372036854775807 := by unfold maxLen at hm; omega
  have HB := Lib.hid hb
  have HL : ∀ k, Hid (hashes 11400714819323198485 (l.take k) < 18446744073709551616) := fun k => Lib.hid (hashes_lt _ _ (by omega))
  have H : Hid (Mx.hash l = hashes 11400714819323198485 l) := Lib.hid rfl
  clear hb hm
  go_enter Tryz.func85, Tryz.ntmps85
  go_wp2
  go_loop [3, 9] (fun t i => ∃ k : Nat, k ≤ l.length ∧ i = .int .i64 (k : Int) ∧ t = .int .u64 (hashes 11400714819323198485 (l.take k) : Nat)) (fun _ i => l.length - (intOf i).toNat)
  case atStart => exact ⟨0, Nat.zero_le _, rfl, rfl⟩
  case round =>
    obtain ⟨k, hk, rfl, rfl⟩ := hrel
    have ht := (HL k).out
    by_cases hlt : k < l.length
    · have hlt' : (k : Int) < (l.length : Int) := by omega
      obtain ⟨b, o, rfl, hc, hml⟩ := HB.out k hlt
      have hml' : (l[k].length : Int) ≤ 9223372036854775807 := by unfold maxLen at hml; omega
      have hml'' : l[k].length < 18446744073709551616 := by omega
      have HE : Hid (hashes 11400714819323198485 (l.take (k + 1)) = hash1 (hashes 11400714819323198485 (l.take k)) l[k]) := Lib.hid (hashes_succ _ _ _ hlt)
      generalize hashes 11400714819323198485 (l.take k) = t at *
      generalize l[k] = x at *
      have HK : ∀ j, Hid (hashk t x j < 18446744073709551616) := fun j => Lib.hid (hashk_lt _ _ _)
      have H0 : Hid (hashk t x 0 = stir t x.length) := Lib.hid (by unfold hashk; rw [List.take_zero, List.foldl_nil])
      have HA : Hid (hashk t x x.length = hash1 t x) := Lib.hid (hashk_all t x)
      go_wp2_with (go_at_call 144; with_reducible refine (stir_any _ _ _ ht hml'').mono ?_; rintro e w' ⟨rfl, rfl⟩)
      go_loop [3, 20] (fun t' i => ∃ j : Nat, j ≤ x.length ∧ i = .int .i64 (j : Int) ∧ t' = .int .u64 (hashk t x j : Nat)) (fun _ i => x.length - (intOf i).toNat)
      case atStart => exact ⟨0, Nat.zero_le _, rfl, by rw [H0.out]⟩
      case round =>
        obtain ⟨j, hj, rfl, rfl⟩ := hrel
        have hh := (HK j).out
        by_cases hjl : j < x.length
        · have hjl' : (j : Int) < (x.length : Int) := by omega
          have hc1 : x[j].toNat < 256 := x[j].toNat_lt
          have hc2 : x[j].toNat < 18446744073709551616 := by omega
          have HS : Hid (hashk t x (j + 1) = stir (hashk t x j) x[j].toNat) := Lib.hid (hashk_succ _ _ _ hjl)
          have HW : Hid (∀ h', IntKind.u64.wrap (((⟨x.toArray⟩ : ByteArray)[j]'h').toNat : Int) = (x[j].toNat : Int)) := Lib.hid (fun h' => by rw [IntKind.wrap_u64]; show (x[j].toNat : Int) % _ = _; omega)
          generalize hashk t x j = y at *
          go_wp2_with (go_at_call 144; rw [HW.out]; with_reducible refine (stir_any _ _ _ hh hc2).mono ?_; rintro e w' ⟨rfl, rfl⟩)
          go_round
          case rel => exact ⟨j + 1, by omega, by go_num, by rw [HS.out]⟩
          case measure => simp [intOf]; omega
        · obtain rfl : j = x.length := by omega
          go_wp2
          go_round
          case rel => exact ⟨k + 1, by omega, by go_num, by rw [HE.out, HA.out]⟩
          case measure => simp [intOf]; omega
    · obtain rfl : k = l.length := by omega
      go_wp2
      go_ret
      exact ⟨ret_int (by rw [H.out]), rfl⟩
theorem refHash_any (p : Option Addr) (l : List (List UInt8)) (cap : Nat) (w : World) (hb : Strs w p l) (hm : l.length ≤ maxLen) :
    Calls Tryz.prog 87 #[.slice p l.length cap] w fun e w' => e = .returned (.int .u64 (Mx.hash l : Nat)) ∧ w = w' := by
  have hm' : (l.length : Int) ≤ 9223372036854775807 := by unfold maxLen at hm; omega
  have HB := Lib.hid hb
  have HL : ∀ k, Hid (hashes 11400714819323198485 (l.take k) < 18446744073709551616) := fun k => Lib.hid (hashes_lt _ _ (by omega))
  have H : Hid (Mx.hash l = hashes 11400714819323198485 l) := Lib.hid rfl
  clear hb hm
  go_enter Tryz.func87, Tryz.ntmps87
  go_wp2
  go_loop [3, 4] (fun t i => ∃ k : Nat, k ≤ l.length ∧ i = .int .i64 (k : Int) ∧ t = .int .u64 (hashes 11400714819323198485 (l.take k) : Nat)) (fun _ i => l.length - (intOf i).toNat)
  case atStart => exact ⟨0, Nat.zero_le _, rfl, rfl⟩
  case round =>
    obtain ⟨k, hk, rfl, rfl⟩ := hrel
    have ht := (HL k).out
    by_cases hlt : k < l.length
    · have hlt' : (k : Int) < (l.length : Int) := by omega
      obtain ⟨b, o, rfl, hc, hml⟩ := HB.out k hlt
      have hml' : (l[k].length : Int) ≤ 9223372036854775807 := by unfold maxLen at hml; omega
      have hml'' : l[k].length < 18446744073709551616 := by omega
      have HE : Hid (hashes 11400714819323198485 (l.take (k + 1)) = hash1 (hashes 11400714819323198485 (l.take k)) l[k]) := Lib.hid (hashes_succ _ _ _ hlt)
      generalize hashes 11400714819323198485 (l.take k) = t at *
      generalize l[k] = x at *
      have HK : ∀ j, Hid (hashk t x j < 18446744073709551616) := fun j => Lib.hid (hashk_lt _ _ _)
      have H0 : Hid (hashk t x 0 = stir t x.length) := Lib.hid (by unfold hashk; rw [List.take_zero, List.foldl_nil])
      have HA : Hid (hashk t x x.length = hash1 t x) := Lib.hid (hashk_all t x)
      have hx := xor_lt64 ht hml''
      have ex := bits_xor_u64_nat t x.length ht hml''
      have HG : Hid (IntKind.u64.wrap ((mix (t ^^^ x.length) : Int) + 11400714819323198485) = ((stir t x.length : Nat) : Int)) := Lib.hid (plusG _)
      go_wp2_with (go_at_call 146; with_reducible refine (refMix_any _ _ hx).mono ?_; rintro e w' ⟨rfl, rfl⟩)
      clear ex hx
      go_loop [3, 5] (fun t' i => ∃ j : Nat, j ≤ x.length ∧ i = .int .i64 (j : Int) ∧ t' = .int .u64 (hashk t x j : Nat)) (fun _ i => x.length - (intOf i).toNat)
      case atStart => exact ⟨0, Nat.zero_le _, rfl, by rw [H0.out, HG.out]⟩
      case round =>
        obtain ⟨j, hj, rfl, rfl⟩ := hrel
        have hh := (HK j).out
        by_cases hjl : j < x.length
        · have hjl' : (j : Int) < (x.length : Int) := by omega
          have hc1 : x[j].toNat < 256 := x[j].toNat_lt
          have hc2 : x[j].toNat < 18446744073709551616 := by omega
          have HS : Hid (hashk t x (j + 1) = stir (hashk t x j) x[j].toNat) := Lib.hid (hashk_succ _ _ _ hjl)
          have HW : Hid (∀ h', IntKind.u64.wrap (((⟨x.toArray⟩ : ByteArray)[j]'h').toNat : Int) = (x[j].toNat : Int)) := Lib.hid (fun h' => by rw [IntKind.wrap_u64]; show (x[j].toNat : Int) % _ = _; omega)
          generalize hashk t x j = y at *
          have hx := xor_lt64 hh hc2
          have EX := Lib.hid (bits_xor_u64_nat y x[j].toNat hh hc2)
          have HG' : Hid (IntKind.u64.wrap ((mix (y ^^^ x[j].toNat) : Int) + 11400714819323198485) = ((stir y x[j].toNat : Nat) : Int)) := Lib.hid (plusG _)
          go_wp2_with (go_at_call 146; rw [HW.out, EX.out]; with_reducible refine (refMix_any _ _ hx).mono ?_; rintro e w' ⟨rfl, rfl⟩)
          go_round
          case rel => exact ⟨j + 1, by omega, by go_num, by rw [HS.out, HG'.out]⟩
          case measure => simp [intOf]; omega
        · obtain rfl : j = x.length := by omega
          go_wp2
          go_round
          case rel => exact ⟨k + 1, by omega, by go_num, by rw [HE.out, HA.out]⟩
          case measure => simp [intOf]; omega
    · obtain rfl : k = l.length := by omega
      go_wp2
      go_ret
      exact ⟨ret_int (by rw [H.out]), rfl⟩

/-- A number of places: none of what is below 1. -/
def spr (n : Int) (l : List (List UInt8)) : Int := if n < 1 then 0 else (spread n.toNat l : Nat)
theorem spr_lo (n : Int) (l : List (List UInt8)) (h : n < 1) : spr n l = 0 := if_pos h
theorem spr_hi (n : Nat) (l : List (List UInt8)) (h : 1 ≤ n) : spr (n : Int) l = (spread n l : Nat) := by unfold spr; rw [if_neg (by omega)]; simp
theorem spr_bd (n : Int) (l : List (List UInt8)) (h : 1 ≤ n) : 0 ≤ spr n l ∧ spr n l < n := by
  obtain ⟨k, rfl⟩ : ∃ k : Nat, n = (k : Int) := ⟨n.toNat, by omega⟩
  have := spread_lt (n := k) l (by omega)
  rw [spr_hi k l (by omega)]; omega
theorem spr_mono (m n : Int) (l : List (List UInt8)) (h : m ≤ n) : spr m l ≤ spr n l := by
  by_cases h1 : m < 1
  · rw [spr_lo m l h1]
    by_cases h2 : n < 1
    · rw [spr_lo n l h2]; exact Int.le_refl _
    · exact (spr_bd n l (by omega)).1
  · obtain ⟨k, rfl⟩ : ∃ k : Nat, m = (k : Int) := ⟨m.toNat, by omega⟩
    obtain ⟨j, rfl⟩ : ∃ j : Nat, n = (j : Int) := ⟨n.toNat, by omega⟩
    have := spread_mono l (show k ≤ j by omega)
    rw [spr_hi k l (by omega), spr_hi j l (by omega)]; omega

theorem spread_any (n : Int) (p : Option Addr) (l : List (List UInt8)) (cap : Nat) (w : World) (hn1 : n ≤ 9223372036854775807) (hb : Strs w p l) (hm : l.length ≤ maxLen) :
    Calls Tryz.prog 142 #[.int .i64 n, .slice p l.length cap] w fun e w' => e = .returned (.int .i64 (spr n l)) ∧ w = w' := by
  have HB := Lib.hid hb
  clear hb
  by_cases h1 : n < 1
  · have H := Lib.hid (spr_lo n l h1)
    go_enter Tryz.func142, Tryz.ntmps142
    go_wp2
    go_ret
    exact ⟨ret_int H.out.symm, rfl⟩
  · obtain ⟨k, rfl⟩ : ∃ k : Nat, n = (k : Int) := ⟨n.toNat, by omega⟩
    have hs := spread_lt (n := k) l (by omega)
    have H := Lib.hid (spr_hi k l (by omega))
    have hk : k < 18446744073709551616 := by omega
    have HH := hash_lt l
    have hw : IntKind.u64.wrap (k : Int) = (k : Int) := by rw [IntKind.wrap_u64]; omega
    have HS : Hid (k * Mx.hash l / 18446744073709551616 = spread k l) := Lib.hid rfl
    go_enter Tryz.func142, Tryz.ntmps142
    go_wp2_with (first | (go_at_call 85; refine (hash_any _ _ _ _ HB.out hm).mono ?_; rintro e w' ⟨rfl, rfl⟩) | (go_at_call 143; with_reducible refine (mul64_any _ _ hk HH _).mono ?_; rintro e w' ⟨rfl, rfl⟩; rw [HS.out]))
    go_ret
    exact ⟨ret_int (by rw [H.out]), rfl⟩
theorem refSpread_any (n : Int) (p : Option Addr) (l : List (List UInt8)) (cap : Nat) (w : World) (hn1 : n ≤ 9223372036854775807) (hb : Strs w p l) (hm : l.length ≤ maxLen) :
    Calls Tryz.prog 83 #[.int .i64 n, .slice p l.length cap] w fun e w' => e = .returned (.int .i64 (spr n l)) ∧ w = w' := by
  have HB := Lib.hid hb
  clear hb
  by_cases h1 : n < 1
  · have H := Lib.hid (spr_lo n l h1)
    go_enter Tryz.func83, Tryz.ntmps83
    go_wp2
    go_ret
    exact ⟨ret_int H.out.symm, rfl⟩
  · obtain ⟨k, rfl⟩ : ∃ k : Nat, n = (k : Int) := ⟨n.toNat, by omega⟩
    have hs := spread_lt (n := k) l (by omega)
    have H := Lib.hid (spr_hi k l (by omega))
    have hk : k < 18446744073709551616 := by omega
    have HH := hash_lt l
    have hw : IntKind.u64.wrap (k : Int) = (k : Int) := by rw [IntKind.wrap_u64]; omega
    have HS : Hid (k * Mx.hash l / 18446744073709551616 = spread k l) := Lib.hid rfl
    go_enter Tryz.func83, Tryz.ntmps83
    go_wp2_with (first | (go_at_call 87; refine (refHash_any _ _ _ _ HB.out hm).mono ?_; rintro e w' ⟨rfl, rfl⟩) | (go_at_call 143; with_reducible refine (mul64_any _ _ hk HH _).mono ?_; rintro e w' ⟨rfl, rfl⟩; rw [HS.out]))
    go_ret
    exact ⟨ret_int (by rw [H.out]), rfl⟩
end Go.Proofs.YtnikhhbnbeljeaaGreatDoor.MI
