/- Walks of package next: how many moments there are. -/
import Derived.Test.YtnijneajlmgkjaaDoorNxtO
import Derived.Test.YtnijneajlmgkjaaDoorNxtJ
import Derived.Laws.Bits128
set_option linter.unusedSimpArgs false
set_option linter.unusedVariables false
namespace Go.Proofs.YtnijneajlmgkjaaDoor
open Go.ChangeShapes Go.WideShapes Go.ChangeAt Go.RowKit Go.Base Go.Civ Go.Nxt Go.Cro

theorem ones_core (x y1 y2 y3 y4 y5 y6 : Nat) (w : World)
    (k1 : IntKind.u64.wrap (bits .and .u64 ((x : Int) / 2) 6148914691236517205 + bits .and .u64 (x : Int) 6148914691236517205) = (y1 : Int))
    (k2 : IntKind.u64.wrap (bits .and .u64 ((y1 : Int) / 4) 3689348814741910323 + bits .and .u64 (y1 : Int) 3689348814741910323) = (y2 : Int))
    (k3 : bits .and .u64 (IntKind.u64.wrap ((y2 : Int) / 16 + (y2 : Int))) 1085102592571150095 = (y3 : Int))
    (k4 : IntKind.u64.wrap ((y3 : Int) + (y3 : Int) / 256) = (y4 : Int)) (k5 : IntKind.u64.wrap ((y4 : Int) + (y4 : Int) / 65536) = (y5 : Int)) (k6 : IntKind.u64.wrap ((y5 : Int) + (y5 : Int) / 4294967296) = (y6 : Int)) (k7 : y6 < 9223372036854775808) :
    Calls Tryd.prog 52 #[.int .u64 x] w fun e w' => e = .returned (.int .i64 ((y6 % 128 : Nat) : Int)) ∧ w' = w := by
  go_enter Tryd.func52, Tryd.ntmps52
  go_wp2_with (first | simp only [k1] | simp only [k2] | simp only [k3] | simp only [k4] | simp only [k5] | simp only [k6])
  go_ret
  exact ⟨ret_int (by rw [i64_and127]; omega), rfl⟩
theorem ones64_any (x : Nat) (hx : x < 18446744073709551616) (w : World) : Calls Tryd.prog 52 #[.int .u64 x] w fun e w' => e = .returned (.int .i64 (pc x : Nat)) ∧ w' = w := by
  obtain ⟨a, b, c, d, e, f, g, h, ⟨ha, hb, hc, hd, he, hf, hg, hh⟩, h3, hp, l1, l2⟩ := ones_spec x hx
  have hA : ∀ (u v : Nat), u < 18446744073709551616 → v < 18446744073709551616 → bits .and .u64 (u : Int) (v : Int) = ((u &&& v : Nat) : Int) := u64_and_nat
  have w64 : ∀ n : Nat, n < 18446744073709551616 → IntKind.u64.wrap (n : Int) = (n : Int) := fun n hn => by rw [IntKind.wrap_u64]; omega
  generalize h1 : ones1 x = y1 at *
  generalize h2 : ones2 y1 = y2 at *
  generalize h4 : ones3 y2 = y3 at *
  have key := ones_core x y1 y2 y3 (y3 + y3 / 256) (y3 + y3 / 256 + (y3 + y3 / 256) / 65536) (y3 + y3 / 256 + (y3 + y3 / 256) / 65536 + (y3 + y3 / 256 + (y3 + y3 / 256) / 65536) / 4294967296) w ?_ ?_ ?_ ?_ ?_ ?_ ?_
  · rw [show (y3 + y3 / 256 + (y3 + y3 / 256) / 65536 + (y3 + y3 / 256 + (y3 + y3 / 256) / 65536) / 4294967296) % 128 = pc x by rw [hp]; exact sum8 ha hb hc hd he hf hg hh h3] at key
    exact key
  · have e1 := hA (x / 2) 6148914691236517205 (by omega) (by decide)
    have e2 := hA x 6148914691236517205 hx (by decide)
    rw [show ((x / 2 : Nat) : Int) = (x : Int) / 2 by omega] at e1
    rw [show ((6148914691236517205 : Nat) : Int) = 6148914691236517205 from rfl] at e1 e2
    rw [e1, e2, ← w64 y1 l1, ← h1]; unfold ones1; congr 1
  · have e1 := hA (y1 / 4) 3689348814741910323 (by omega) (by decide)
    have e2 := hA y1 3689348814741910323 l1 (by decide)
    rw [show ((y1 / 4 : Nat) : Int) = (y1 : Int) / 4 by omega] at e1
    rw [show ((3689348814741910323 : Nat) : Int) = 3689348814741910323 from rfl] at e1 e2
    rw [e1, e2, ← w64 y2 (by omega), ← h2]; unfold ones2; congr 1
  · have e0 : IntKind.u64.wrap ((y2 : Int) / 16 + (y2 : Int)) = ((y2 / 16 + y2 : Nat) : Int) := by rw [IntKind.wrap_u64]; omega
    have e1 := hA (y2 / 16 + y2) 1085102592571150095 (by omega) (by decide)
    rw [show ((1085102592571150095 : Nat) : Int) = 1085102592571150095 from rfl] at e1
    rw [e0, e1, ← h4]; rfl
  · rw [IntKind.wrap_u64]; omega
  · rw [IntKind.wrap_u64]; omega
  · rw [IntKind.wrap_u64]; omega
  · omega

theorem hasB_test (n v : Nat) (hn : n < 18446744073709551616) : hasB (n : Int) (v : Int) = n.testBit v := by
  unfold hasB
  have e : (n : Int) / 2 ^ ((v : Nat) : Int).toNat = ((n / 2 ^ v : Nat) : Int) := by
    rw [Int.toNat_natCast, Int.natCast_ediv, Int.natCast_pow]; rfl
  have hd : n / 2 ^ v < 18446744073709551616 := Nat.lt_of_le_of_lt (Nat.div_le_self _ _) hn
  have h1 := u64_and_nat (n / 2 ^ v) 1 hd (by omega)
  rw [nat_mask1] at h1
  rw [e, show (1 : Int) = ((1 : Nat) : Int) from rfl, h1, Nat.testBit_eq_decide_div_mod_eq, Bool.eq_iff_iff]
  simp only [beq_iff_eq, decide_eq_true_eq]
  omega

/-- Does a field's text say just this? -/
theorem all_bits : ∀ k, k < 5 → ∀ i, i < 64 → ((scB k).least.toNat ≤ i ∧ i ≤ (scB k).most.toNat) ∨ (18446744073709551615 - (allB (scB k)).toNat).testBit i = true := by decide +kernel
theorem all_nat : ∀ k, k < 5 → allB (scB k) = ((allB (scB k)).toNat : Int) ∧ (allB (scB k)).toNat < 18446744073709551616 := by decide +kernel
theorem may_bits {n k : Nat} (hk : k < 5) (hn : n < 18446744073709551616) (h : mayOne (n : Int) (scB k) = true) (i : Nat) (hi : n.testBit i = true) : (scB k).least.toNat ≤ i ∧ i ≤ (scB k).most.toNat := by
  unfold mayOne at h
  simp only [Bool.and_eq_true] at h
  obtain ⟨_, h⟩ := h
  obtain ⟨e, hA⟩ := all_nat k hk
  rw [e, u64_andNot_nat n _ hn hA] at h
  have h0 : n &&& (18446744073709551615 - (allB (scB k)).toNat) = 0 := by
    have := eq_of_beq h
    omega
  have hi64 : i < 64 := by
    rcases Nat.lt_or_ge i 64 with h | h
    · exact h
    · rw [Nat.testBit_lt_two_pow (Nat.lt_of_lt_of_le hn (show 18446744073709551616 ≤ 2 ^ i from Nat.le_trans (by decide : 18446744073709551616 ≤ 2 ^ 64) (Nat.pow_le_pow_right (by decide) h)))] at hi
      cases hi
  rcases all_bits k hk i hi64 with h1 | h1
  · exact h1
  · have := congrArg (fun x => Nat.testBit x i) h0
    simp only [Nat.testBit_and, hi, h1, Nat.zero_testBit, Bool.and_self] at this
    cases this

/-- On how many days of months it matches, from a month on. -/
def DB (s : Sp) (a : Int) : Nat → Nat
  | 0 => 0
  | k + 1 => DB s a k + pc (mdays s (a + k))
theorem DB_le (s : Sp) (a : Int) (k : Nat) : DB s a k ≤ 64 * k := by
  induction k with
  | zero => simp [DB]
  | succ k ih => have := pc_le (mdays s (a + k)); simp only [DB]; omega

set_option maxHeartbeats 1000000 in
theorem daysBefore_any (s : Sp) (hs : SpOk s) (y : Int) (k : Nat) (hy1 : 1 ≤ y) (hy2 : y ≤ 9999) (hk : k ≤ 12) (w : World) (ht : Tab w) :
    Calls Tryd.prog 37 #[spV s, .int .i64 y, .int .i64 ((k : Int) + 1)] w fun e w' => e = .returned (.int .i64 (DB s (y * 12) k : Nat)) ∧ Below w.heap.size w w' := by
  have HM := Lib.hid (fun (j : Nat) (hj : j < k) V hV => monthDays_any s hs (y * 12 + j) (by omega) (by omega) V hV)
  have HO := Lib.hid (fun (j : Nat) V => ones64_any (mdays s (y * 12 + j)) (mdays_lt _ _) V)
  have HL := Lib.hid (DB_le s (y * 12))
  have HT := Lib.hid (fun (w' : World) (hb : Below w.heap.size w w') => ht.later hb)
  have HS : Hid (∀ j, DB s (y * 12) (j + 1) = DB s (y * 12) j + pc (mdays s (y * 12 + j))) := Lib.hid (fun j => rfl)
  have HP := Lib.hid pc_le
  clear ht hs
  obtain ⟨smi, sho, sda, smo, swe, ad, aw⟩ := s
  simp only [spV] at HM ⊢
  go_enter Tryd.func37, Tryd.ntmps37
  go_wp2_with fail
  go_loopw [7, 11] (fun a i wr => ∃ j : Nat, j ≤ k ∧ i = .int .i64 (j : Nat) ∧ a = .int .i64 (DB ⟨smi, sho, sda, smo, swe, ad, aw⟩ (y * 12) j : Nat) ∧ Below (w.heap.size + 1) (w.alloc (.cells (specC smi sho sda smo swe ad aw) 24)) wr) (fun _ i _ => (k : Int).toNat - (intOf i).toNat)
  case atStart => exact ⟨0, by omega, rfl, rfl, by simpa using Below.refl _ _⟩
  case round =>
    obtain ⟨j, hj, rfl, rfl, hB⟩ := hrel
    have hsp := (hB.block _ (by omega)).trans (heap_new w (.cells (specC smi sho sda smo swe ad aw) 24))
    have cS := (cells_of_heap hsp).1
    have hBw := (below_alloc w (.cells (specC smi sho sda smo swe ad aw) 24)).trans (hB.mono (by omega))
    have hl := HL.out j
    have HBw := Lib.hid hBw
    have HB := Lib.hid hB
    clear hB hBw hsp
    by_cases hlt : j < k
    · have hlt' : (j : Int) < (k : Int) := by omega
      have hp := HP.out (mdays ⟨smi, sho, sda, smo, swe, ad, aw⟩ (y * 12 + j))
      go_wp2_with (first | (go_at_call 53; refine (HM.out j hlt _ (HT.out _ HBw.out)).mono ?_; rintro e w9 ⟨rfl, hb9⟩; have HB9 := Lib.hid (HB.out.trans (hb9.mono (by have := HB.out.size; simp at this; omega))); clear hb9) | (go_at_call 52; refine (HO.out j _).mono ?_; rintro e w10 ⟨rfl, rfl⟩))
      go_roundw
      case rel => exact ⟨j + 1, by omega, by go_num, by rw [HS.out]; go_num, HB9.out⟩
      case measure => simp [intOf]; omega
    · obtain rfl : j = k := by omega
      go_wp2_with fail
      go_ret
      exact ⟨rfl, HBw.out⟩
end Go.Proofs.YtnijneajlmgkjaaDoor
