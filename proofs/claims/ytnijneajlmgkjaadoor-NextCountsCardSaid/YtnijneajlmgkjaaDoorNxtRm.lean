/- Walks of the reference's own test of a spec (reveilleref02.May). -/
import Derived.Test.YtnijneajlmgkjaaDoorNxtW
set_option linter.unusedSimpArgs false
set_option linter.unusedVariables false
namespace Go.Proofs.YtnijneajlmgkjaaDoor
open Go.ChangeShapes Go.WideShapes Go.ChangeAt Go.RowKit Go.Base Go.Cro Go.Civ

theorem refLow_any (k : Nat) (hk : k < 5) (w : World) :
    Calls Tryd.prog 73 #[.int .i64 k] w fun e w' => e = .returned (.int .i64 (scB k).least) ∧ w = w' := by
  have hk' : k = 0 ∨ k = 1 ∨ k = 2 ∨ k = 3 ∨ k = 4 := by omega
  rcases hk' with rfl | rfl | rfl | rfl | rfl
  all_goals
    go_enter Tryd.func73, Tryd.ntmps73
    go_wp2
    go_ret
    exact ⟨rfl, rfl⟩
theorem refHigh_any (k : Nat) (hk : k < 5) (w : World) :
    Calls Tryd.prog 78 #[.int .i64 k] w fun e w' => e = .returned (.int .i64 (scB k).said) ∧ w = w' := by
  have hk' : k = 0 ∨ k = 1 ∨ k = 2 ∨ k = 3 ∨ k = 4 := by omega
  rcases hk' with rfl | rfl | rfl | rfl | rfl
  all_goals
    go_enter Tryd.func78, Tryd.ntmps78
    go_wp2
    go_ret
    exact ⟨rfl, rfl⟩
theorem refLast_any (k : Nat) (hk : k < 5) (w : World) :
    Calls Tryd.prog 74 #[.int .i64 k] w fun e w' => e = .returned (.int .i64 (scB k).most) ∧ w = w' := by
  by_cases h4 : k = 4
  · subst h4
    go_enter Tryd.func74, Tryd.ntmps74
    go_wp2
    go_ret
    exact ⟨rfl, rfl⟩
  · have H : Hid ((scB k).said = (scB k).most) := Lib.hid (by
      have hk' : k = 0 ∨ k = 1 ∨ k = 2 ∨ k = 3 := by omega
      rcases hk' with rfl | rfl | rfl | rfl <;> rfl)
    have h4' : ¬ (k : Int) = 4 := by omega
    go_enter Tryd.func74, Tryd.ntmps74
    go_wp2_with (go_at_call 78; refine (refHigh_any k hk _).mono ?_; rintro e w' ⟨rfl, rfl⟩)
    go_ret
    exact ⟨by rw [H.out]; rfl, rfl⟩

/-- What the first k bytes are not. -/
def IdxAt (c : UInt8) (l : Bytes) (k : Nat) : Prop := (Lib.indexByte (l.drop k) c = -1 → Lib.indexByte l c = -1) ∧ (0 ≤ Lib.indexByte (l.drop k) c → Lib.indexByte l c = Lib.indexByte (l.drop k) c + k)
theorem scB_bd (k : Nat) : 0 ≤ (scB k).least ∧ (scB k).least ≤ 1 ∧ 0 ≤ (scB k).said ∧ (scB k).said ≤ 59 := by
  rcases k with _ | _ | _ | _ | _ | k <;> simp [scB]

theorem vals_all (k : Nat) (hk : k < 5) : valsB (scB k) (scB k).least (scB k).most 1 = allB (scB k) := by
  rcases (by omega : k = 0 ∨ k = 1 ∨ k = 2 ∨ k = 3 ∨ k = 4) with rfl | rfl | rfl | rfl | rfl <;> decide +kernel
set_option maxHeartbeats 4000000 in
theorem refAll_any (k : Nat) (hk : k < 5) (w : World) :
    Calls Tryd.prog 57 #[.int .i64 k] w fun e w' => e = .returned (.int .u64 (allB (scB k))) ∧ Below w.heap.size w w' := by
  rw [← vals_all k hk]
  have hb := scB_bd k
  have hvs : valsB (scB k) (scB k).least (scB k).most 1 = valsFrom (scB k).least (scB k).most (scB k).most 1 100 (scB k).least 0 := rfl
  have HLo := Lib.hid (fun w => refLow_any k hk w)
  have HLa := Lib.hid (fun w => refLast_any k hk w)
  have hm : (scB k).most ≤ 59 := by rcases (by omega : k = 0 ∨ k = 1 ∨ k = 2 ∨ k = 3 ∨ k = 4) with rfl | rfl | rfl | rfl | rfl <;> simp [scB]
  rw [hvs]
  clear hvs
  generalize (scB k).least = least at *
  generalize (scB k).most = most at *
  generalize hV : valsFrom least most most 1 100 least 0 = V
  go_enter Tryd.func57, Tryd.ntmps57
  go_wp2_with (first | (go_at_call 73; refine (HLo.out _).mono ?_; rintro e W1 ⟨rfl, rfl⟩) | (go_at_call 74; refine (HLa.out _).mono ?_; rintro e W2 ⟨rfl, rfl⟩))
  go_loop [3, 4] (fun A n => ∃ (q v : Int) (f : Nat), A = .int .u64 q ∧ n = .int .i64 v ∧ 0 ≤ v ∧ v ≤ 60 ∧ most - v < f ∧ valsFrom least most most 1 f v q = V) (fun _ n => (300 - intOf n).toNat)
  case atStart => exact ⟨0, least, 100, rfl, rfl, by omega, by omega, by omega, hV⟩
  case round =>
    obtain ⟨q, v, f, rfl, rfl, hv1, hv2, hv3, hv⟩ := hrel
    have HV := Lib.hid hv
    clear hv hV
    by_cases hl : v ≤ most
    · obtain ⟨f, rfl⟩ : ∃ g, f = g + 1 := ⟨f - 1, by omega⟩
      have HV2 : Hid (valsFrom least most most 1 (f + 1) v q = valsFrom least most most 1 f (v + 1) (setB q v)) := Lib.hid (by simp only [valsFrom]; rw [if_pos hl, if_neg (by omega)])
      go_wp2_with ((go_at_call 74; refine (HLa.out _).mono ?_; rintro e W2 ⟨rfl, rfl⟩))
      go_round
      case rel => exact ⟨_, _, f, rfl, rfl, by omega, by omega, by omega, by rw [← HV.out, HV2.out]; rfl⟩
      case measure => first | (simp [intOf]; done) | (simp [intOf]; omega)
    · have hend : Hid (V = q) := Lib.hid (by rw [← HV.out]; cases f with
        | zero => rfl
        | succ f => simp only [valsFrom]; rw [if_neg (by omega)])
      go_wp2_with ((go_at_call 74; refine (HLa.out _).mono ?_; rintro e W2 ⟨rfl, rfl⟩))
      go_ret
      exact ⟨by rw [hend.out]; rfl, by first | exact Below.refl _ _ | exact below_drewN (Below.refl _ _) _ | go_grown⟩

set_option maxHeartbeats 4000000 in
theorem refBits_any (s : Sp) (w : World) :
    Calls Tryd.prog 56 #[spV s] w fun e w' => e = .returned (.agg #[.int .u64 s.mi, .int .u64 s.ho, .int .u64 s.da, .int .u64 s.mo, .int .u64 s.we]) ∧ Below w.heap.size w w' := by
  obtain ⟨mi, ho, da, mo, we, ad, aw⟩ := s
  go_enter Tryd.func56, Tryd.ntmps56
  go_wp2
  exact bodyPost_ret (v := .agg #[.int .u64 mi, .int .u64 ho, .int .u64 da, .int .u64 mo, .int .u64 we]) (by simp [results, Tryd.results56, go_sem]) rfl ⟨rfl, by first | go_grown | exact (below_alloc w _).alloc (by simp) _⟩

theorem xor_all (x : Nat) (h : x < 18446744073709551616) : 18446744073709551615 ^^^ x = 18446744073709551615 - x := by
  apply Nat.eq_of_testBit_eq
  intro i
  rw [Nat.testBit_xor, show 18446744073709551615 - x = 2 ^ 64 - (x + 1) by omega, Nat.testBit_two_pow_sub_succ (by omega), show (18446744073709551615 : Nat) = 2 ^ 64 - 1 by decide, Nat.testBit_two_pow_sub_one]
  by_cases hi : i < 64
  · simp [hi]
  · have : x.testBit i = false := Nat.testBit_lt_two_pow (Nat.lt_of_lt_of_le (show x < 2 ^ 64 by omega) (Nat.pow_le_pow_right (by decide) (by omega)))
    simp [hi, this]
theorem and_not {b : Int} (hb : U64 b) {k : Nat} (hk : k < 5) : bits .and .u64 b (bits .xor .u64 (if IntKind.u64.signed = true then -1 else IntKind.u64.max) (allB (scB k))) = bits .andNot .u64 b (allB (scB k)) := by
  obtain ⟨n, rfl⟩ : ∃ n : Nat, b = (n : Int) := ⟨b.toNat, by have := hb.1; omega⟩
  have hn : n < 18446744073709551616 := by have := hb.2; omega
  obtain ⟨e, hA⟩ := all_nat k hk
  rw [e, show (if IntKind.u64.signed = true then (-1 : Int) else IntKind.u64.max) = ((18446744073709551615 : Nat) : Int) by decide, u64_xor_nat 18446744073709551615 _ (by omega) hA, xor_all _ hA, u64_and_nat n _ hn (by omega), u64_andNot_nat n _ hn hA]
set_option maxHeartbeats 4000000 in
set_option maxRecDepth 100000 in
theorem refMay_any (s : Sp) (hs : SpOk s) (w : World) :
    Calls Tryd.prog 32 #[spV s] w fun e w' => e = .returned (.bool (mayB s)) ∧ Below w.heap.size w w' := by
  have HR := Lib.hid (fun w => refBits_any s w)
  have HA := Lib.hid (fun (k : Nat) (hk : k < 5) w => refAll_any k hk w)
  generalize hmy : mayB s = my
  have HMY := Lib.hid hmy
  clear hmy
  obtain ⟨mi, ho, da, mo, we, ad, aw⟩ := s
  go_enter Tryd.func32, Tryd.ntmps32
  go_wp2_with (go_at_call 56; refine (HR.out _).mono ?_; rintro e w1 ⟨rfl, hb⟩; have HB1 := Lib.hid hb; clear hb)
  have hw0 : w.heap.size ≤ w1.heap.size := by have := HB1.out.size; simp at this; omega
  have HB0 : Hid (Below w.heap.size w (w1.alloc (.cells #[.int .u64 mi, .int .u64 ho, .int .u64 da, .int .u64 mo, .int .u64 we] 70))) := Lib.hid (((below_alloc w _).trans (HB1.out.mono (by simp))).alloc hw0 _)
  have hcells : ∀ k : Nat, k < 5 → (w1.alloc (.cells #[.int .u64 mi, .int .u64 ho, .int .u64 da, .int .u64 mo, .int .u64 we] 70)).cell? ⟨w1.heap.size, k, none⟩ = some (.int .u64 (bitsOf ⟨mi, ho, da, mo, we, ad, aw⟩ k)) := by
    intro k hk
    rw [(cells_of_heap (heap_new w1 _)).1 k]
    rcases (by omega : k = 0 ∨ k = 1 ∨ k = 2 ∨ k = 3 ∨ k = 4) with rfl | rfl | rfl | rfl | rfl <;> rfl
  have hu : ∀ k : Nat, U64 (bitsOf ⟨mi, ho, da, mo, we, ad, aw⟩ k) := by
    intro k
    obtain ⟨h0, h1, h2, h3, h4⟩ := hs
    rcases k with _ | _ | _ | _ | k
    · exact h0
    · exact h1
    · exact h2
    · exact h3
    · exact h4
  have hz0 : w1.heap.size < (w1.alloc (.cells #[.int .u64 mi, .int .u64 ho, .int .u64 da, .int .u64 mo, .int .u64 we] 70)).heap.size := by simp
  have HC := Lib.hid hcells
  have HU := Lib.hid hu
  have HZ := Lib.hid hz0
  clear hcells hu hz0 hw0 HB1 HR
  generalize w1.alloc (.cells #[.int .u64 mi, .int .u64 ho, .int .u64 da, .int .u64 mo, .int .u64 we] 70) = W0 at *
  generalize (⟨mi, ho, da, mo, we, ad, aw⟩ : Sp) = s at *
  go_loopw [4] (fun i wr => ∃ k : Nat, k ≤ 5 ∧ i = .int .i64 (k : Int) ∧ Hid (Below W0.heap.size W0 wr) ∧ Hid (mayTo s k = true)) (fun i _ => 5 - (intOf i).toNat)
  case atStart => exact ⟨0, Nat.zero_le _, rfl, Lib.hid (Below.refl _ _), Lib.hid rfl⟩
  case round =>
    obtain ⟨k, hk, rfl, HB, HK⟩ := hrel
    by_cases hk5 : k < 5
    · have hk5' : (k : Int) < 5 := by omega
      have hk0 : (0 : Int) ≤ (k : Int) := by omega
      have HX := Lib.hid (mayTo_succ s k)
      have HN := Lib.hid (fun h => mayB_no (s := s) hk5 h)
      have hcell : wr.cell? ⟨w1.heap.size, k, none⟩ = some (.int .u64 (bitsOf s k)) := (HB.out.cell (p := ⟨w1.heap.size, k, none⟩) HZ.out).trans (HC.out k hk5)
      have HLT : Hid (w1.heap.size < wr.heap.size) := Lib.hid (Nat.lt_of_lt_of_le HZ.out HB.out.size)
      have HO : Hid (mayOne (bitsOf s k) (scB k) = (!(bitsOf s k == 0) && (bits .andNot .u64 (bitsOf s k) (allB (scB k)) == 0))) := Lib.hid rfl
      have HAN := Lib.hid (and_not (HU.out k) hk5)
      generalize bitsOf s k = b at *
      by_cases hz : (b == 0) = true
      · have HV : Hid (mayB s = false) := Lib.hid (HN.out (by rw [HO.out, hz]; rfl))
        go_wp2_with fail
        refine wp_region_held_drew (S := (fun w' => w'.cell? ⟨w1.heap.size, k, none⟩ = some (.int .u64 b) ∧ Below wr.heap.size wr w')) (by kernel_rfl) ⟨hcell, (Below.refl _ _).drew⟩ (fun hHeld => ?_)
        refine wpAnyH_take (i := 0) (v := ?vv1) rfl (by kernel_rfl) (by kernel_rfl) (by kernel_rfl) (fun _ _ _ h => h) (Or.inl ⟨by rfl, ?hy1⟩) hHeld ?rr1
        case hy1 => (intro w' hSw; obtain ⟨g0, g1⟩ := hSw; go_simp; try with_reducible rfl)
        try simp only [Act.put, List.setIfInBounds_toArray, List.set_cons_zero, List.set_cons_succ, List.getElem_toArray, List.getElem_cons_succ, List.getElem_cons_zero]
        refine wpAnyH_take (i := 1) (v := ?vv2) rfl (by kernel_rfl) (by kernel_rfl) (by kernel_rfl) (fun _ _ _ h => h) (Or.inl ⟨by rfl, ?hy2⟩) hHeld ?rr2
        case hy2 => (intro w' hSw; obtain ⟨g0, g1⟩ := hSw; go_simp; try with_reducible rfl)
        try simp only [Act.put, List.setIfInBounds_toArray, List.set_cons_zero, List.set_cons_succ, List.getElem_toArray, List.getElem_cons_succ, List.getElem_cons_zero]
        refine wpAnyH_take (i := 2) (v := ?vv3) rfl (by kernel_rfl) (by kernel_rfl) (by kernel_rfl) (fun _ _ _ h => h) (Or.inl ⟨by rfl, ?hy3⟩) hHeld ?rr3
        case hy3 => (intro w' hSw; obtain ⟨g0, g1⟩ := hSw; go_simp; try with_reducible rfl)
        try simp only [Act.put, List.setIfInBounds_toArray, List.set_cons_zero, List.set_cons_succ, List.getElem_toArray, List.getElem_cons_succ, List.getElem_cons_zero]
        refine wpAnyH_take (i := 3) (v := ?vv4) rfl (by kernel_rfl) (by kernel_rfl) (by kernel_rfl) (fun _ _ _ h => h) (Or.inl ⟨by rfl, ?hy4⟩) hHeld ?rr4
        case hy4 => (intro w' hSw; obtain ⟨g0, g1⟩ := hSw; go_simp; try with_reducible rfl)
        try simp only [Act.put, List.setIfInBounds_toArray, List.set_cons_zero, List.set_cons_succ, List.getElem_toArray, List.getElem_cons_succ, List.getElem_cons_zero]
        refine wpAnyH_take (i := 4) (v := ?vv5) rfl (by kernel_rfl) (by kernel_rfl) (by kernel_rfl) (fun _ _ _ h => h) (Or.inl ⟨by rfl, ?hy5⟩) hHeld ?rr5
        case hy5 => (intro w' hSw; obtain ⟨g0, g1⟩ := hSw; go_simp; try with_reducible rfl)
        try simp only [Act.put, List.setIfInBounds_toArray, List.set_cons_zero, List.set_cons_succ, List.getElem_toArray, List.getElem_cons_succ, List.getElem_cons_zero]
        refine wpAnyH_take (i := 5) (v := undef) rfl (by kernel_rfl) (by kernel_rfl) (by kernel_rfl) (fun _ _ _ h => h) (Or.inr ⟨by rfl, rfl⟩) hHeld ?rr6
        try simp only [Act.put, List.setIfInBounds_toArray, List.set_cons_zero, List.set_cons_succ, List.getElem_toArray, List.getElem_cons_succ, List.getElem_cons_zero]
        refine wpAnyH_take (i := 6) (v := undef) rfl (by kernel_rfl) (by kernel_rfl) (by kernel_rfl) (fun _ _ _ h => h) (Or.inr ⟨by rfl, rfl⟩) hHeld ?rr7
        try simp only [Act.put, List.setIfInBounds_toArray, List.set_cons_zero, List.set_cons_succ, List.getElem_toArray, List.getElem_cons_succ, List.getElem_cons_zero]
        refine wpAnyH_take (i := 7) (v := undef) rfl (by kernel_rfl) (by kernel_rfl) (by kernel_rfl) (fun _ _ _ h => h) (Or.inr ⟨by rfl, rfl⟩) hHeld ?rr8
        try simp only [Act.put, List.setIfInBounds_toArray, List.set_cons_zero, List.set_cons_succ, List.getElem_toArray, List.getElem_cons_succ, List.getElem_cons_zero]
        refine wpAnyH_take (i := 8) (v := undef) rfl (by kernel_rfl) (by kernel_rfl) (by kernel_rfl) (fun _ _ _ h => h) (Or.inr ⟨by rfl, rfl⟩) hHeld ?rr9
        try simp only [Act.put, List.setIfInBounds_toArray, List.set_cons_zero, List.set_cons_succ, List.getElem_toArray, List.getElem_cons_succ, List.getElem_cons_zero]
        refine wpAnyH_take (i := 9) (v := undef) rfl (by kernel_rfl) (by kernel_rfl) (by kernel_rfl) (fun _ _ _ h => h) (Or.inr ⟨by rfl, rfl⟩) hHeld ?rr10
        try simp only [Act.put, List.setIfInBounds_toArray, List.set_cons_zero, List.set_cons_succ, List.getElem_toArray, List.getElem_cons_succ, List.getElem_cons_zero]
        refine wpAnyH_take (i := 10) (v := undef) rfl (by kernel_rfl) (by kernel_rfl) (by kernel_rfl) (fun _ _ _ h => h) (Or.inr ⟨by rfl, rfl⟩) hHeld ?rr11
        try simp only [Act.put, List.setIfInBounds_toArray, List.set_cons_zero, List.set_cons_succ, List.getElem_toArray, List.getElem_cons_succ, List.getElem_cons_zero]
        refine wpAnyH_take (i := 11) (v := undef) rfl (by kernel_rfl) (by kernel_rfl) (by kernel_rfl) (fun _ _ _ h => h) (Or.inr ⟨by rfl, rfl⟩) hHeld ?rr12
        try simp only [Act.put, List.setIfInBounds_toArray, List.set_cons_zero, List.set_cons_succ, List.getElem_toArray, List.getElem_cons_succ, List.getElem_cons_zero]
        refine wpAnyH_take (i := 12) (v := undef) rfl (by kernel_rfl) (by kernel_rfl) (by kernel_rfl) (fun _ _ _ h => h) (Or.inr ⟨by rfl, rfl⟩) hHeld ?rr13
        try simp only [Act.put, List.setIfInBounds_toArray, List.set_cons_zero, List.set_cons_succ, List.getElem_toArray, List.getElem_cons_succ, List.getElem_cons_zero]
        refine wpAnyH_take (i := 13) (v := ?vv14) rfl (by kernel_rfl) (by kernel_rfl) (by kernel_rfl) (fun _ _ _ h => h) (Or.inl ⟨by rfl, ?hy14⟩) hHeld ?rr14
        case hy14 => (intro w' hSw; obtain ⟨g0, g1⟩ := hSw; go_simp; try with_reducible rfl)
        try simp only [Act.put, List.setIfInBounds_toArray, List.set_cons_zero, List.set_cons_succ, List.getElem_toArray, List.getElem_cons_succ, List.getElem_cons_zero]
        have HBe := Lib.hid hHeld.2
        refine wpAnyH_done (by kernel_rfl) ?_ _
        clear hHeld
        go_wp2
        go_ret
        exact ⟨ret_bool (HMY.out.symm.trans HV.out).symm, HB0.out.trans ((HB.out.trans (HBe.out.mono HB.out.size)).mono HB0.out.size)⟩
      · have hz2 : (b == 0) = false := by simpa using hz
        have HO2 : Hid (mayOne b (scB k) = (bits .andNot .u64 b (allB (scB k)) == 0)) := Lib.hid (by rw [HO.out, hz2]; rfl)
        clear hz
        go_wp2_with fail
        refine wp_region_held_drew (S := (fun w' => w'.cell? ⟨w1.heap.size, k, none⟩ = some (.int .u64 b) ∧ Below wr.heap.size wr w')) (by kernel_rfl) ⟨hcell, (Below.refl _ _).drew⟩ (fun hHeld => ?_)
        refine wpAnyH_take (i := 0) (v := ?vv15) rfl (by kernel_rfl) (by kernel_rfl) (by kernel_rfl) (fun _ _ _ h => h) (Or.inl ⟨by rfl, ?hy15⟩) hHeld ?rr15
        case hy15 => (intro w' hSw; obtain ⟨g0, g1⟩ := hSw; go_simp; try with_reducible rfl)
        try simp only [Act.put, List.setIfInBounds_toArray, List.set_cons_zero, List.set_cons_succ, List.getElem_toArray, List.getElem_cons_succ, List.getElem_cons_zero]
        refine wpAnyH_take (i := 1) (v := ?vv16) rfl (by kernel_rfl) (by kernel_rfl) (by kernel_rfl) (fun _ _ _ h => h) (Or.inl ⟨by rfl, ?hy16⟩) hHeld ?rr16
        case hy16 => (intro w' hSw; obtain ⟨g0, g1⟩ := hSw; go_simp; try with_reducible rfl)
        try simp only [Act.put, List.setIfInBounds_toArray, List.set_cons_zero, List.set_cons_succ, List.getElem_toArray, List.getElem_cons_succ, List.getElem_cons_zero]
        refine wpAnyH_take (i := 2) (v := ?vv17) rfl (by kernel_rfl) (by kernel_rfl) (by kernel_rfl) (fun _ _ _ h => h) (Or.inl ⟨by rfl, ?hy17⟩) hHeld ?rr17
        case hy17 => (intro w' hSw; obtain ⟨g0, g1⟩ := hSw; go_simp; try with_reducible rfl)
        try simp only [Act.put, List.setIfInBounds_toArray, List.set_cons_zero, List.set_cons_succ, List.getElem_toArray, List.getElem_cons_succ, List.getElem_cons_zero]
        refine wpAnyH_take (i := 3) (v := ?vv18) rfl (by kernel_rfl) (by kernel_rfl) (by kernel_rfl) (fun _ _ _ h => h) (Or.inl ⟨by rfl, ?hy18⟩) hHeld ?rr18
        case hy18 => (intro w' hSw; obtain ⟨g0, g1⟩ := hSw; go_simp; try with_reducible rfl)
        try simp only [Act.put, List.setIfInBounds_toArray, List.set_cons_zero, List.set_cons_succ, List.getElem_toArray, List.getElem_cons_succ, List.getElem_cons_zero]
        refine wpAnyH_take (i := 4) (v := ?vv19) rfl (by kernel_rfl) (by kernel_rfl) (by kernel_rfl) (fun _ _ _ h => h) (Or.inl ⟨by rfl, ?hy19⟩) hHeld ?rr19
        case hy19 => (intro w' hSw; obtain ⟨g0, g1⟩ := hSw; go_simp; try with_reducible rfl)
        try simp only [Act.put, List.setIfInBounds_toArray, List.set_cons_zero, List.set_cons_succ, List.getElem_toArray, List.getElem_cons_succ, List.getElem_cons_zero]
        refine wpAnyH_take (i := 5) (v := ?vv20) rfl (by kernel_rfl) (by kernel_rfl) (by kernel_rfl) (fun _ _ _ h => h) (Or.inl ⟨by rfl, ?hy20⟩) hHeld ?rr20
        case hy20 => (intro w' hSw; obtain ⟨g0, g1⟩ := hSw; go_simp; try with_reducible rfl)
        try simp only [Act.put, List.setIfInBounds_toArray, List.set_cons_zero, List.set_cons_succ, List.getElem_toArray, List.getElem_cons_succ, List.getElem_cons_zero]
        refine wpAnyH_take (i := 6) (v := ?vv21) rfl (by kernel_rfl) (by kernel_rfl) (by kernel_rfl) (fun _ _ _ h => h) (Or.inl ⟨by rfl, ?hy21⟩) hHeld ?rr21
        case hy21 => (intro w' hSw; obtain ⟨g0, g1⟩ := hSw; go_simp; try with_reducible rfl)
        try simp only [Act.put, List.setIfInBounds_toArray, List.set_cons_zero, List.set_cons_succ, List.getElem_toArray, List.getElem_cons_succ, List.getElem_cons_zero]
        refine wpAnyH_take (i := 7) (v := ?vv22) rfl (by kernel_rfl) (by kernel_rfl) (by kernel_rfl) (fun _ _ _ h => h) (Or.inl ⟨by rfl, ?hy22⟩) hHeld ?rr22
        case hy22 => (intro w' hSw; obtain ⟨g0, g1⟩ := hSw; go_simp; try with_reducible rfl)
        try simp only [Act.put, List.setIfInBounds_toArray, List.set_cons_zero, List.set_cons_succ, List.getElem_toArray, List.getElem_cons_succ, List.getElem_cons_zero]
        refine wpAnyH_take (i := 8) (v := ?vv23) rfl (by kernel_rfl) (by kernel_rfl) (by kernel_rfl) (fun _ _ _ h => h) (Or.inl ⟨by rfl, ?hy23⟩) hHeld ?rr23
        case hy23 => (intro w' hSw; obtain ⟨g0, g1⟩ := hSw; go_simp; try with_reducible rfl)
        try simp only [Act.put, List.setIfInBounds_toArray, List.set_cons_zero, List.set_cons_succ, List.getElem_toArray, List.getElem_cons_succ, List.getElem_cons_zero]
        refine wpAnyH_ready (rs := [9]) (by kernel_rfl) (by simp) ?_
        refine AllReadyH.cons rfl (fun K hK => ?_) AllReadyH.nil
        rw [if_pos (by rfl)]
        go_simp
        go_at_call 57
        refine Calls.mono (by with_reducible exact HA.out k hk5 _) ?_
        rintro e w3 ⟨rfl, hb⟩
        have hb3 := hHeld.2.trans (hb.mono hHeld.2.size)
        clear hb
        go_wp2_with fail
        refine hK.out _ _ ⟨(hb3.cell (p := ⟨w1.heap.size, k, none⟩) HLT.out).trans hcell, hb3⟩ (fun hHeld2 => ?_)
        clear hK K hHeld
        have hHeld := hHeld2
        clear hHeld2
        try simp only [Act.put, List.setIfInBounds_toArray, List.set_cons_zero, List.set_cons_succ, List.getElem_toArray, List.getElem_cons_succ, List.getElem_cons_zero]
        refine wpAnyH_take (i := 10) (v := ?vv25) rfl (by kernel_rfl) (by kernel_rfl) (by kernel_rfl) (fun _ _ _ h => h) (Or.inl ⟨by rfl, ?hy25⟩) hHeld ?rr25
        case hy25 => (intro w' hSw; obtain ⟨g0, g1⟩ := hSw; go_simp; try with_reducible rfl)
        try simp only [Act.put, List.setIfInBounds_toArray, List.set_cons_zero, List.set_cons_succ, List.getElem_toArray, List.getElem_cons_succ, List.getElem_cons_zero]
        refine wpAnyH_take (i := 11) (v := ?vv26) rfl (by kernel_rfl) (by kernel_rfl) (by kernel_rfl) (fun _ _ _ h => h) (Or.inl ⟨by rfl, ?hy26⟩) hHeld ?rr26
        case hy26 => (intro w' hSw; obtain ⟨g0, g1⟩ := hSw; go_simp; try with_reducible rfl)
        try simp only [Act.put, List.setIfInBounds_toArray, List.set_cons_zero, List.set_cons_succ, List.getElem_toArray, List.getElem_cons_succ, List.getElem_cons_zero]
        refine wpAnyH_take (i := 12) (v := ?vv27) rfl (by kernel_rfl) (by kernel_rfl) (by kernel_rfl) (fun _ _ _ h => h) (Or.inl ⟨by rfl, ?hy27⟩) hHeld ?rr27
        case hy27 => (intro w' hSw; obtain ⟨g0, g1⟩ := hSw; go_simp; try with_reducible rfl)
        try simp only [Act.put, List.setIfInBounds_toArray, List.set_cons_zero, List.set_cons_succ, List.getElem_toArray, List.getElem_cons_succ, List.getElem_cons_zero]
        refine wpAnyH_take (i := 13) (v := ?vv28) rfl (by kernel_rfl) (by kernel_rfl) (by kernel_rfl) (fun _ _ _ h => h) (Or.inl ⟨by rfl, ?hy28⟩) hHeld ?rr28
        case hy28 => (intro w' hSw; obtain ⟨g0, g1⟩ := hSw; go_simp; try with_reducible rfl)
        try simp only [Act.put, List.setIfInBounds_toArray, List.set_cons_zero, List.set_cons_succ, List.getElem_toArray, List.getElem_cons_succ, List.getElem_cons_zero]
        have HBe := Lib.hid hHeld.2
        refine wpAnyH_done (by kernel_rfl) ?_ _
        clear hHeld
        go_wp2
        · have hb0 : bits .andNot .u64 b (allB (scB k)) ≠ 0 := by rw [← HAN.out]; exact bne_iff_ne.1 (by assumption)
          have HV : Hid (mayB s = false) := Lib.hid (HN.out (by rw [HO2.out]; simpa using hb0))
          go_ret
          exact ⟨ret_bool (HMY.out.symm.trans HV.out).symm, HB0.out.trans ((HB.out.trans (HBe.out.mono HB.out.size)).mono HB0.out.size)⟩
        · have hb0 : bits .andNot .u64 b (allB (scB k)) = 0 := by rw [← HAN.out]; exact bne_eq_false_iff_eq.1 (by assumption)
          have HV : Hid (mayTo s (k + 1) = true) := Lib.hid (by rw [HX.out, HK.out, HO2.out, hb0]; rfl)
          go_roundw
          case rel => exact ⟨k + 1, by omega, by go_num, Lib.hid (HB.out.trans (HBe.out.mono HB.out.size)), HV⟩
          case measure => simp [intOf]; omega
    · obtain rfl : k = 5 := by omega
      have HV : Hid (mayB s = true) := Lib.hid HK.out
      go_wp2
      go_ret
      exact ⟨ret_bool (HMY.out.symm.trans HV.out).symm, HB0.out.trans (HB.out.mono HB0.out.size)⟩
end Go.Proofs.YtnijneajlmgkjaaDoor
