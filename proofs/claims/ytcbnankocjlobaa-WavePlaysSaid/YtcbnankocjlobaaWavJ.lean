/- The reference of layer 17: Bad. -/
import Derived.Test.YtcbnankocjlobaaWavI
set_option linter.unusedSimpArgs false
set_option linter.unusedVariables false
namespace Go.Proofs.Ytcbnankocjlobaa
open Go.ChangeShapes Go.WideShapes Go.ChangeAt Go.RowKit Go.Base Go.Maps

theorem cnt_mono {p q : Stp → Bool} (h : ∀ s, p s = true → q s = true) (l : List Stp) : cnt p l ≤ cnt q l := List.countP_mono_left (fun x _ hx => h x hx)
/-- By the quotient and the rest. -/
theorem badN_by {fai : Int} {f n : Nat} (hn : 0 < n) (hf : f ≤ n) {q r : Int} (hq : 100 * (f : Int) = q * (n : Int) + r) (hr0 : 0 ≤ r) (hr1 : r < (n : Int)) :
    badN fai f n = (decide (fai < q) || (q == fai && decide (0 < r))) := by
  have hcl := clF_bd fai
  have hn' : (0 : Int) < (n : Int) := by omega
  have hfn : 100 * (f : Int) ≤ 100 * (n : Int) := by omega
  have hq0 : 0 ≤ q := by
    apply Decidable.byContradiction; intro h
    have : q * (n : Int) ≤ (-1) * (n : Int) := Int.mul_le_mul_of_nonneg_right (by omega) (by omega)
    omega
  have hq1 : q ≤ 100 := by
    apply Decidable.byContradiction; intro h
    have : 101 * (n : Int) ≤ q * (n : Int) := Int.mul_le_mul_of_nonneg_right (by omega) (by omega)
    omega
  unfold badN
  rcases (by omega : fai < q ∨ q = fai ∨ q < fai) with h | h | h
  · rw [decide_eq_true h]
    have h1 : clF fai ≤ q - 1 := by unfold clF; omega
    have : clF fai * (n : Int) ≤ (q - 1) * (n : Int) := Int.mul_le_mul_of_nonneg_right h1 (by omega)
    rw [Int.sub_mul] at this
    exact decide_eq_true (by omega)
  · have h1 : clF fai = q := by unfold clF; omega
    rw [h1, h, decide_eq_false (by omega : ¬ fai < fai)]
    rw [h] at hq
    by_cases hr : 0 < r
    · simp [hr]; omega
    · simp [hr]; omega
  · rw [decide_eq_false (by omega : ¬ fai < q), show (q == fai) = false by simpa using (by omega : ¬ q = fai)]
    simp only [Bool.false_and, Bool.or_false]
    by_cases hq2 : q = 100
    · have h1 : clF fai = 100 := by unfold clF; omega
      rw [h1]
      exact decide_eq_false (by omega)
    · have h1 : q + 1 ≤ clF fai := by unfold clF; omega
      have : (q + 1) * (n : Int) ≤ clF fai * (n : Int) := Int.mul_le_mul_of_nonneg_right h1 (by omega)
      rw [Int.add_mul] at this
      exact decide_eq_false (by omega)
set_option maxHeartbeats 4000000 in
theorem refBad_any (C : Array Value) (fai par : Int) (hJ : JA C fai par) (A : Option Addr) (l : List Stp) (c : Nat) (x : Int) (w : World) (hS : Stps w A l) (hm : l.length ≤ 2199023255552) :
    Calls Try.prog 16 #[.agg C, .slice A l.length c, .int .i64 x] w fun e w' => e = .returned (.bool (badW fai l x)) ∧ Below w.heap.size w w' := by
  have HS := Lib.hid hS
  have hm' : (l.length : Int) ≤ 2199023255552 := by omega
  have HT := Lib.hid (fun k (hk : k < l.length) => And.intro (cnt_take (andW ttB x) l hk) (cnt_take (andW failB x) l hk))
  have HL : Hid (∀ k, cnt (andW ttB x) (l.take k) ≤ k ∧ cnt (andW failB x) (l.take k) ≤ cnt (andW ttB x) (l.take k)) := Lib.hid (fun k => ⟨Nat.le_trans (cnt_le _ _) (by rw [List.length_take]; omega), cnt_mono (fun s h => by simp [andW, ttB] at h ⊢; exact h.2) _⟩)
  have HE : Hid (badW fai l x = badN fai (cnt (andW failB x) (l.take l.length)) (cnt (andW ttB x) (l.take l.length))) := Lib.hid (by rw [List.take_length]; rfl)
  have c11 : (w.alloc (.cells C 27)).cell? ⟨w.heap.size, 11, none⟩ = some (.int .i64 fai) := by rw [cell_new]; exact hJ.f
  generalize badW fai l x = R at *
  clear hS hJ
  go_enter Try.func16, Try.ntmps16
  go_wp2
  go_loopw [7, 8, 9] (fun nv fv iv wr => ∃ k : Nat, k ≤ l.length ∧ nv = .int .i64 (cnt (andW ttB x) (l.take k) : Nat) ∧ fv = .int .i64 (cnt (andW failB x) (l.take k) : Nat) ∧ iv = .int .i64 (k : Int) ∧ wr.cell? ⟨w.heap.size, 11, none⟩ = some (.int .i64 fai) ∧ Hid (Below w.heap.size w wr)) (fun _ _ iv _ => l.length - (intOf iv).toNat)
  case atStart => exact ⟨0, Nat.zero_le _, rfl, rfl, rfl, c11, Lib.hid (below_alloc _ _)⟩
  case round =>
    obtain ⟨k, hk, rfl, rfl, rfl, hc11, HB⟩ := hrel
    obtain ⟨hL1, hL2⟩ := HL.out k
    by_cases hlt : k < l.length
    · have hlt' : (k : Int) < (l.length : Int) := by omega
      have hk0 : (0 : Int) ≤ (k : Int) := by omega
      obtain ⟨b, o, rfl, hr⟩ := (HS.out.later HB.out) k hlt
      have c6 : wr.cell? ⟨b, o + k * 10 + 6, none⟩ = some (.int .i64 l[k].wv) := hr 6 _ rfl
      have HR := Lib.hid hr
      have HCl := Lib.hid (refFailed1_any l[k] wr)
      have HT1 := Lib.hid (HT.out k hlt).1
      have HT2 := Lib.hid (HT.out k hlt).2
      have HV1 : Hid (andW ttB x l[k] = (l[k].wv == x)) := Lib.hid rfl
      have HV2 : Hid (andW failB x l[k] = (failB l[k] && (l[k].wv == x))) := Lib.hid rfl
      have hzC := stC_size l[k]
      clear hr
      generalize l[k] = s at *
      obtain ⟨L, hL⟩ : ∃ L, L = stC s := ⟨_, rfl⟩
      rw [← hL] at hzC HR HCl
      have hszC : (Try.prog.info? 41).map (·.size) = some L.length := by rw [hzC]; exact szSt
      clear hL
      generalize cnt (andW ttB x) (l.take k) = n at *
      generalize cnt (andW failB x) (l.take k) = f at *
      generalize failB s = q at *
      generalize andW failB x s = z2 at *
      generalize andW ttB x s = z1 at *
      generalize s.wv = v at *
      have hn' : (n : Int) ≤ 2199023255552 := by omega
      have hf' : (f : Int) ≤ 2199023255552 := by omega
      cases hq : (v == x)
      · obtain rfl : z1 = false := by rw [HV1.out, hq]
        obtain rfl : z2 = false := by rw [HV2.out, hq]; simp
        have HN1 := Lib.hid (show cnt (andW ttB x) (l.take (k + 1)) = n by rw [HT1.out]; rfl)
        have HN2 := Lib.hid (show cnt (andW failB x) (l.take (k + 1)) = f by rw [HT2.out]; rfl)
        clear HV1 HV2 HT1 HT2 HCl
        go_wp2
        go_roundw
        case rel => exact ⟨k + 1, by omega, by rw [HN1.out], by rw [HN2.out], by go_num, hc11, HB⟩
        case measure => simp [intOf]; omega
      · obtain rfl : z1 = true := by rw [HV1.out, hq]
        have HN1 := Lib.hid (show cnt (andW ttB x) (l.take (k + 1)) = n + 1 by rw [HT1.out]; rfl)
        cases q
        · obtain rfl : z2 = false := by rw [HV2.out]; rfl
          have HN2 := Lib.hid (show cnt (andW failB x) (l.take (k + 1)) = f by rw [HT2.out]; rfl)
          clear HV1 HV2 HT1 HT2
          go_wp2_with (first
            | (refine wpList_load_mid rfl 41 (.tmp 30) rfl b (o + k * 10) rfl L _ HR.out Try.underlying41 rfl hszC ?_)
            | (go_at_call 26; refine HCl.out.mono ?_; rintro e w1 ⟨rfl, hb⟩; have HB2 := Lib.hid (HB.out.trans (hb.mono HB.out.size)); have hc112 := cell_later hb hc11; clear hb)
            | go_in)
          go_roundw
          case rel => exact ⟨k + 1, by omega, by rw [HN1.out]; go_num, by rw [HN2.out], by go_num, hc112, HB2⟩
          case measure => simp [intOf]; omega
        · obtain rfl : z2 = true := by rw [HV2.out, hq]; rfl
          have HN2 := Lib.hid (show cnt (andW failB x) (l.take (k + 1)) = f + 1 by rw [HT2.out]; rfl)
          clear HV1 HV2 HT1 HT2
          go_wp2_with (first
            | (refine wpList_load_mid rfl 41 (.tmp 30) rfl b (o + k * 10) rfl L _ HR.out Try.underlying41 rfl hszC ?_)
            | (go_at_call 26; refine HCl.out.mono ?_; rintro e w1 ⟨rfl, hb⟩; have HB2 := Lib.hid (HB.out.trans (hb.mono HB.out.size)); have hc112 := cell_later hb hc11; clear hb)
            | go_in)
          go_roundw
          case rel => exact ⟨k + 1, by omega, by rw [HN1.out]; go_num, by rw [HN2.out]; go_num, by go_num, hc112, HB2⟩
          case measure => simp [intOf]; omega
    · obtain rfl : k = l.length := by omega
      clear hlt
      generalize cnt (andW ttB x) (l.take l.length) = n at *
      generalize cnt (andW failB x) (l.take l.length) = f at *
      by_cases hn0 : n = 0
      · have hf0 : f = 0 := by omega
        have HV : Hid (badN fai f n = false) := Lib.hid (by rw [hn0, hf0]; unfold badN; simp)
        have HZ := Lib.hid (HE.out.trans HV.out)
        have hn1 : ((n : Int) == 0) = true := by simpa using hn0
        clear hf0 hn0 hL1 hL2
        go_wp2
        go_ret
        exact ⟨by rw [HZ.out]; rfl, HB.out⟩
      · have hn1 : ((n : Int) == 0) = false := by simpa using hn0
        have hn' : (n : Int) ≤ 2199023255552 := by omega
        have hf' : (f : Int) ≤ 2199023255552 := by omega
        have hnp : 0 < n := by omega
        obtain ⟨q, hq⟩ : ∃ q, q = (100 * (f : Int)).tdiv (n : Int) := ⟨_, rfl⟩
        obtain ⟨r, hr⟩ : ∃ r, r = (100 * (f : Int)).tmod (n : Int) := ⟨_, rfl⟩
        have hqe : q = (100 * (f : Int)) / (n : Int) := by rw [hq]; exact Int.tdiv_eq_ediv_of_nonneg (by omega)
        have hre : r = (100 * (f : Int)) % (n : Int) := by rw [hr]; exact Int.tmod_eq_emod_of_nonneg (by omega)
        have hr0 : 0 ≤ r := by rw [hre]; exact Int.emod_nonneg _ (by omega)
        have hr1 : r < (n : Int) := by rw [hre]; exact Int.emod_lt_of_pos _ (by omega)
        have hqr : 100 * (f : Int) = q * (n : Int) + r := by
          rw [hqe, hre]
          have h9 := Int.mul_ediv_add_emod (100 * (f : Int)) (n : Int)
          rw [Int.mul_comm (n : Int)] at h9
          exact h9.symm
        have HV := Lib.hid (badN_by (fai := fai) hnp hL2 hqr hr0 hr1)
        have hq0 : 0 ≤ q := by rw [hqe]; exact Int.ediv_nonneg (by omega) (by omega)
        have hq1 : q ≤ 219902325555200 := by rw [hqe]; exact Int.le_trans (Int.ediv_le_self _ (by omega)) (by omega)
        have hqx : (100 * (f : Int)).tdiv (n : Int) = q := hq.symm
        have hrx : (100 * (f : Int)).tmod (n : Int) = r := hr.symm
        clear hq hr hqe hre hqr
        go_wp2_with fail
        go_quiet (fail)
        by_cases h1 : fai < q
        · have HZ := Lib.hid (show R = true by rw [HE.out, HV.out]; simp [h1])
          go_wp2
          go_ret
          exact ⟨by rw [HZ.out]; rfl, below_drewN HB.out _⟩
        · cases h2 : (q == fai)
          · have HZ := Lib.hid (show R = false by rw [HE.out, HV.out]; simp [h1, h2])
            go_wp2
            go_ret
            exact ⟨by rw [HZ.out]; rfl, below_drewN HB.out _⟩
          · have HZ := Lib.hid (show R = decide (0 < r) by rw [HE.out, HV.out]; simp [h1, h2])
            go_wp2
            go_ret
            exact ⟨by rw [HZ.out]; rfl, below_drewN HB.out _⟩
end Go.Proofs.Ytcbnankocjlobaa
