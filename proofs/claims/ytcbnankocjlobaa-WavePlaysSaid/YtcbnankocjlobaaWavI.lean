/- The reference of layer 17: ended, failed, Ended, Bad. -/
import Derived.Test.YtcbnankocjlobaaWavG
import Derived.Deep.QuietTactic
import Derived.BigQuiet
set_option linter.unusedSimpArgs false
set_option linter.unusedVariables false
namespace Go.Proofs.Ytcbnankocjlobaa
open Go.ChangeShapes Go.WideShapes Go.ChangeAt Go.RowKit Go.Base Go.Maps

theorem refEnded1_any (s : Stp) (w : World) : Calls Try.prog 35 #[.agg (stC s).toArray] w fun e w' => e = .returned (.bool (!leftB s)) ∧ Below w.heap.size w w' := by
  obtain ⟨job, occ, host, ver, at_, un, wv, st, out, rs⟩ := s
  simp only [stC, leftB]
  cases h : (st == 1)
  · have h2 : (st != 1) = true := by unfold bne; rw [h]; rfl
    go_enter Try.func35, Try.ntmps35
    go_wp2
    go_ret
    exact ⟨ret_bool (by simp [bne]), below_alloc _ _⟩
  · have h2 : (st != 1) = false := by unfold bne; rw [h]; rfl
    go_enter Try.func35, Try.ntmps35
    go_wp2
    go_ret
    exact ⟨rfl, below_alloc _ _⟩
theorem refFailed1_any (s : Stp) (w : World) : Calls Try.prog 26 #[.agg (stC s).toArray] w fun e w' => e = .returned (.bool (failB s)) ∧ Below w.heap.size w w' := by
  obtain ⟨job, occ, host, ver, at_, un, wv, st, out, rs⟩ := s
  simp only [stC, failB]
  cases h : (st == 3)
  · go_enter Try.func26, Try.ntmps26
    go_wp2
    go_ret
    exact ⟨rfl, below_alloc _ _⟩
  · go_enter Try.func26, Try.ntmps26
    go_wp2
    go_ret
    exact ⟨rfl, below_alloc _ _⟩
theorem cnt_zero {p : Stp → Bool} {l : List Stp} (h : ∀ k (hk : k < l.length), p l[k] = false) : cnt p l = 0 := by
  unfold cnt
  rw [List.countP_eq_zero]
  intro s hs
  obtain ⟨i, hi, rfl⟩ := List.mem_iff_getElem.1 hs
  rw [h i hi]; decide
theorem cnt_pos {p : Stp → Bool} {l : List Stp} {k : Nat} (hk : k < l.length) (h : p l[k] = true) : 0 < cnt p l := List.countP_pos_iff.2 ⟨_, List.getElem_mem hk, h⟩
theorem end_yes {l : List Stp} {x : Int} (h : ∀ k (hk : k < l.length), andW leftB x l[k] = false) : endB l x = true := by unfold endB; rw [cnt_zero h]; rfl
theorem end_no {l : List Stp} {x : Int} {k : Nat} (hk : k < l.length) (h : andW leftB x l[k] = true) : endB l x = false := by
  unfold endB
  have := cnt_pos hk h
  cases hc : cnt (andW leftB x) l
  · omega
  · rfl
set_option maxHeartbeats 4000000 in
theorem refEnded_any (A : Option Addr) (l : List Stp) (c : Nat) (x : Int) (w : World) (hS : Stps w A l) (hm : l.length ≤ 2199023255552) :
    Calls Try.prog 30 #[.slice A l.length c, .int .i64 x] w fun e w' => e = .returned (.bool (endB l x)) ∧ Below w.heap.size w w' := by
  have HS := Lib.hid hS
  have hm' : (l.length : Int) ≤ 9223372036854775807 := by omega
  have HY := Lib.hid (fun (h : ∀ k (hk : k < l.length), andW leftB x l[k] = false) => end_yes h)
  have HN := Lib.hid (fun k (hk : k < l.length) (h : andW leftB x l[k] = true) => end_no hk h)
  generalize endB l x = R at *
  clear hS hm
  go_enter Try.func30, Try.ntmps30
  go_wp2
  go_loopw [5] (fun iv wr => ∃ k : Nat, k ≤ l.length ∧ iv = .int .i64 (k : Int) ∧ Hid (Below w.heap.size w wr) ∧ Hid (∀ j (hj : j < l.length), j < k → andW leftB x l[j] = false)) (fun iv _ => l.length - (intOf iv).toNat)
  case atStart => exact ⟨0, Nat.zero_le _, rfl, Lib.hid (Below.refl _ _), Lib.hid (fun j hj h => by omega)⟩
  case round =>
    obtain ⟨k, hk, rfl, HB, HP⟩ := hrel
    by_cases hlt : k < l.length
    · have hlt' : (k : Int) < (l.length : Int) := by omega
      have hk0 : (0 : Int) ≤ (k : Int) := by omega
      obtain ⟨b, o, rfl, hr⟩ := (HS.out.later HB.out) k hlt
      have c6 : wr.cell? ⟨b, o + k * 10 + 6, none⟩ = some (.int .i64 l[k].wv) := hr 6 _ rfl
      have HR := Lib.hid hr
      have HCl := Lib.hid (refEnded1_any l[k] wr)
      have HNk := Lib.hid (HN.out k hlt)
      have HPk : Hid (andW leftB x l[k] = false → ∀ j (hj : j < l.length), j < k + 1 → andW leftB x l[j] = false) := Lib.hid (fun hh j hj hjk => by
        by_cases e : j = k
        · subst e; exact hh
        · exact HP.out j hj (by omega))
      have HV : Hid (andW leftB x l[k] = (leftB l[k] && (l[k].wv == x))) := Lib.hid rfl
      have hzC := stC_size l[k]
      clear hr
      generalize l[k] = s at *
      obtain ⟨L, hL⟩ : ∃ L, L = stC s := ⟨_, rfl⟩
      rw [← hL] at hzC HR HCl
      have hszC : (Try.prog.info? 41).map (·.size) = some L.length := by rw [hzC]; exact szSt
      clear hL
      generalize leftB s = q at *
      generalize andW leftB x s = z at *
      generalize s.wv = v at *
      cases hq : (v == x)
      · obtain rfl : z = false := by rw [HV.out, hq]; simp
        have HP2 := Lib.hid (HPk.out rfl)
        clear HV HPk HNk HCl
        go_wp2
        go_roundw
        case rel => exact ⟨k + 1, by omega, by go_num, HB, HP2⟩
        case measure => simp [intOf]; omega
      · cases q
        · obtain rfl : z = false := by rw [HV.out]; rfl
          have HP2 := Lib.hid (HPk.out rfl)
          clear HV HPk HNk
          go_wp2_with (first
            | (refine wpList_wanted (by kernel_rfl) (fun K hK => ?_); refine wp_load_mid 41 (.tmp 23) rfl b (o + k * 10) rfl L _ HR.out Try.underlying41 rfl hszC ?_; refine hK _ _ ?_)
            | (go_at_call 35; refine HCl.out.mono ?_; rintro e w1 ⟨rfl, hb⟩; have HB2 := Lib.hid (HB.out.trans (hb.mono HB.out.size)); clear hb)
            | go_in)
          go_roundw
          case rel => exact ⟨k + 1, by omega, by go_num, HB2, HP2⟩
          case measure => simp [intOf]; omega
        · obtain rfl : z = true := by rw [HV.out, hq]; rfl
          have HZ := Lib.hid (HNk.out rfl)
          clear HV HPk HNk
          go_wp2_with (first
            | (refine wpList_wanted (by kernel_rfl) (fun K hK => ?_); refine wp_load_mid 41 (.tmp 23) rfl b (o + k * 10) rfl L _ HR.out Try.underlying41 rfl hszC ?_; refine hK _ _ ?_)
            | (go_at_call 35; refine HCl.out.mono ?_; rintro e w1 ⟨rfl, hb⟩; have HB2 := Lib.hid (HB.out.trans (hb.mono HB.out.size)); clear hb)
            | go_in)
          go_ret
          exact ⟨by rw [HZ.out]; rfl, HB2.out⟩
    · obtain rfl : k = l.length := by omega
      have HV := Lib.hid (HY.out (fun j hj => HP.out j hj hj))
      clear hlt
      go_wp2
      go_ret
      exact ⟨by rw [HV.out]; rfl, HB.out⟩
end Go.Proofs.Ytcbnankocjlobaa
