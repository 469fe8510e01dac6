/- Package wave: isAll. -/
import Derived.Test.YtcbnankocjlobaaWavA
set_option linter.unusedSimpArgs false
set_option linter.unusedVariables false
namespace Go.Proofs.Ytcbnankocjlobaa
open Go.ChangeShapes Go.WideShapes Go.ChangeAt Go.RowKit Go.Base

theorem allF_no {l : List Fnv} {s : Stp} {k : Nat} (hk : k < l.length) (h : l[k].ev s = false) : allF l s = false := by
  unfold allF
  rw [List.all_eq_false]
  exact ⟨l[k], List.getElem_mem _, by simp [h]⟩
theorem allF_yes {l : List Fnv} {s : Stp} (h : ∀ k (hk : k < l.length), l[k].ev s = true) : allF l s = true := by
  unfold allF
  rw [List.all_eq_true]
  intro x hx
  obtain ⟨i, hi, rfl⟩ := List.mem_iff_getElem.1 hx
  exact h i hi
/-- One call of a function value, whichever. -/
theorem fnv_any (f : Fnv) (s : Stp) (w : World) (hf : f.In w) : match f with
  | .left => Calls Try.prog 27 #[.agg (stC s).toArray] w fun e w' => e = .returned (.bool (f.ev s)) ∧ Below w.heap.size w w'
  | .good => Calls Try.prog 24 #[.agg (stC s).toArray] w fun e w' => e = .returned (.bool (f.ev s)) ∧ Below w.heap.size w w'
  | .fail => Calls Try.prog 25 #[.agg (stC s).toArray] w fun e w' => e = .returned (.bool (f.ev s)) ∧ Below w.heap.size w w'
  | .st b _ => Calls Try.prog 33 #[.agg (stC s).toArray, .pointer (some ⟨b, 0, none⟩)] w fun e w' => e = .returned (.bool (f.ev s)) ∧ Below w.heap.size w w'
  | .wv b _ => Calls Try.prog 34 #[.agg (stC s).toArray, .pointer (some ⟨b, 0, none⟩)] w fun e w' => e = .returned (.bool (f.ev s)) ∧ Below w.heap.size w w' := by
  cases f with
  | left => exact left_any s w
  | good => exact good_any s w
  | fail => exact failed_any s w
  | st b k => exact is1_any s b k w hf
  | wv b k => exact isOf1_any s b k w hf
set_option maxHeartbeats 4000000 in
set_option maxRecDepth 20000 in
theorem isAll_any (s : Stp) (A : Option Addr) (l : List Fnv) (c : Nat) (w : World) (hF : Fns w A l) (hm : l.length ≤ maxLen) :
    Calls Try.prog 32 #[.agg (stC s).toArray, .slice A l.length c] w fun e w' => e = .returned (.bool (allF l s)) ∧ Below w.heap.size w w' := by
  have HF := Lib.hid hF
  have hm' : (l.length : Int) ≤ 9223372036854775807 := by unfold maxLen at hm; omega
  have HN := Lib.hid (fun k (hk : k < l.length) (h : l[k].ev s = false) => allF_no hk h)
  have HY := Lib.hid (fun (h : ∀ k (hk : k < l.length), l[k].ev s = true) => allF_yes h)
  generalize allF l s = R at *
  obtain ⟨C, hC⟩ : ∃ C, C = (stC s).toArray := ⟨_, rfl⟩
  have HCs := Lib.hid hC
  have hCz : C.size = 10 := by rw [hC]; rfl
  have HO : Hid (C.toList.all (·.oneCell') = true) := Lib.hid (by rw [hC]; rfl)
  rw [← hC]
  have hszC : (Try.prog.info? 41).map (·.size) = some C.size := by rw [hCz]; kernel_rfl
  clear hC hF hm
  go_enter Try.func32, Try.ntmps32
  go_wp2
  go_loopw [9] (fun iv wr => ∃ k : Nat, k ≤ l.length ∧ iv = .int .i64 (k : Int) ∧ wr.heap[w.heap.size]? = some (.cells C 41 (0, 0)) ∧ Hid (Below w.heap.size w wr) ∧ Hid (∀ j (hj : j < l.length), j < k → l[j].ev s = true)) (fun iv _ => l.length - (intOf iv).toNat)
  case atStart => exact ⟨0, Nat.zero_le _, rfl, heap_new _ _, Lib.hid (below_alloc _ _), Lib.hid (fun j hj h => by omega)⟩
  case round =>
    obtain ⟨k, hk, rfl, hrow, HB, HP⟩ := hrel
    have hlw : w.heap.size < wr.heap.size := heap_lt hrow
    by_cases hlt : k < l.length
    · have hlt' : (k : Int) < (l.length : Int) := by omega
      have hk0 : (0 : Int) ≤ (k : Int) := by omega
      obtain ⟨b, o, rfl, hc, hin⟩ := (HF.out.later HB.out) k hlt
      have HC := Lib.hid (fnv_any l[k] s wr hin)
      have HNk := Lib.hid (HN.out k hlt)
      have HPk : Hid (l[k].ev s = true → ∀ j (hj : j < l.length), j < k + 1 → l[j].ev s = true) := Lib.hid (fun hh j hj hjk => by
        by_cases e : j = k
        · subst e; exact hh
        · exact HP.out j hj (by omega))
      rw [← HCs.out] at HC
      generalize l[k] = f at *
      cases f with
      | left =>
        simp only [Fnv.val] at hc
        cases hq : Fnv.ev (.left) s
        · rw [hq] at HC
          have HV := Lib.hid (HNk.out hq)
          clear HNk HPk hq
          go_wp2_with (first | (go_at_call 27; refine HC.out.mono ?_; rintro e w1 ⟨rfl, hb⟩; have HB2 := Lib.hid (HB.out.trans (hb.mono HB.out.size)); clear hb) | (refine wpList_load_row rfl _ _ rfl w.heap.size rfl 41 C (0, 0) _ hrow Try.underlying41 rfl hszC ?_) | go_in)
          go_ret
          exact ⟨by rw [HV.out]; rfl, HB2.out⟩
        · rw [hq] at HC
          have HP2 := Lib.hid (HPk.out hq)
          clear HNk HPk hq
          go_wp2_with (first | (go_at_call 27; refine HC.out.mono ?_; rintro e w1 ⟨rfl, hb⟩; have HB2 := Lib.hid (HB.out.trans (hb.mono HB.out.size)); have hrow2 := (hb.block _ hlw).trans hrow; clear hb) | (refine wpList_load_row rfl _ _ rfl w.heap.size rfl 41 C (0, 0) _ hrow Try.underlying41 rfl hszC ?_) | go_in)
          go_roundw
          case rel => exact ⟨k + 1, by omega, by go_num, hrow2, HB2, HP2⟩
          case measure => simp [intOf]; omega
      | good =>
        simp only [Fnv.val] at hc
        cases hq : Fnv.ev (.good) s
        · rw [hq] at HC
          have HV := Lib.hid (HNk.out hq)
          clear HNk HPk hq
          go_wp2_with (first | (go_at_call 24; refine HC.out.mono ?_; rintro e w1 ⟨rfl, hb⟩; have HB2 := Lib.hid (HB.out.trans (hb.mono HB.out.size)); clear hb) | (refine wpList_load_row rfl _ _ rfl w.heap.size rfl 41 C (0, 0) _ hrow Try.underlying41 rfl hszC ?_) | go_in)
          go_ret
          exact ⟨by rw [HV.out]; rfl, HB2.out⟩
        · rw [hq] at HC
          have HP2 := Lib.hid (HPk.out hq)
          clear HNk HPk hq
          go_wp2_with (first | (go_at_call 24; refine HC.out.mono ?_; rintro e w1 ⟨rfl, hb⟩; have HB2 := Lib.hid (HB.out.trans (hb.mono HB.out.size)); have hrow2 := (hb.block _ hlw).trans hrow; clear hb) | (refine wpList_load_row rfl _ _ rfl w.heap.size rfl 41 C (0, 0) _ hrow Try.underlying41 rfl hszC ?_) | go_in)
          go_roundw
          case rel => exact ⟨k + 1, by omega, by go_num, hrow2, HB2, HP2⟩
          case measure => simp [intOf]; omega
      | fail =>
        simp only [Fnv.val] at hc
        cases hq : Fnv.ev (.fail) s
        · rw [hq] at HC
          have HV := Lib.hid (HNk.out hq)
          clear HNk HPk hq
          go_wp2_with (first | (go_at_call 25; refine HC.out.mono ?_; rintro e w1 ⟨rfl, hb⟩; have HB2 := Lib.hid (HB.out.trans (hb.mono HB.out.size)); clear hb) | (refine wpList_load_row rfl _ _ rfl w.heap.size rfl 41 C (0, 0) _ hrow Try.underlying41 rfl hszC ?_) | go_in)
          go_ret
          exact ⟨by rw [HV.out]; rfl, HB2.out⟩
        · rw [hq] at HC
          have HP2 := Lib.hid (HPk.out hq)
          clear HNk HPk hq
          go_wp2_with (first | (go_at_call 25; refine HC.out.mono ?_; rintro e w1 ⟨rfl, hb⟩; have HB2 := Lib.hid (HB.out.trans (hb.mono HB.out.size)); have hrow2 := (hb.block _ hlw).trans hrow; clear hb) | (refine wpList_load_row rfl _ _ rfl w.heap.size rfl 41 C (0, 0) _ hrow Try.underlying41 rfl hszC ?_) | go_in)
          go_roundw
          case rel => exact ⟨k + 1, by omega, by go_num, hrow2, HB2, HP2⟩
          case measure => simp [intOf]; omega
      | st fb fk =>
        simp only [Fnv.val] at hc
        cases hq : Fnv.ev (.st fb fk) s
        · rw [hq] at HC
          have HV := Lib.hid (HNk.out hq)
          clear HNk HPk hq
          go_wp2_with (first | (go_at_call 33; refine HC.out.mono ?_; rintro e w1 ⟨rfl, hb⟩; have HB2 := Lib.hid (HB.out.trans (hb.mono HB.out.size)); clear hb) | (refine wpList_load_row rfl _ _ rfl w.heap.size rfl 41 C (0, 0) _ hrow Try.underlying41 rfl hszC ?_) | go_in)
          go_ret
          exact ⟨by rw [HV.out]; rfl, HB2.out⟩
        · rw [hq] at HC
          have HP2 := Lib.hid (HPk.out hq)
          clear HNk HPk hq
          go_wp2_with (first | (go_at_call 33; refine HC.out.mono ?_; rintro e w1 ⟨rfl, hb⟩; have HB2 := Lib.hid (HB.out.trans (hb.mono HB.out.size)); have hrow2 := (hb.block _ hlw).trans hrow; clear hb) | (refine wpList_load_row rfl _ _ rfl w.heap.size rfl 41 C (0, 0) _ hrow Try.underlying41 rfl hszC ?_) | go_in)
          go_roundw
          case rel => exact ⟨k + 1, by omega, by go_num, hrow2, HB2, HP2⟩
          case measure => simp [intOf]; omega
      | wv fb fk =>
        simp only [Fnv.val] at hc
        cases hq : Fnv.ev (.wv fb fk) s
        · rw [hq] at HC
          have HV := Lib.hid (HNk.out hq)
          clear HNk HPk hq
          go_wp2_with (first | (go_at_call 34; refine HC.out.mono ?_; rintro e w1 ⟨rfl, hb⟩; have HB2 := Lib.hid (HB.out.trans (hb.mono HB.out.size)); clear hb) | (refine wpList_load_row rfl _ _ rfl w.heap.size rfl 41 C (0, 0) _ hrow Try.underlying41 rfl hszC ?_) | go_in)
          go_ret
          exact ⟨by rw [HV.out]; rfl, HB2.out⟩
        · rw [hq] at HC
          have HP2 := Lib.hid (HPk.out hq)
          clear HNk HPk hq
          go_wp2_with (first | (go_at_call 34; refine HC.out.mono ?_; rintro e w1 ⟨rfl, hb⟩; have HB2 := Lib.hid (HB.out.trans (hb.mono HB.out.size)); have hrow2 := (hb.block _ hlw).trans hrow; clear hb) | (refine wpList_load_row rfl _ _ rfl w.heap.size rfl 41 C (0, 0) _ hrow Try.underlying41 rfl hszC ?_) | go_in)
          go_roundw
          case rel => exact ⟨k + 1, by omega, by go_num, hrow2, HB2, HP2⟩
          case measure => simp [intOf]; omega
    · obtain rfl : k = l.length := by omega
      have HV := Lib.hid (HY.out (fun j hj => HP.out j hj hj))
      clear hlt
      go_wp2
      go_ret
      exact ⟨by rw [HV.out]; rfl, HB.out⟩
end Go.Proofs.Ytcbnankocjlobaa
