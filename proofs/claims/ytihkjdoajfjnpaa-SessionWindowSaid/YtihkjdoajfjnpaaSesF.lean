/- Package session: wire's Fits. -/
import Derived.Test.YtihkjdoajfjnpaaSesD
set_option linter.unusedSimpArgs false
set_option linter.unusedVariables false
namespace Go.Ses
def Ev.nums (v : Ev) : List Int := [v.yours, v.seq, v.ack]
def bootB (n : Int) : Bool := decide (1 ≤ n ∧ n ≤ 2147483647)
def kindB (v : Ev) (n : Nat) : Bool :=
  if v.kind = 1 then decide (v.seq = 0 ∧ n = 0 ∧ v.ack = 0) else if v.kind = 2 then decide (0 < v.seq ∧ 0 < v.yours) else if v.kind = 3 then decide (v.seq = 0 ∧ n = 0) else false
theorem fits_is (v : Ev) : fitsB v = (decide (∀ y ∈ v.nums, 0 ≤ y ∧ y ≤ 2147483647) && bootB v.mine && decide (v.body.length ≤ 32768) && kindB v v.body.length) := by
  have e : decide (∀ y ∈ v.nums, 0 ≤ y ∧ y ≤ 2147483647) = (decide (0 ≤ v.yours ∧ v.yours ≤ 2147483647) && decide (0 ≤ v.seq ∧ v.seq ≤ 2147483647) && decide (0 ≤ v.ack ∧ v.ack ≤ 2147483647)) := by
    have e : (∀ y ∈ v.nums, 0 ≤ y ∧ y ≤ 2147483647) ↔ ((0 ≤ v.yours ∧ v.yours ≤ 2147483647) ∧ (0 ≤ v.seq ∧ v.seq ≤ 2147483647)) ∧ (0 ≤ v.ack ∧ v.ack ≤ 2147483647) := by
      simp only [Ev.nums, List.mem_cons, List.not_mem_nil, or_false]
      constructor
      · intro h; exact ⟨⟨h _ (.inl rfl), h _ (.inr (.inl rfl))⟩, h _ (.inr (.inr rfl))⟩
      · rintro ⟨⟨h1, h2⟩, h3⟩ y (rfl | rfl | rfl)
        · exact h1
        · exact h2
        · exact h3
    by_cases h : (∀ y ∈ v.nums, 0 ≤ y ∧ y ≤ 2147483647)
    · obtain ⟨⟨h1, h2⟩, h3⟩ := e.1 h
      rw [decide_eq_true h, decide_eq_true h1, decide_eq_true h2, decide_eq_true h3]; rfl
    · rw [decide_eq_false h]
      have h2 : ¬ (((0 ≤ v.yours ∧ v.yours ≤ 2147483647) ∧ (0 ≤ v.seq ∧ v.seq ≤ 2147483647)) ∧ (0 ≤ v.ack ∧ v.ack ≤ 2147483647)) := fun h3 => h (e.2 h3)
      symm
      rw [Bool.eq_false_iff]
      intro h3
      simp only [Bool.and_eq_true, decide_eq_true_eq] at h3
      exact h2 h3
  rw [e]; rfl
end Go.Ses
namespace Go.Proofs.Ytihkjdoajfjnpaa
open Go.ChangeShapes Go.WideShapes Go.ChangeAt Go.RowKit Go.Base Go.Ses

theorem mayBoot_any (w : World) (n : Int) : Calls Try.prog 28 #[.int .i64 n] w fun e w' => e = .returned (.bool (bootB n)) ∧ w = w' := by
  by_cases h : 1 ≤ n
  · go_enter Try.func28, Try.ntmps28
    go_wp2
    go_ret
    exact ⟨ret_bool (by unfold bootB; simp [h] <;> omega), rfl⟩
  · go_enter Try.func28, Try.ntmps28
    go_wp2
    go_ret
    exact ⟨ret_bool (by unfold bootB; simp [h] <;> omega), rfl⟩
set_option maxHeartbeats 4000000 in
set_option maxRecDepth 20000 in
theorem fits_any (v : Ev) (A : Option Addr) (c : Nat) (w : World) :
    Calls Try.prog 20 #[.agg #[.int .i64 v.kind, .int .i64 v.mine, .int .i64 v.yours, .int .i64 v.seq, .int .i64 v.ack, .slice A v.body.length c]] w fun e w' => e = .returned (.bool (fitsB v)) ∧ Below w.heap.size w w' := by
  obtain ⟨n, hn⟩ : ∃ n, n = v.body.length := ⟨_, rfl⟩
  have HF : Hid (fitsB v = (decide (∀ y ∈ v.nums, 0 ≤ y ∧ y ≤ 2147483647) && bootB v.mine && decide (n ≤ 32768) && kindB v n)) := Lib.hid (by rw [hn]; exact fits_is v)
  rw [← hn]
  obtain ⟨W, hW⟩ : ∃ W, W = w.alloc (.cells #[.int .i64 v.kind, .int .i64 v.mine, .int .i64 v.yours, .int .i64 v.seq, .int .i64 v.ack, .slice A n c] 29) := ⟨_, rfl⟩
  have kW : W.heap[w.heap.size]? = some (.cells #[.int .i64 v.kind, .int .i64 v.mine, .int .i64 v.yours, .int .i64 v.seq, .int .i64 v.ack, .slice A n c] 29 (0, 0)) := by rw [hW]; exact heap_new w _
  have hBW : Below w.heap.size w W := by rw [hW]; exact below_alloc _ _
  obtain ⟨V, hV⟩ : ∃ V, V = W.alloc (.cells #[.int .i64 v.yours, .int .i64 v.seq, .int .i64 v.ack] 3) := ⟨_, rfl⟩
  have kV : V.heap[W.heap.size]? = some (.cells #[.int .i64 v.yours, .int .i64 v.seq, .int .i64 v.ack] 3 (0, 0)) := by rw [hV]; exact heap_new W _
  have kE : V.heap[w.heap.size]? = some (.cells #[.int .i64 v.kind, .int .i64 v.mine, .int .i64 v.yours, .int .i64 v.seq, .int .i64 v.ack, .slice A n c] 29 (0, 0)) := by rw [hV]; exact heap_old _ (heap_lt kW) kW
  have hBV : Below w.heap.size w V := by rw [hV]; exact hBW.alloc hBW.size _
  have HW := Lib.hid hW
  have HV := Lib.hid hV
  have HBV := Lib.hid hBV
  have w0 := cell_of_row _ _ 0 _ _ _ kW
  have w1 := cell_of_row _ _ 1 _ _ _ kW
  have w2 := cell_of_row _ _ 2 _ _ _ kW
  have w3 := cell_of_row _ _ 3 _ _ _ kW
  have w4 := cell_of_row _ _ 4 _ _ _ kW
  have w5 := cell_of_row _ _ 5 _ _ _ kW
  have HC : Hid (∀ (k : Nat) (y : Int), v.nums[k]? = some y → V.cell? ⟨W.heap.size, k, none⟩ = some (.int .i64 y)) := Lib.hid (fun k y hy => by
    rw [cell_of_row _ _ _ _ _ _ kV]
    match k, hy with
    | 0, hy => cases hy; rfl
    | 1, hy => cases hy; rfl
    | 2, hy => cases hy; rfl)
  have HCe := Lib.hid kE
  have HMb := Lib.hid (fun X => mayBoot_any X v.mine)
  clear hn hW hV kW kV kE hBW hBV
  go_enter Try.func20, Try.ntmps20
  go_wp2_with (first | rw [← HW.out] | rw [← HV.out])
  go_loop [14] (fun iv => ∃ k : Nat, k ≤ 3 ∧ iv = .int .i64 (k : Int) ∧ Hid (∀ y ∈ v.nums.take k, 0 ≤ y ∧ y ≤ 2147483647)) (fun iv => 3 - (intOf iv).toNat)
  case atStart => exact ⟨0, Nat.zero_le _, rfl, Lib.hid (fun y hy => by simp at hy)⟩
  case round =>
    obtain ⟨k, hk3, rfl, HP⟩ := hrel
    have hkz : (0 : Int) ≤ (k : Int) := by omega
    clear w0 w1 w2 w3 w4 w5
    by_cases hlt : k < 3
    · have hlt' : (k : Int) < 3 := by omega
      have hkl : k < v.nums.length := hlt
      obtain ⟨y, hy⟩ : ∃ y, v.nums[k]? = some y := ⟨_, List.getElem?_eq_getElem hkl⟩
      have hc := HC.out k y hy
      have HNo : Hid (¬ (0 ≤ y ∧ y ≤ 2147483647) → fitsB v = false) := Lib.hid (fun h => by
        rw [HF.out]
        have : ¬ (∀ y ∈ v.nums, 0 ≤ y ∧ y ≤ 2147483647) := fun h2 => h (h2 y (List.mem_of_getElem? hy))
        simp only [decide_eq_false this, Bool.false_and])
      have HYes : Hid ((0 ≤ y ∧ y ≤ 2147483647) → ∀ y ∈ v.nums.take (k + 1), 0 ≤ y ∧ y ≤ 2147483647) := Lib.hid (fun h z hz => by
        rw [List.take_add_one, hy] at hz
        rcases List.mem_append.1 hz with h1 | h1
        · exact HP.out z h1
        · simp at h1; subst h1; exact h)
      clear hy hkl
      by_cases h0 : 0 ≤ y
      · by_cases h1 : y ≤ 2147483647
        · have HY := Lib.hid (HYes.out ⟨h0, h1⟩)
          go_wp2
          go_round
          case rel => exact ⟨k + 1, by omega, by go_num, HY⟩
          case measure => simp [intOf]; omega
        · have HN := Lib.hid (HNo.out (fun h => h1 h.2))
          go_wp2
          go_ret
          exact ⟨ret_bool HN.out.symm, HBV.out⟩
      · have HN := Lib.hid (HNo.out (fun h => h0 h.1))
        go_wp2
        go_ret
        exact ⟨ret_bool HN.out.symm, HBV.out⟩
    · obtain rfl : k = 3 := by omega
      have HA : Hid (fitsB v = (bootB v.mine && decide (n ≤ 32768) && kindB v n)) := Lib.hid (by
        rw [HF.out]
        have : ∀ y ∈ v.nums, 0 ≤ y ∧ y ≤ 2147483647 := HP.out
        simp only [decide_eq_true this, Bool.true_and])
      have kE := HCe.out
      have e0 := cell_of_row _ _ 0 _ _ _ kE
      have e1 := cell_of_row _ _ 1 _ _ _ kE
      have e2 := cell_of_row _ _ 2 _ _ _ kE
      have e3 := cell_of_row _ _ 3 _ _ _ kE
      have e4 := cell_of_row _ _ 4 _ _ _ kE
      have e5 := cell_of_row _ _ 5 _ _ _ kE
      obtain ⟨x0, h0⟩ : ∃ y, y = v.kind := ⟨_, rfl⟩
      obtain ⟨x2, h2⟩ : ∃ y, y = v.yours := ⟨_, rfl⟩
      obtain ⟨x3, h3⟩ : ∃ y, y = v.seq := ⟨_, rfl⟩
      obtain ⟨x4, h4⟩ : ∃ y, y = v.ack := ⟨_, rfl⟩
      obtain ⟨q, hq⟩ : ∃ y, y = bootB v.mine := ⟨_, rfl⟩
      rw [← h0] at e0
      rw [← h2] at e2
      rw [← h3] at e3
      rw [← h4] at e4
      rw [← hq] at HMb
      have HK : Hid (fitsB v = (q && decide (n ≤ 32768) && (if x0 = 1 then decide (x3 = 0 ∧ n = 0 ∧ x4 = 0) else if x0 = 2 then decide (0 < x3 ∧ 0 < x2) else if x0 = 3 then decide (x3 = 0 ∧ n = 0) else false))) := Lib.hid (by rw [HA.out, ← hq, h0, h2, h3, h4]; rfl)
      clear kE h0 h2 h3 h4 hq hlt hkz hk3
      cases q with
      | false =>
        go_wp2_with (go_at_call 28; refine Calls.mono (HMb.out _) ?_; rintro e w1 ⟨rfl, rfl⟩)
        go_ret
        exact ⟨ret_bool (by rw [HK.out]; rfl), HBV.out⟩
      | true =>
        by_cases hl : n ≤ 32768
        · have hl' : (n : Int) ≤ 32768 := by omega
          by_cases c1 : x0 = 1
          · subst c1
            go_wp2_with (go_at_call 28; refine Calls.mono (HMb.out _) ?_; rintro e w1 ⟨rfl, rfl⟩)
            all_goals
              go_ret
              exact ⟨ret_bool (by rw [HK.out]; rw [Bool.eq_iff_iff]; simp; omega), HBV.out⟩
          by_cases c2 : x0 = 2
          · subst c2
            go_wp2_with (go_at_call 28; refine Calls.mono (HMb.out _) ?_; rintro e w1 ⟨rfl, rfl⟩)
            all_goals
              go_ret
              exact ⟨ret_bool (by rw [HK.out]; rw [Bool.eq_iff_iff]; simp; omega), HBV.out⟩
          by_cases c3 : x0 = 3
          · subst c3
            go_wp2_with (go_at_call 28; refine Calls.mono (HMb.out _) ?_; rintro e w1 ⟨rfl, rfl⟩)
            all_goals
              go_ret
              exact ⟨ret_bool (by rw [HK.out]; rw [Bool.eq_iff_iff]; simp; omega), HBV.out⟩
          · have d1 : (x0 == 1) = false := by simpa using c1
            have d2 : (x0 == 2) = false := by simpa using c2
            have d3 : (x0 == 3) = false := by simpa using c3
            have HN : Hid (fitsB v = false) := Lib.hid (by rw [HK.out, if_neg c1, if_neg c2, if_neg c3]; simp)
            clear c1 c2 c3
            go_wp2_with (go_at_call 28; refine Calls.mono (HMb.out _) ?_; rintro e w1 ⟨rfl, rfl⟩)
            all_goals
              go_ret
              exact ⟨ret_bool HN.out.symm, HBV.out⟩
        · have hl' : (32768 : Int) < (n : Int) := by omega
          have HN : Hid (fitsB v = false) := Lib.hid (by rw [HK.out, decide_eq_false hl]; simp)
          clear hl
          go_wp2_with (go_at_call 28; refine Calls.mono (HMb.out _) ?_; rintro e w1 ⟨rfl, rfl⟩)
          go_ret
          exact ⟨ret_bool HN.out.symm, HBV.out⟩
end Go.Proofs.Ytihkjdoajfjnpaa
