/- Walk of the law CronAlls. -/
import Derived.Test.YtlkdeiohjdidcaaDoorTabs
set_option linter.unusedSimpArgs false
set_option linter.unusedVariables false
namespace Go.Proofs.YtlkdeiohjdidcaaDoor
open Go.ChangeShapes Go.WideShapes Go.ChangeAt Go.RowKit Go.Base Go.Cro Go.Civ

theorem hasB_pow {b : Int} {v : Int} (n : Nat) (h : ∀ k : Nat, k < n → hasB b (k : Int) = true) (h0 : 0 ≤ v) (h1 : v < n) : hasB b v = true := by
  have := h v.toNat (by omega)
  rwa [show ((v.toNat : Nat) : Int) = v by omega] at this
theorem all_min : ∀ k : Nat, k < 60 → hasB 1152921504606846975 (k : Int) = true := by decide +kernel
theorem all_hour : ∀ k : Nat, k < 24 → hasB 16777215 (k : Int) = true := by decide +kernel
theorem all_day : ∀ k : Nat, k < 32 → 1 ≤ k → hasB 4294967294 (k : Int) = true := by decide +kernel
theorem all_month : ∀ k : Nat, k < 13 → 1 ≤ k → hasB 8190 (k : Int) = true := by decide +kernel
theorem all_week : ∀ k : Nat, k < 7 → hasB 127 (k : Int) = true := by decide +kernel
theorem one_min : ∀ m : Nat, m < 60 → ∀ k : Nat, k < 60 → hasB (IntKind.u64.wrap (2 ^ m)) (k : Int) = (k == m) := by decide +kernel
def allS (mi : Int) : Sp := ⟨mi, 16777215, 4294967294, 8190, 127, true, true⟩
theorem all_ok {mi : Int} (h : U64 mi) : SpOk (allS mi) := ⟨h, (show U64 16777215 from ⟨by decide, by decide⟩), (show U64 4294967294 from ⟨by decide, by decide⟩), (show U64 8190 from ⟨by decide, by decide⟩), (show U64 127 from ⟨by decide, by decide⟩)⟩
theorem all_match {t n y : Int} {k : Nat} {sec : Int} (h : At t n y k sec) (mi : Int) :
    matchB (allS mi) (sec % 3600 / 60) (sec / 3600) ((k : Int) + 1) (n + 719162 - ah y - cum y k + 1) (wd n) = hasB mi (sec % 3600 / 60) := by
  obtain ⟨d1, d2, w1, w2, h1, h2, m1, m2⟩ := at_date h
  have hk := h.k1
  generalize n + 719162 - ah y - cum y k + 1 = d at *
  generalize wd n = wk at *
  unfold matchB dayB allS
  simp only
  rw [hasB_pow 24 all_hour h1 (by omega)]
  have hd := all_day d.toNat (by omega) (by omega)
  rw [show ((d.toNat : Nat) : Int) = d by omega] at hd
  have hm := all_month (k + 1) (by omega) (by omega)
  rw [show (((k + 1 : Nat)) : Int) = (k : Int) + 1 by omega] at hm
  have hw := hasB_pow 7 all_week w1 (by omega)
  rw [hd, hm, hw]
  simp
theorem alls_p : parseB [42, 32, 42, 32, 42, 32, 42, 32, 42] = .ok [(1152921504606846975, true), (16777215, true), (4294967294, true), (8190, true), (127, true)] := by kernel_rfl

set_option maxHeartbeats 3200000 in
set_option maxRecDepth 100000 in
theorem law_alls (t minute : Int) (w : World) (hT : Tabs w) (t0 : -9223372036854775808 ≤ t) (t1 : t ≤ 9223372036854775807) (n0 : -9223372036854775808 ≤ minute) (n1 : minute ≤ 9223372036854775807) :
    Calls Tryd.prog 8 #[.int .i64 t, .int .i64 minute] w fun e w' => e = .returned (.bool true) ∧ Below w.heap.size w w' := by
  have HT := Lib.hid hT
  have H1 : Hid (∀ w, ScTab w → Calls Tryd.prog 10 #[.string ⟨#[42, 32, 42, 32, 42, 32, 42, 32, 42]⟩] w fun e W' => e = .returned (.tuple #[.agg #[.int .u64 1152921504606846975, .int .u64 16777215, .int .u64 4294967294, .int .u64 8190, .int .u64 127, .bool true, .bool true], .int .i64 0, .int .i64 0]) ∧ Below w.heap.size w W') := Lib.hid (fun w h => parse_ok alls_p (by decide) w h)
  have H2 := Lib.hid (fun w h => lives_any w h)
  clear hT
  by_cases hr : t < -62135596800 ∨ 253402300799 < t
  · have H3 : Hid (∀ w, Calls Tryd.prog 20 #[.agg #[.int .u64 1152921504606846975, .int .u64 16777215, .int .u64 4294967294, .int .u64 8190, .int .u64 127, .bool true, .bool true], .int .i64 t] w fun e w' => e = .returned (.bool false) ∧ Below w.heap.size w w') := Lib.hid (fun w => matches_no (allS 1152921504606846975) t w hr)
    rcases hr with hr | hr
    all_goals
      go_enter Tryd.func8, Tryd.ntmps8
      go_wp2_with fail
      refine (H1.out _ HT.out.1).mono ?_
      rintro e w1 ⟨rfl, hb1⟩
      have z1 := hb1.size
      have hb1' := hb1.alloc z1 (.cells #[.int .u64 1152921504606846975, .int .u64 16777215, .int .u64 4294967294, .int .u64 8190, .int .u64 127, .bool true, .bool true] 24)
      have r1 := heap_new w1 (.cells #[.int .u64 1152921504606846975, .int .u64 16777215, .int .u64 4294967294, .int .u64 8190, .int .u64 127, .bool true, .bool true] 24)
      have zz : (w1.alloc (.cells #[.int .u64 1152921504606846975, .int .u64 16777215, .int .u64 4294967294, .int .u64 8190, .int .u64 127, .bool true, .bool true] 24)).heap.size = w1.heap.size + 1 := by simp
      go_wp2_with fail
      generalize w1.alloc (.cells #[.int .u64 1152921504606846975, .int .u64 16777215, .int .u64 4294967294, .int .u64 8190, .int .u64 127, .bool true, .bool true] 24) = W1 at *
      have HB1 := Lib.hid hb1'
      have R1 := Lib.hid r1
      clear hb1 hb1' r1
      refine (H2.out _ (HT.out.later HB1.out)).mono ?_
      rintro e W2 ⟨rfl, hb⟩
      have zz2 := hb.size
      have R2 := Lib.hid (row_below hb (by omega) R1.out)
      have HB2 := Lib.hid (HB1.out.trans (hb.mono HB1.out.size))
      obtain ⟨c2, f2⟩ := cells_of_heap R2.out
      clear hb
      go_wp2_with fail
      refine (H3.out _).mono ?_
      rintro e W3 ⟨rfl, hb⟩
      have zz3 := hb.size
      have R3 := Lib.hid (row_below hb (by omega) R2.out)
      have HB3 := Lib.hid (HB2.out.trans (hb.mono HB2.out.size))
      obtain ⟨c3, f3⟩ := cells_of_heap R3.out
      clear hb
      go_wp2_with fail
      all_goals (go_ret; exact ⟨rfl, HB3.out⟩)
  · obtain ⟨n, y, k, sec, hat⟩ := at_of t (by omega) (by omega)
    have H3 : Hid (∀ w, Tabs w → Calls Tryd.prog 20 #[.agg #[.int .u64 1152921504606846975, .int .u64 16777215, .int .u64 4294967294, .int .u64 8190, .int .u64 127, .bool true, .bool true], .int .i64 t] w fun e w' => e = .returned (.bool true) ∧ Below w.heap.size w w') := Lib.hid (fun w h => by
      have := matches_at (allS 1152921504606846975) (all_ok ⟨by decide, by decide⟩) t n y k sec w h.2 hat
      rw [all_match hat, hasB_pow 60 all_min (at_date hat).2.2.2.2.2.2.1 (by have := (at_date hat).2.2.2.2.2.2.2; omega)] at this
      exact this)
    have hlo : -62135596800 ≤ t := by omega
    have hhi : t ≤ 253402300799 := by omega
    clear hr
    by_cases hm : minute < 0 ∨ 59 < minute
    · rcases hm with hm | hm
      all_goals
        go_enter Tryd.func8, Tryd.ntmps8
        go_wp2_with fail
        refine (H1.out _ HT.out.1).mono ?_
        rintro e w1 ⟨rfl, hb1⟩
        have z1 := hb1.size
        have hb1' := hb1.alloc z1 (.cells #[.int .u64 1152921504606846975, .int .u64 16777215, .int .u64 4294967294, .int .u64 8190, .int .u64 127, .bool true, .bool true] 24)
        have r1 := heap_new w1 (.cells #[.int .u64 1152921504606846975, .int .u64 16777215, .int .u64 4294967294, .int .u64 8190, .int .u64 127, .bool true, .bool true] 24)
        have zz : (w1.alloc (.cells #[.int .u64 1152921504606846975, .int .u64 16777215, .int .u64 4294967294, .int .u64 8190, .int .u64 127, .bool true, .bool true] 24)).heap.size = w1.heap.size + 1 := by simp
        go_wp2_with fail
        generalize w1.alloc (.cells #[.int .u64 1152921504606846975, .int .u64 16777215, .int .u64 4294967294, .int .u64 8190, .int .u64 127, .bool true, .bool true] 24) = W1 at *
        have HB1 := Lib.hid hb1'
        have R1 := Lib.hid r1
        clear hb1 hb1' r1
        refine (H2.out _ (HT.out.later HB1.out)).mono ?_
        rintro e W2 ⟨rfl, hb⟩
        have zz2 := hb.size
        have R2 := Lib.hid (row_below hb (by omega) R1.out)
        have HB2 := Lib.hid (HB1.out.trans (hb.mono HB1.out.size))
        obtain ⟨c2, f2⟩ := cells_of_heap R2.out
        clear hb
        go_wp2_with fail
        refine (H3.out _ (HT.out.later HB2.out)).mono ?_
        rintro e W3 ⟨rfl, hb⟩
        have zz3 := hb.size
        have R3 := Lib.hid (row_below hb (by omega) R2.out)
        have HB3 := Lib.hid (HB2.out.trans (hb.mono HB2.out.size))
        obtain ⟨c3, f3⟩ := cells_of_heap R3.out
        clear hb
        go_wp2_with fail
        all_goals (go_ret; exact ⟨rfl, HB3.out⟩)
    · have hm0 : 0 ≤ minute := by omega
      have hm1 : minute ≤ 59 := by omega
      clear hm
      go_enter Tryd.func8, Tryd.ntmps8
      go_wp2_with fail
      refine (H1.out _ HT.out.1).mono ?_
      rintro e w1 ⟨rfl, hb1⟩
      have z1 := hb1.size
      have hb1' := hb1.alloc z1 (.cells #[.int .u64 1152921504606846975, .int .u64 16777215, .int .u64 4294967294, .int .u64 8190, .int .u64 127, .bool true, .bool true] 24)
      have r1 := heap_new w1 (.cells #[.int .u64 1152921504606846975, .int .u64 16777215, .int .u64 4294967294, .int .u64 8190, .int .u64 127, .bool true, .bool true] 24)
      have zz : (w1.alloc (.cells #[.int .u64 1152921504606846975, .int .u64 16777215, .int .u64 4294967294, .int .u64 8190, .int .u64 127, .bool true, .bool true] 24)).heap.size = w1.heap.size + 1 := by simp
      go_wp2_with fail
      generalize w1.alloc (.cells #[.int .u64 1152921504606846975, .int .u64 16777215, .int .u64 4294967294, .int .u64 8190, .int .u64 127, .bool true, .bool true] 24) = W1 at *
      have HB1 := Lib.hid hb1'
      have R1 := Lib.hid r1
      clear hb1 hb1' r1
      refine (H2.out _ (HT.out.later HB1.out)).mono ?_
      rintro e W2 ⟨rfl, hb⟩
      have zz2 := hb.size
      have R2 := Lib.hid (row_below hb (by omega) R1.out)
      have HB2 := Lib.hid (HB1.out.trans (hb.mono HB1.out.size))
      obtain ⟨c2, f2⟩ := cells_of_heap R2.out
      clear hb
      go_wp2_with fail
      refine (H3.out _ (HT.out.later HB2.out)).mono ?_
      rintro e W3 ⟨rfl, hb⟩
      have zz3 := hb.size
      have R3 := Lib.hid (row_below hb (by omega) R2.out)
      have HB3 := Lib.hid (HB2.out.trans (hb.mono HB2.out.size))
      obtain ⟨c3, f3⟩ := cells_of_heap R3.out
      clear hb
      go_wp2_with fail
      have hdx := hat.day; have hs0 := hat.s0; have hs1 := hat.s1
      have hmm : (t + 62135596800) / 60 % 60 = sec % 3600 / 60 := by omega
      have HMM := Lib.hid hmm
      have hw : U64 (IntKind.u64.wrap (2 ^ minute.toNat)) := by
        have := IntKind.wrap_u64 ((2 : Int) ^ minute.toNat)
        unfold U64
        rw [this]
        omega
      have H5 : Hid (∀ w, Tabs w → Calls Tryd.prog 20 #[.agg #[.int .u64 (IntKind.u64.wrap (2 ^ minute.toNat)), .int .u64 16777215, .int .u64 4294967294, .int .u64 8190, .int .u64 127, .bool true, .bool true], .int .i64 t] w fun e w' => e = .returned (.bool (sec % 3600 / 60 == minute)) ∧ Below w.heap.size w w') := Lib.hid (fun w h => by
        have := matches_at (allS (IntKind.u64.wrap (2 ^ minute.toNat))) (all_ok hw) t n y k sec w h.2 hat
        rw [all_match hat] at this
        have h7 := (at_date hat).2.2.2.2.2.2.1
        have h8 := (at_date hat).2.2.2.2.2.2.2
        have ho := one_min minute.toNat (by omega) (sec % 3600 / 60).toNat (by omega)
        rw [show (((sec % 3600 / 60).toNat : Nat) : Int) = sec % 3600 / 60 by omega] at ho
        have he : ((sec % 3600 / 60).toNat == minute.toNat) = (sec % 3600 / 60 == minute) := by
          rw [Bool.eq_iff_iff]; simp only [beq_iff_eq]; omega
        rw [ho, he] at this
        exact this)
      have HB4 := Lib.hid (HB3.out.setCell (p := ⟨w1.heap.size, 0, none⟩) z1 (.int .u64 (IntKind.u64.wrap (2 ^ minute.toNat))))
      clear hdx hs0 hs1 hmm hw
      refine (H5.out _ (HT.out.later HB4.out)).mono ?_
      rintro e W5 ⟨rfl, hb⟩
      have HB5 := Lib.hid (HB4.out.trans (hb.mono HB4.out.size))
      clear hb
      go_wp2_with fail
      go_ret
      exact ⟨ret_bool (by rw [HMM.out]; simp), HB5.out⟩
end Go.Proofs.YtlkdeiohjdidcaaDoor
