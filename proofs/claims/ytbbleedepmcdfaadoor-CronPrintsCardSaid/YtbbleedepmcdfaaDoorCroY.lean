/- Walk of the law CronRanges. -/
import Derived.Test.YtbbleedepmcdfaaDoorCroX
import Derived.Laws.BitsAllLaws
set_option linter.unusedSimpArgs false
set_option linter.unusedVariables false
namespace Go.Proofs.YtbbleedepmcdfaaDoor
open Go.ChangeShapes Go.WideShapes Go.ChangeAt Go.RowKit Go.Base Go.Cro Go.Civ

theorem splitB_app (p : UInt8 → Bool) (c : UInt8) (r : Bytes) (hc : p c = true) : ∀ x : Bytes, (∀ b ∈ x, p b = false) → splitB p (x ++ c :: r) = x :: splitB p r
  | [], _ => by simp only [List.nil_append, splitB]; rw [if_pos hc]
  | b :: x, h => by
    have hb := h b (by simp)
    have ih := splitB_app p c r hc x (fun a ha => h a (by simp [ha]))
    simp only [List.cons_append, splitB]
    rw [hb, ih]
    simp
theorem splitB_sole (p : UInt8 → Bool) : ∀ x : Bytes, (∀ b ∈ x, p b = false) → splitB p x = [x]
  | [], _ => rfl
  | b :: x, h => by
    have hb := h b (by simp)
    have ih := splitB_sole p x (fun a ha => h a (by simp [ha]))
    simp only [splitB]
    rw [hb, ih]
    simp
theorem indexByte_app (c : UInt8) (r : Bytes) : ∀ a : Bytes, (∀ b ∈ a, b ≠ c) → Lib.indexByte (a ++ c :: r) c = (a.length : Nat)
  | [], _ => by simp [Lib.indexByte]
  | b :: a, h => by
    have hb := h b (by simp)
    have ih := indexByte_app c r a (fun x hx => h x (by simp [hx]))
    simp only [List.cons_append, Lib.indexByte]
    rw [ih]
    have h1 : (b == c) = false := by simpa using hb
    rw [h1]
    simp only [Bool.false_eq_true, if_false, List.length_cons]
    rw [if_neg (by simp)]
    omega
theorem cutB_app (c : UInt8) (a r : Bytes) (h : ∀ b ∈ a, b ≠ c) : cutB c (a ++ c :: r) = (a, r, true) := by
  unfold cutB
  rw [indexByte_app c r a h, if_pos (by omega)]
  simp
theorem u64_bd {a b : Int} (h1 : U64 a) (h2 : U64 b) : U64 (bits .or .u64 a b) := by
  obtain ⟨h1, h1'⟩ := h1
  obtain ⟨h2, h2'⟩ := h2
  have := u64_or a b h1 (by omega) h2 (by omega)
  rw [this]
  have hlt : a.toNat ||| b.toNat < 2 ^ 64 := Nat.or_lt_two_pow (by omega) (by omega)
  unfold U64
  omega
theorem u64_wrap (x : Int) : U64 (IntKind.u64.wrap x) := by
  unfold U64; rw [IntKind.wrap_u64]; omega
theorem setB_bd {a v : Int} (h : U64 a) : U64 (setB a v) := u64_bd h (u64_wrap _)
theorem valsFrom_bd (least most last step : Int) : ∀ (f : Nat) (v a : Int), U64 a → U64 (valsFrom least most last step f v a)
  | 0, _, _, h => h
  | f + 1, v, a, h => by
    simp only [valsFrom]
    split
    · exact valsFrom_bd least most last step f _ _ (setB_bd h)
    · exact h
theorem or_zero_left {a : Int} (h : U64 a) : bits .or .u64 0 a = a := by
  have := u64_or 0 a (by omega) (by decide) h.1 (by have := h.2; omega)
  rw [this]
  have := h.1
  simp; omega

theorem dig_num : ∀ n : Nat, n < 100 → numB (digB n) = some (n : Int) := by decide +kernel
theorem dig_step : ∀ n : Nat, n < 100 → 1 ≤ n → stepB (digB n) = some (n : Int) := by decide +kernel
theorem dig_bytes : ∀ n : Nat, n < 100 → ((digB n).all fun b => decide (b ≠ 47) && decide (b ≠ 45) && decide (b ≠ 44) && decide (b ≠ 32) && decide (b ≠ 9) && decide (b ≠ 42)) = true := by decide +kernel
theorem dig_ne {n : Nat} (h : n < 100) {b : UInt8} (hb : b ∈ digB n) : b ≠ 47 ∧ b ≠ 45 ∧ b ≠ 44 ∧ b ≠ 32 ∧ b ≠ 9 ∧ b ≠ 42 := by
  have := List.all_eq_true.1 (dig_bytes n h) b hb
  simp only [Bool.and_eq_true, decide_eq_true_eq] at this
  exact ⟨this.1.1.1.1.1, this.1.1.1.1.2, this.1.1.1.2, this.1.1.2, this.1.2, this.2⟩
/-- The text of a range with a step. -/
def rgT (f t st : Nat) : Bytes := (digB f ++ 45 :: digB t) ++ 47 :: digB st
def rgAll (f t st : Nat) : Bytes := rgT f t st ++ 32 :: [42, 32, 42, 32, 42, 32, 42]
theorem rg_ne {f t st : Nat} (hf : f < 100) (ht : t < 100) (hs : st < 100) {b : UInt8} (hb : b ∈ rgT f t st) : b ≠ 44 ∧ b ≠ 32 ∧ b ≠ 9 := by
  unfold rgT at hb
  simp only [List.mem_append, List.mem_cons] at hb
  rcases hb with (hb | rfl | hb) | rfl | hb
  · have := dig_ne hf hb; exact ⟨this.2.2.1, this.2.2.2.1, this.2.2.2.2.1⟩
  · decide
  · have := dig_ne ht hb; exact ⟨this.2.2.1, this.2.2.2.1, this.2.2.2.2.1⟩
  · decide
  · have := dig_ne hs hb; exact ⟨this.2.2.1, this.2.2.2.1, this.2.2.2.2.1⟩
theorem rg_item (f t st : Nat) (h1 : f ≤ t) (h2 : t ≤ 59) (h3 : 1 ≤ st) (h4 : st ≤ 99) : itemB (rdB 0) (rgT f t st) = some ⟨false, f, t, false, st, true⟩ := by
  have c1 : cutB 47 (rgT f t st) = (digB f ++ 45 :: digB t, digB st, true) := by
    unfold rgT
    refine cutB_app 47 _ _ ?_
    intro b hb
    simp only [List.mem_append, List.mem_cons] at hb
    rcases hb with hb | rfl | hb
    · exact (dig_ne (by omega) hb).1
    · decide
    · exact (dig_ne (by omega) hb).1
  have c2 : cutB 45 (digB f ++ 45 :: digB t) = (digB f, digB t, true) := cutB_app 45 _ _ (fun b hb => (dig_ne (by omega) hb).2.1)
  have hne : digB f ++ 45 :: digB t ≠ [42] := by
    intro h
    have : (45 : UInt8) ∈ ([42] : Bytes) := by rw [← h]; simp
    simp at this
  unfold itemB
  rw [c1]
  simp only [if_true]
  rw [dig_step st (by omega) h3]
  simp only
  unfold spanB
  rw [if_neg hne, c2]
  simp only [if_true]
  rw [show rdB 0 (digB f) = numB (digB f) from rfl, show rdB 0 (digB t) = numB (digB t) from rfl, dig_num f (by omega), dig_num t (by omega)]
  rfl
theorem rg_field (f t st : Nat) (h1 : f ≤ t) (h2 : t ≤ 59) (h3 : 1 ≤ st) (h4 : st ≤ 99) : fieldB 0 (rgT f t st) = .ok (valsB (scB 0) f t st, false) := by
  unfold fieldB
  rw [splitB_sole commaB _ (fun b hb => by have := (rg_ne (by omega) (by omega) (by omega) hb).1; simpa [commaB] using this)]
  simp only [fieldFrom]
  rw [rg_item f t st h1 h2 h3 h4]
  simp only
  have hw : withinB ⟨false, f, t, false, st, true⟩ (scB 0) = true := by
    unfold withinB scB
    simp
    omega
  rw [hw]
  simp only [if_true]
  have hv : itValsB ⟨false, f, t, false, st, true⟩ (scB 0) = valsB (scB 0) f t st := by unfold itValsB; simp
  have hz : bits .or .u64 0 (valsB (scB 0) f t st) = valsB (scB 0) f t st := or_zero_left (valsFrom_bd _ _ _ _ _ _ _ ⟨by decide, by decide⟩)
  rw [hv, hz]
  rfl
theorem rg_parse (f t st : Nat) (h1 : f ≤ t) (h2 : t ≤ 59) (h3 : 1 ≤ st) (h4 : st ≤ 99) :
    parseB (rgAll f t st) = .ok [(valsB (scB 0) f t st, false), (16777215, true), (4294967294, true), (8190, true), (127, true)] := by
  have hlen : (rgAll f t st).length ≤ 256 := by
    unfold rgAll rgT
    have a := digB_len f; have b := digB_len t; have c := digB_len st
    simp only [List.length_append, List.length_cons, List.length_nil]; omega
  have hne : rgT f t st ≠ [] := by unfold rgT; simp
  have hfs : fieldsB (rgAll f t st) = [rgT f t st, [42], [42], [42], [42]] := by
    unfold fieldsB rgAll
    rw [splitB_app blankB 32 _ rfl _ (fun b hb => by have := rg_ne (by omega) (by omega) (by omega) hb; simp [blankB, this.2.1, this.2.2])]
    rw [show splitB blankB [42, 32, 42, 32, 42, 32, 42] = [[42], [42], [42], [42]] from by decide +kernel]
    rw [List.filter_cons, if_pos (by simpa using hne)]
    rfl
  have f1 : fieldB 1 [42] = .ok (16777215, true) := by kernel_rfl
  have f2 : fieldB 2 [42] = .ok (4294967294, true) := by kernel_rfl
  have f3 : fieldB 3 [42] = .ok (8190, true) := by kernel_rfl
  have f4 : fieldB 4 [42] = .ok (127, true) := by kernel_rfl
  unfold parseB
  rw [if_neg (by omega), hfs]
  simp only [parseFrom, rg_field f t st h1 h2 h3 h4, f1, f2, f3, f4, Nat.zero_add, Nat.reduceAdd, List.nil_append, List.cons_append, if_false, Nat.reduceEqDiff]
  rw [if_neg (by decide)]
theorem valsFrom_end {least most last step v a : Int} (h : last < v) : ∀ f : Nat, valsFrom least most last step f v a = a
  | 0 => rfl
  | f + 1 => by simp only [valsFrom]; rw [if_neg (by omega)]
theorem valsFrom_step {least most last step v a : Int} (f : Nat) (h : v ≤ last) (hm : last ≤ most) : valsFrom least most last step (f + 1) v a = valsFrom least most last step f (v + step) (bits .or .u64 a (IntKind.u64.wrap (2 ^ v.toNat))) := by
  simp only [valsFrom]
  rw [if_pos h, if_neg (by omega)]
  rfl
theorem rg_len (f t st : Nat) : (rgAll f t st).length ≤ 20 := by
  unfold rgAll rgT
  have a := digB_len f; have b := digB_len t; have c := digB_len st
  simp only [List.length_append, List.length_cons, List.length_nil]; omega

set_option maxHeartbeats 3200000 in
set_option maxRecDepth 100000 in
theorem ranges_in (f t st : Nat) (h1 : f ≤ t) (h2 : t ≤ 59) (h3 : 1 ≤ st) (h4 : st ≤ 99) (w : World) (hT : Tabs w) :
    Calls Tryd.prog 7 #[.int .i64 f, .int .i64 t, .int .i64 st] w fun e w' => e = .returned (.bool true) ∧ Below w.heap.size w w' := by
  have HT := Lib.hid hT
  have hb : (0 : Int) ≤ (f : Int) ∧ (f : Int) ≤ (t : Int) ∧ (t : Int) ≤ 59 ∧ (1 : Int) ≤ (st : Int) ∧ (st : Int) ≤ 99 := by omega
  have HA : Hid (((((((⟨(digB f).toArray⟩ : ByteArray) ++ (⟨#[45]⟩ : ByteArray)) ++ (⟨(digB t).toArray⟩ : ByteArray)) ++ (⟨#[47]⟩ : ByteArray)) ++ (⟨(digB st).toArray⟩ : ByteArray)) ++ (⟨#[32, 42, 32, 42, 32, 42, 32, 42]⟩ : ByteArray)) = ⟨(rgAll f t st).toArray⟩) := Lib.hid (by
    rw [show (⟨#[45]⟩ : ByteArray) = ⟨[45].toArray⟩ from rfl, show (⟨#[47]⟩ : ByteArray) = ⟨[47].toArray⟩ from rfl, show (⟨#[32, 42, 32, 42, 32, 42, 32, 42]⟩ : ByteArray) = ⟨[32, 42, 32, 42, 32, 42, 32, 42].toArray⟩ from rfl]
    rw [bytes_append, bytes_append, bytes_append, bytes_append, bytes_append]
    congr 2
    unfold rgAll rgT
    simp)
  have H1 : Hid (∀ w, ScTab w → Calls Tryd.prog 10 #[.string ⟨(rgAll f t st).toArray⟩] w fun e W' => e = .returned (.tuple #[.agg #[.int .u64 (valsB (scB 0) f t st), .int .u64 16777215, .int .u64 4294967294, .int .u64 8190, .int .u64 127, .bool true, .bool true], .int .i64 0, .int .i64 0]) ∧ Below w.heap.size w W') := Lib.hid (fun w h => parse_ok (rg_parse f t st h1 h2 h3 h4) (by have := rg_len f t st; unfold maxLen; omega) w h)
  have D1 := Lib.hid (fun w => digits_any f (by omega) w)
  have D2 := Lib.hid (fun w => digits_any t (by omega) w)
  have D3 := Lib.hid (fun w => digits_any st (by omega) w)
  have HL := Lib.hid (fun w h => lives_any w h)
  have l1 := digB_len f
  have l2 := digB_len t
  have l3 := digB_len st
  have HV0 : Hid (valsFrom 0 59 t st 100 f 0 = valsB (scB 0) f t st) := Lib.hid rfl
  generalize valsB (scB 0) f t st = VT at H1 HV0
  clear hT h1 h2 h3 h4
  go_enter Tryd.func7, Tryd.ntmps7
  go_wp2_with fail
  refine (D1.out _).mono ?_
  rintro e w1 ⟨rfl, hb1⟩
  have HB1 := Lib.hid hb1
  clear hb1
  go_wp2_with fail
  refine (D2.out _).mono ?_
  rintro e w2 ⟨rfl, hb2⟩
  have HB2 := Lib.hid (HB1.out.trans (hb2.mono HB1.out.size))
  clear hb2
  go_wp2_with fail
  refine (D3.out _).mono ?_
  rintro e w3 ⟨rfl, hb3⟩
  have HB3 := Lib.hid (HB2.out.trans (hb3.mono HB2.out.size))
  clear hb3
  go_wp2_with fail
  rw [HA.out]
  refine (H1.out _ (HT.out.later HB3.out).1).mono ?_
  rintro e w4 ⟨rfl, hb4⟩
  have HB4 := Lib.hid (HB3.out.trans (hb4.mono HB3.out.size))
  clear hb4
  have z4 := HB4.out.size
  have hb5 := HB4.out.alloc z4 (.cells #[.int .u64 VT, .int .u64 16777215, .int .u64 4294967294, .int .u64 8190, .int .u64 127, .bool true, .bool true] 24)
  have r5 := heap_new w4 (.cells #[.int .u64 VT, .int .u64 16777215, .int .u64 4294967294, .int .u64 8190, .int .u64 127, .bool true, .bool true] 24)
  have z5 : (w4.alloc (.cells #[.int .u64 VT, .int .u64 16777215, .int .u64 4294967294, .int .u64 8190, .int .u64 127, .bool true, .bool true] 24)).heap.size = w4.heap.size + 1 := by simp
  go_wp2_with fail
  generalize w4.alloc (.cells #[.int .u64 VT, .int .u64 16777215, .int .u64 4294967294, .int .u64 8190, .int .u64 127, .bool true, .bool true] 24) = W5 at *
  have HB5 := Lib.hid hb5
  have R5 := Lib.hid r5
  clear hb5 r5
  go_loop [10, 11] (fun a v => ∃ (A X : Int) (fuel : Nat), a = .int .u64 A ∧ v = .int .i64 X ∧ Hid (valsFrom 0 59 t st fuel X A = VT) ∧ (t : Int) - X < fuel ∧ 0 ≤ X ∧ X ≤ t + st) (fun _ v => (200 - intOf v).toNat)
  case atStart => exact ⟨0, f, 100, rfl, rfl, HV0, by omega, by omega, by omega⟩
  case round =>
    obtain ⟨A, X, fuel, rfl, rfl, HV, hfu, hx0, hx1⟩ := hrel
    by_cases hle : X ≤ t
    · obtain ⟨g, rfl⟩ : ∃ g, fuel = g + 1 := ⟨fuel - 1, by omega⟩
      have hv := HV.out
      rw [valsFrom_step g hle (by omega)] at hv
      have HV2 := Lib.hid hv
      clear hv HV
      go_wp2
      exact ⟨⟨_, _, g, rfl, rfl, HV2, by omega, by omega, by omega⟩, by simp [intOf]; omega⟩
    · have hv := HV.out
      rw [valsFrom_end (by omega)] at hv
      subst hv
      clear HV
      go_wp2_with fail
      refine (HL.out _ (HT.out.later HB5.out)).mono ?_
      rintro e W6 ⟨rfl, hb⟩
      have HB6 := Lib.hid (HB5.out.trans (hb.mono HB5.out.size))
      obtain ⟨c6, _⟩ := cells_of_heap (row_below hb (by omega) R5.out)
      clear hb
      go_wp2_with fail
      go_ret
      exact ⟨rfl, HB6.out⟩
set_option maxHeartbeats 3200000 in
set_option maxRecDepth 100000 in
theorem ranges_out (f t st : Int) (h : f < 0 ∨ t < f ∨ 59 < t ∨ st < 1 ∨ 99 < st) (w : World) (hT : Tabs w) :
    Calls Tryd.prog 7 #[.int .i64 f, .int .i64 t, .int .i64 st] w fun e w' => e = .returned (.bool true) ∧ Below w.heap.size w w' := by
  have HT := Lib.hid hT
  have HL := Lib.hid (fun w h => lives_any w h)
  clear hT
  rcases h with h | h | h | h | h
  all_goals
    go_enter Tryd.func7, Tryd.ntmps7
    go_wp2_with ((go_at_call 12; refine (HL.out _ HT.out).mono ?_; rintro e w1 ⟨rfl, hb⟩))
    all_goals (go_ret; exact ⟨rfl, hb⟩)
theorem law_ranges (f t st : Int) (w : World) (hT : Tabs w) :
    Calls Tryd.prog 7 #[.int .i64 f, .int .i64 t, .int .i64 st] w fun e w' => e = .returned (.bool true) ∧ Below w.heap.size w w' := by
  by_cases h : f < 0 ∨ t < f ∨ 59 < t ∨ st < 1 ∨ 99 < st
  · exact ranges_out f t st h w hT
  · have := ranges_in f.toNat t.toNat st.toNat (by omega) (by omega) (by omega) (by omega) w hT
    rw [show ((f.toNat : Nat) : Int) = f by omega, show ((t.toNat : Nat) : Int) = t by omega, show ((st.toNat : Nat) : Int) = st by omega] at this
    exact this
end Go.Proofs.YtbbleedepmcdfaaDoor
