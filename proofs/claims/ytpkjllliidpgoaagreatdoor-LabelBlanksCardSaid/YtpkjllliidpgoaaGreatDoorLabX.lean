/- Walk of package label's reference: Right. -/
import Derived.Test.YtpkjllliidpgoaaGreatDoorLabJ
set_option linter.unusedSimpArgs false
set_option linter.unusedVariables false
namespace Go.Proofs.YtpkjllliidpgoaaGreatDoor
open Go.ChangeShapes Go.WideShapes Go.ChangeAt Go.RowKit Go.Base Go.Lab

theorem right_kind {c : Cl} (h : c.kind < 1 ∨ 4 < c.kind) : rightB c = false := by
  unfold rightB; rw [if_neg (by omega), if_neg (by omega)]; rfl
theorem right_word {c : Cl} (h : wordB c.key = false) : rightB c = false := by
  unfold rightB soundB; rw [h]; simp
theorem right_plain {c : Cl} (h1 : 2 < c.kind) (h2 : c.kind ≤ 4) (h : wordB c.key = true) : rightB c = decide (c.vals.length = 0) := by
  unfold rightB soundB takesB; rw [if_neg (by omega), if_pos (by omega), h]
  cases hv : c.vals with
  | nil => rfl
  | cons x l => simp
theorem right_val {c : Cl} {x : Bytes} (h1 : c.kind ≤ 2) (hx : x ∈ c.vals) (h : valB x = false) : rightB c = false := by
  unfold rightB soundB
  rw [List.all_eq_false.2 ⟨x, hx, by rw [h]; decide⟩]; simp
theorem right_many {c : Cl} (h0 : 1 ≤ c.kind) (h1 : c.kind ≤ 2) (h : wordB c.key = true) (hv : ∀ x ∈ c.vals, valB x = true) : rightB c = (decide (1 ≤ c.vals.length) && decide (c.vals.length ≤ 16)) := by
  unfold rightB soundB takesB; rw [if_pos (by omega), h, List.all_eq_true.2 hv]; simp
set_option maxHeartbeats 2000000 in
theorem refRight_any (c : Cl) (w : World) (hc : c.Fit w) :
    Calls Tryz.prog 35 #[clV c] w fun e w' => e = .returned (.bool (rightB c)) ∧ Below w.heap.size w w' := by
  have HV := Lib.hid hc.v
  have hm := hc.m
  have HW := Lib.hid (fun w => refWord_l c.key hc.k w)
  have HX : Hid (∀ x ∈ c.vals, x.length ≤ maxLen) := Lib.hid (fun x hx => by
    obtain ⟨i, hi, rfl⟩ := List.mem_iff_getElem.1 hx
    obtain ⟨_, _, _, _, h⟩ := hc.v i hi
    exact h)
  have HKind := Lib.hid (@right_kind c)
  have HWord := Lib.hid (@right_word c)
  have HPlain := Lib.hid (@right_plain c)
  have HVal := Lib.hid (fun (x : Bytes) (h1 : c.kind ≤ 2) (hx : x ∈ c.vals) (h : valB x = false) => right_val h1 hx h)
  have HMany := Lib.hid (@right_many c)
  generalize hq : wordB c.key = q at *
  generalize rightB c = r at *
  clear hc hq
  obtain ⟨kind, key, la, vals, lc⟩ := c
  simp only at HV HX hm HW HKind HWord HPlain HVal HMany
  unfold maxLen at hm
  have hm' : (vals.length : Int) ≤ 9223372036854775807 := by omega
  have HC := Lib.hid (cells_of_heap (heap_new w (.cells #[.int .i64 kind, strV key, .slice la vals.length lc] 42))).1
  have HB := Lib.hid (below_alloc w (.cells #[.int .i64 kind, strV key, .slice la vals.length lc] 42))
  clear hm
  by_cases hk1 : kind < 1
  · have HR := Lib.hid (HKind.out (.inl hk1))
    go_enter Tryz.func35, Tryz.ntmps35
    go_wp2
    go_ret
    exact ⟨ret_bool HR.out.symm, HB.out⟩
  by_cases hk4 : 4 < kind
  · have HR := Lib.hid (HKind.out (.inr hk4))
    go_enter Tryz.func35, Tryz.ntmps35
    go_wp2
    go_ret
    exact ⟨ret_bool HR.out.symm, HB.out⟩
  cases q
  · have HR := Lib.hid (HWord.out (by first | rfl | trivial))
    go_enter Tryz.func35, Tryz.ntmps35
    go_wp2_with (go_at_call 17; refine (HW.out _).mono ?_; rintro e w1 ⟨rfl, rfl⟩)
    go_ret
    exact ⟨ret_bool HR.out.symm, HB.out⟩
  by_cases hk2 : 2 < kind
  · have HR := Lib.hid (HPlain.out hk2 (by omega) (by first | rfl | trivial))
    go_enter Tryz.func35, Tryz.ntmps35
    go_wp2_with (go_at_call 17; refine (HW.out _).mono ?_; rintro e w1 ⟨rfl, rfl⟩)
    go_ret
    exact ⟨ret_bool (by rw [HR.out, Bool.eq_iff_iff]; simp), HB.out⟩
  have HMany2 := Lib.hid (HMany.out (by omega) (by omega) (by first | rfl | trivial))
  have HVal2 := Lib.hid (fun (x : Bytes) hx h => HVal.out x (by omega) hx h)
  clear HKind HWord HPlain HMany HVal
  go_enter Tryz.func35, Tryz.ntmps35
  go_wp2_with (go_at_call 17; refine (HW.out _).mono ?_; rintro e w1 ⟨rfl, rfl⟩)
  have c2 := HC.out 2
  have HV' := Lib.hid (HV.out.later HB.out)
  generalize w.alloc (.cells #[.int .i64 kind, strV key, .slice la vals.length lc] 42) = W at *
  go_loop [3] (fun i => ∃ k : Nat, k ≤ vals.length ∧ i = .int .i64 (k : Int) ∧ Hid (∀ x ∈ vals.take k, valB x = true)) (fun i => vals.length - (intOf i).toNat)
  case atStart => exact ⟨0, Nat.zero_le _, rfl, Lib.hid (by simp)⟩
  case round =>
    obtain ⟨k, hk, rfl, HF⟩ := hrel
    by_cases hlt : k < vals.length
    · have hlt' : (k : Int) < (vals.length : Int) := by omega
      have hk0 : (0 : Int) ≤ (k : Int) := by omega
      obtain ⟨b, o, rfl, c0, _⟩ := HV'.out k hlt
      have HT := Lib.hid (take_memS (p := fun x => valB x = true) hlt HF.out)
      have HG := Lib.hid (HVal2.out vals[k] (List.getElem_mem _))
      have HL := Lib.hid (fun w => refVal_l vals[k] (HX.out _ (List.getElem_mem _)) w)
      generalize hvb : valB vals[k] = b1 at *
      clear hvb
      generalize vals[k] = x at *
      cases b1
      · have HR : Hid (r = false) := Lib.hid (HG.out (by first | rfl | trivial))
        go_wp2_with (go_at_call 27; refine (HL.out _).mono ?_; rintro e w1 ⟨rfl, rfl⟩)
        go_ret
        exact ⟨ret_bool HR.out.symm, HB.out⟩
      · have HT2 := Lib.hid (HT.out (by first | rfl | trivial))
        go_wp2_with (go_at_call 27; refine (HL.out _).mono ?_; rintro e w1 ⟨rfl, rfl⟩)
        go_round
        case rel => exact ⟨k + 1, by omega, by go_num, HT2⟩
        case measure => simp [intOf]; omega
    · obtain rfl : k = vals.length := by omega
      have HR := Lib.hid (HMany2.out (fun x hx => HF.out x (by rw [List.take_length]; exact hx)))
      by_cases hn1 : 1 ≤ vals.length
      · have hn1' : (1 : Int) ≤ (vals.length : Int) := by omega
        go_wp2
        go_ret
        exact ⟨ret_bool (by rw [HR.out, Bool.eq_iff_iff]; simp; omega), HB.out⟩
      · have hn1' : ¬ (1 : Int) ≤ (vals.length : Int) := by omega
        have HR2 : Hid (r = false) := Lib.hid (by rw [HR.out]; simp; omega)
        go_wp2
        go_ret
        exact ⟨ret_bool HR2.out.symm, HB.out⟩
end Go.Proofs.YtpkjllliidpgoaaGreatDoor
