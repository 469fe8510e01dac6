/- Walks of package cron: a text cut at a byte; items. -/
import Derived.Test.YtbbleedepmcdfaaDoorCroC
import Derived.Test.YtbbleedepmcdfaaDoorShelf
set_option linter.unusedSimpArgs false
set_option linter.unusedVariables false
namespace Go.Proofs.YtbbleedepmcdfaaDoor
open Go.ChangeShapes Go.WideShapes Go.ChangeAt Go.RowKit Go.Base Go.Cro

theorem ext_list (l : Bytes) (a b : Nat) : (⟨l.toArray⟩ : ByteArray).extract a b = ⟨((l.take b).drop a).toArray⟩ := by
  have h := Lib.extract_data (⟨l.toArray⟩ : ByteArray) a b
  apply ByteArray.ext
  apply Array.ext'
  rw [h]
  simp [List.drop_take]

theorem cut_yes (l : Bytes) (c : UInt8) (w : World) (hl : l.length ≤ maxLen) (h : 0 ≤ Lib.indexByte l c) :
    Calls Tryd.prog 69 #[.string ⟨l.toArray⟩, .string ⟨#[c]⟩] w fun e w' => e = .returned (.tuple #[.string ⟨(cutB c l).1.toArray⟩, .string ⟨(cutB c l).2.1.toArray⟩, .bool true]) ∧ ∃ n, w' = w.drewN n := by
  have hi : (Lib.indexByte l c) < (l.length : Int) := by have := indexByte_bd c l; omega
  obtain ⟨i, hi0⟩ : ∃ i : Nat, Lib.indexByte l c = (i : Int) := ⟨(Lib.indexByte l c).toNat, by omega⟩
  have H1 : Hid ((⟨(cutB c l).1.toArray⟩ : ByteArray) = (⟨l.toArray⟩ : ByteArray).extract 0 i) := Lib.hid (by rw [ext_list]; unfold cutB; rw [if_pos h, hi0]; simp)
  have H2 : Hid ((⟨(cutB c l).2.1.toArray⟩ : ByteArray) = (⟨l.toArray⟩ : ByteArray).extract (i + 1) (⟨l.toArray⟩ : ByteArray).size) := Lib.hid (by rw [ext_list]; unfold cutB; rw [if_pos h, hi0]; simp [ByteArray.size])
  have hsz : (⟨l.toArray⟩ : ByteArray).size = l.length := by simp [ByteArray.size]
  have hb1 : i < (⟨l.toArray⟩ : ByteArray).size := by rw [hsz]; omega
  have hb2 : (⟨l.toArray⟩ : ByteArray).size ≤ 9223372036854775807 := by rw [hsz]; unfold maxLen at hl; exact hl
  rw [H1.out, H2.out]
  have HI := Lib.hid (Tryd.stringslite_Index_one (⟨l.toArray⟩ : ByteArray) c)
  have HI0 := Lib.hid hi0
  clear h hi hi0 H1 H2 hsz hl
  have HJ : Hid (∀ w, Calls Tryd.prog 75 #[.string ⟨l.toArray⟩, .string ⟨#[c]⟩] w fun e w' => e = .returned (.int .i64 (i : Int)) ∧ w' = w) := Lib.hid (fun w => by have := HI.out w; simp only [] at this; rw [HI0.out] at this; exact this)
  generalize (⟨l.toArray⟩ : ByteArray) = s at *
  clear HI HI0
  go_enter Tryd.func69, Tryd.ntmps69
  go_wp2_with (go_at_call 75; refine (HJ.out _).mono ?_; rintro e w' ⟨rfl, rfl⟩)
  go_quiet (fail)
  go_wp2
  go_ret3
  exact ⟨rfl, _, rfl⟩

theorem cut_no (l : Bytes) (c : UInt8) (w : World) (hl : l.length ≤ maxLen) (h : ¬ 0 ≤ Lib.indexByte l c) :
    Calls Tryd.prog 69 #[.string ⟨l.toArray⟩, .string ⟨#[c]⟩] w fun e w' => e = .returned (.tuple #[.string ⟨(cutB c l).1.toArray⟩, .string ⟨(cutB c l).2.1.toArray⟩, .bool false]) ∧ ∃ n, w' = w.drewN n := by
  have H1 : Hid (cutB c l = (l, [], false)) := Lib.hid (by unfold cutB; rw [if_neg h])
  have hneg : Lib.indexByte l c < 0 := by omega
  rw [H1.out]
  have HI := Lib.hid (Tryd.stringslite_Index_one (⟨l.toArray⟩ : ByteArray) c)
  obtain ⟨i, hi⟩ : ∃ i : Int, Lib.indexByte l c = i := ⟨_, rfl⟩
  rw [hi] at hneg
  have HI0 := Lib.hid hi
  have HJ : Hid (∀ w, Calls Tryd.prog 75 #[.string ⟨l.toArray⟩, .string ⟨#[c]⟩] w fun e w' => e = .returned (.int .i64 i) ∧ w' = w) := Lib.hid (fun w => by have := HI.out w; simp only [] at this; rw [HI0.out] at this; exact this)
  clear h hi hl HI HI0 H1
  show Calls Tryd.prog 69 #[.string ⟨l.toArray⟩, .string ⟨#[c]⟩] w fun e w' => e = .returned (.tuple #[.string ⟨l.toArray⟩, .string ⟨#[]⟩, .bool false]) ∧ ∃ n, w' = w.drewN n
  generalize (⟨l.toArray⟩ : ByteArray) = s at *
  go_enter Tryd.func69, Tryd.ntmps69
  go_wp2_with (go_at_call 75; refine (HJ.out _).mono ?_; rintro e w' ⟨rfl, rfl⟩)
  go_ret3
  exact ⟨rfl, 0, rfl⟩
theorem cut_any (l : Bytes) (c : UInt8) (w : World) (hl : l.length ≤ maxLen) :
    Calls Tryd.prog 58 #[.string ⟨l.toArray⟩, .string ⟨#[c]⟩] w fun e w' => e = .returned (.tuple #[.string ⟨(cutB c l).1.toArray⟩, .string ⟨(cutB c l).2.1.toArray⟩, .bool (cutB c l).2.2]) ∧ ∃ n, w' = w.drewN n := by
  by_cases h : 0 ≤ Lib.indexByte l c
  · rw [show (cutB c l).2.2 = true by unfold cutB; rw [if_pos h]]
    have HC := Lib.hid (fun w => cut_yes l c w hl h)
    clear h hl
    go_enter Tryd.func58, Tryd.ntmps58
    go_wp2_with (go_at_call 69; refine (HC.out _).mono ?_; rintro e w' ⟨rfl, n, rfl⟩)
    go_ret3
    exact ⟨rfl, _, rfl⟩
  · rw [show (cutB c l).2.2 = false by unfold cutB; rw [if_neg h]]
    have HC := Lib.hid (fun w => cut_no l c w hl h)
    clear h hl
    go_enter Tryd.func58, Tryd.ntmps58
    go_wp2_with (go_at_call 69; refine (HC.out _).mono ?_; rintro e w' ⟨rfl, n, rfl⟩)
    go_ret3
    exact ⟨rfl, _, rfl⟩

/-- An item, and a scope, as values. -/
abbrev itV (it : It) : Value := .agg #[.bool it.star, .int .i64 it.first, .int .i64 it.last, .bool it.alone, .int .i64 it.step, .bool it.stepped]
abbrev scV (s : Sc) : Value := .agg #[.int .i64 s.least, .int .i64 s.most, .int .i64 s.said]

theorem within_any (it : It) (s : Sc) (w : World) :
    Calls Tryd.prog 42 #[itV it, scV s] w fun e w' => e = .returned (.bool (withinB it s)) ∧ Below w.heap.size w w' := by
  obtain ⟨star, first, last, alone, step, stepped⟩ := it
  obtain ⟨least, most, said⟩ := s
  have H : Hid (withinB ⟨star, first, last, alone, step, stepped⟩ ⟨least, most, said⟩ = (!(step == 0) && (star || (decide (least ≤ first) && decide (last ≤ said) && decide (first ≤ last))))) := Lib.hid rfl
  simp only [itV, scV]
  by_cases h0 : (step == 0) = true
  · go_enter Tryd.func42, Tryd.ntmps42
    go_wp2
    go_ret
    exact ⟨ret_bool (by rw [H.out]; simp [*]), by go_grown⟩
  · have h0 : (step == 0) = false := by simpa using h0
    cases star
    · by_cases h1 : least ≤ first <;> by_cases h2 : last ≤ said <;> by_cases h3 : first ≤ last
      all_goals
        go_enter Tryd.func42, Tryd.ntmps42
        go_wp2
        go_ret
        exact ⟨ret_bool (by rw [H.out]; simp [*]), by go_grown⟩
    · go_enter Tryd.func42, Tryd.ntmps42
      go_wp2
      go_ret
      exact ⟨ret_bool (by rw [H.out]; simp [*]), by go_grown⟩
end Go.Proofs.YtbbleedepmcdfaaDoor
