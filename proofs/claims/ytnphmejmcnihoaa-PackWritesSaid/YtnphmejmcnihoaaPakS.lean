/- Walks of the answers by definition of package pack: ints, flags, texts, counts. -/
import Derived.Test.YtnphmejmcnihoaaPakQ
set_option linter.unusedSimpArgs false
set_option linter.unusedVariables false
namespace Go.Proofs.Ytnphmejmcnihoaa
open Go.ChangeShapes Go.WideShapes Go.ChangeAt Go.RowKit Go.Base Go.Pk

set_option maxHeartbeats 2000000 in
theorem refInt_any (X : Nat) (s : Option (List UInt8)) (row : Option Nat) (n : Int) (w : World) (h : RPk w X s row) (h1 : -9223372036854775808 ≤ n) (h2 : n ≤ 9223372036854775807) :
    Calls Try.prog 15 #[.pointer (some ⟨X, 0, none⟩), .int .i64 n] w fun e w' => e = .returned (.tuple #[]) ∧ RPost w X row (putB s (numB (whole n))) w' := by
  have HP := Lib.hid h
  have HW := Lib.hid (whole_lt h1 h2)
  have HT := Lib.hid (numB_ten (whole_lt h1 h2))
  clear h
  go_enter Try.func15, Try.ntmps15
  go_wp2_with (first | (go_at_call 35; refine (refWhole_any n _ h1 h2).mono ?_; rintro e w' ⟨rfl, rfl⟩) | (go_at_call 13; refine (refNumber_any (whole n) _ HW.out).mono ?_; rintro e w1 ⟨A1, n1, c1, rfl, rfl, hown, hb⟩; have HB1 := Lib.hid hb; have HY1 := Lib.hid (own_byt_any hown); clear hb hown) | (go_at_call 12; refine (refPut_any X s row A1 (numB (whole n)) _ c1 _ rfl (HP.out.later HB1.out) HY1.out (by have := HT.out; omega)).mono ?_; rintro e w2 ⟨rfl, hp⟩; have HQ := Lib.hid (RPost.later HB1.out hp); clear hp))
  go_returns
  exact ⟨rfl, HQ.out⟩
set_option maxHeartbeats 2000000 in
theorem refNum_any (X : Nat) (s : Option (List UInt8)) (row : Option Nat) (A : Option Addr) (n k c : Nat) (w : World) (hn : n < 18446744073709551616) (hk : k = (numB n).length) (h : RPk w X s row) (hy : Byt w A (numB n)) :
    Calls Try.prog 12 #[.pointer (some ⟨X, 0, none⟩), .slice A k c] w fun e w' => e = .returned (.tuple #[]) ∧ RPost w X row (putB s (numB n)) w' :=
  refPut_any X s row A (numB n) k c w hk h hy (by have := numB_ten hn; omega)
set_option maxHeartbeats 2000000 in
theorem refFlag_any (X : Nat) (s : Option (List UInt8)) (row : Option Nat) (b : Bool) (w : World) (h : RPk w X s row) :
    Calls Try.prog 17 #[.pointer (some ⟨X, 0, none⟩), .bool b] w fun e w' => e = .returned (.tuple #[]) ∧ RPost w X row (putB s (flagB b)) w' := by
  have HP := Lib.hid h
  clear h
  cases b
  · go_enter Try.func17, Try.ntmps17
    go_wp2_with (go_at_call 12; refine (refPut_any X s row _ [0] _ _ _ (by simp) (HP.out.later (below_alloc w _)) (byt_of_heap (heap_new w _) rfl) (by simp)).mono ?_; rintro e w1 ⟨rfl, hp⟩; have HQ := Lib.hid (RPost.later (below_alloc w _) hp); clear hp)
    go_returns
    exact ⟨rfl, HQ.out⟩
  · go_enter Try.func17, Try.ntmps17
    go_wp2_with (go_at_call 12; refine (refPut_any X s row _ [1] _ _ _ (by simp) (HP.out.later (below_alloc w _)) (byt_of_heap (heap_new w _) rfl) (by simp)).mono ?_; rintro e w1 ⟨rfl, hp⟩; have HQ := Lib.hid (RPost.later (below_alloc w _) hp); clear hp)
    go_returns
    exact ⟨rfl, HQ.out⟩
set_option maxHeartbeats 2000000 in
theorem refCount_any (X : Nat) (s : Option (List UInt8)) (row : Option Nat) (n : Nat) (w : World) (h : RPk w X s row) (hn : n ≤ 9223372036854775807) :
    Calls Try.prog 21 #[.pointer (some ⟨X, 0, none⟩), .int .i64 (n : Int)] w fun e w' => e = .returned (.tuple #[]) ∧ RPost w X row (if 4096 < n then none else putB s (numB n)) w' := by
  have HP := Lib.hid h
  by_cases h4 : 4096 < n
  · rw [if_pos h4]
    have HQ := Lib.hid (rpk_bad h)
    obtain ⟨A0, n0, cap, hb, h0, h1⟩ := h
    obtain ⟨hc, hf⟩ := cells_of_heap hb
    have c1 := hc 1
    have f1 := hf 1
    have h4' : (4096 : Int) < (n : Int) := by omega
    clear hc hf hb h0 h1
    go_enter Try.func21, Try.ntmps21
    go_wp2
    go_returns
    exact ⟨rfl, HQ.out⟩
  · rw [if_neg h4]
    have h4' : (n : Int) ≤ 4096 := by omega
    clear h
    go_enter Try.func21, Try.ntmps21
    go_wp2_with (first | (go_at_call 13; refine (refNumber_any n _ (by omega)).mono ?_; rintro e w1 ⟨A1, n1, c1, rfl, rfl, hown, hb⟩; have HB1 := Lib.hid hb; have HY1 := Lib.hid (own_byt_any hown); clear hb hown) | (go_at_call 12; refine (refNum_any X s row A1 n _ c1 _ (by omega) rfl (HP.out.later HB1.out) HY1.out).mono ?_; rintro e w2 ⟨rfl, hp⟩; have HQ := Lib.hid (RPost.later HB1.out hp); clear hp))
    go_returns
    exact ⟨rfl, HQ.out⟩
theorem putB_two (s : Option (List UInt8)) (a b : List UInt8) : putB (putB s a) b = putB s (a ++ b) := by
  cases s with
  | none => rfl
  | some xs =>
    by_cases h1 : xs.length + a.length ≤ 65536
    · rw [putB_fit h1]
      by_cases h2 : xs.length + (a ++ b).length ≤ 65536
      · rw [putB_fit h2, putB_fit (by simp at h2 ⊢; omega), List.append_assoc]
      · rw [putB_not h2, putB_not (by simp at h2 ⊢; omega)]
    · rw [putB_not h1, putB_none, putB_not (by simp; omega)]
theorem text_slice {w : World} {base : Nat} {v : Value} {t : ByteArray} (hl : t.data.toList.length = t.size)
    (h : w.ownsRow base 5 1 v ((numB t.size).length + t.size) ((numB t.size).map u8v ++ Lib.strCells t)) : ∃ A2 c2, v = .slice A2 (textB t.data.toList).length c2 ∧ Byt w A2 (textB t.data.toList) := by
  have e1 : (numB t.size).map u8v ++ Lib.strCells t = (textB t.data.toList).map u8v := by
    unfold textB Lib.strCells
    rw [hl, List.map_append]
  have e2 : (numB t.size).length + t.size = (textB t.data.toList).length := by unfold textB; rw [List.length_append, hl]
  rw [e1, e2] at h
  rcases h.2 with ⟨rfl, h0⟩ | ⟨g, cap, cur, rfl, _⟩
  · exact ⟨none, 0, by rw [h0], own_byt_any (by rw [h0] at h; exact h)⟩
  · exact ⟨_, _, rfl, own_byt_any h⟩
set_option maxHeartbeats 2000000 in
theorem refText_any (X : Nat) (s : Option (List UInt8)) (row : Option Nat) (t : ByteArray) (w : World) (h : RPk w X s row) (hm : t.size ≤ maxLen) :
    Calls Try.prog 19 #[.pointer (some ⟨X, 0, none⟩), .string t] w fun e w' => e = .returned (.tuple #[]) ∧ RPost w X row (putText s t.data.toList) w' := by
  have HP := Lib.hid h
  have hl : t.data.toList.length = t.size := by simp
  have HL := Lib.hid hl
  clear hl
  unfold maxLen at hm
  by_cases h4 : 4096 < t.size
  · have h4' : 4096 < (t.size : Int) := by omega
    have HT : Hid (putText s t.data.toList = none) := Lib.hid (by unfold putText; rw [if_pos (by rw [HL.out]; exact h4)])
    have HQ := Lib.hid (rpk_bad h)
    obtain ⟨A0, n0, cap, hb, h0, h1⟩ := h
    obtain ⟨hc, hf⟩ := cells_of_heap hb
    have c1 := hc 1
    have f1 := hf 1
    clear hc hf hb h0 h1
    go_enter Try.func19, Try.ntmps19
    go_wp2
    go_returns
    exact ⟨rfl, by rw [HT.out]; exact HQ.out⟩
  · have h4' : (t.size : Int) ≤ 4096 := by omega
    have HT : Hid (putText s t.data.toList = putB s (textB t.data.toList)) := Lib.hid (by unfold putText textB; rw [if_neg (by rw [HL.out]; exact h4), putB_two])
    have HX := Lib.hid (numB_ten (n := t.size) (by omega))
    obtain ⟨i0, hi0, hz0, hz1, hz2⟩ := info_parts u8_info
    clear h
    go_enter Try.func19, Try.ntmps19
    go_wp2_with (first | (go_at_call 13; refine (refNumber_any t.size _ (by omega)).mono ?_; rintro e w1 ⟨A1, n1, c1, rfl, rfl, hown, hb⟩; have HB1 := Lib.hid hb; have HO1 := Lib.hid hown; clear hb hown) | (at_builtin; refine Lib.wpList_append_own_string _ rfl (.tmp 14) (.tmp 15) 26 9 (by rfl) w.heap.size 5 i0 Try.underlying26 Try.underlying9 hi0 hz0 hz1 hz2 (.slice A1 (numB t.size).length c1) (numB t.size).length ((numB t.size).map u8v) (by rfl) HO1.out t (by rfl) (by have := HX.out; unfold maxLen; omega) (by have := HX.out; omega) HB1.out.size ?_; intro v2 w2 hown hgrow hnil; have HB2 : Hid (Below w.heap.size w w2) := Lib.hid (HB1.out.grown hgrow HB1.out.size (fun k hk => (own_base HO1.out k hk).1)); have HV : Hid (∃ A2 c2, v2 = .slice A2 (textB t.data.toList).length c2 ∧ Byt w2 A2 (textB t.data.toList)) := Lib.hid (text_slice HL.out hown); clear hown hgrow hnil; obtain ⟨A2, c2, rfl, hy2⟩ := HV.out; have HY2 := Lib.hid hy2; clear hy2 HV) | (go_at_call 12; refine (refPut_any X s row A2 (textB t.data.toList) _ c2 _ rfl (HP.out.later HB2.out) HY2.out (by unfold textB; rw [List.length_append, HL.out]; have := HX.out; omega)).mono ?_; rintro e w3 ⟨rfl, hp⟩; have HQ := Lib.hid (RPost.later HB2.out hp); clear hp))
    go_returns
    exact ⟨rfl, by rw [HT.out]; exact HQ.out⟩
end Go.Proofs.Ytnphmejmcnihoaa
