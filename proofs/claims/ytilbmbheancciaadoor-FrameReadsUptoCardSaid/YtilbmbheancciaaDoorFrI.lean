/- Walk of the laws' own look at package frame: lives. -/
import Derived.Test.YtilbmbheancciaaDoorFrH
import Derived.Lib.SlBytesConst
set_option linter.unusedSimpArgs false
set_option linter.unusedVariables false
namespace Go.Proofs.YtilbmbheancciaaDoor
open Go.ChangeShapes Go.WideShapes Go.ChangeAt Go.RowKit Go.Base Go.Mx Go.Fr

theorem sz9 : firstSz (frameB [97]) = 9 := by
  have := firstSz_frame [97] [] (by decide)
  rw [List.append_nil] at this; exact this
theorem len10 : ([120] ++ frameB [97] : List UInt8).length = 10 := by rw [List.length_append, frameB_len]; rfl
theorem len9 : (frameB [97]).length = 9 := by rw [frameB_len]; rfl
theorem pay97 : ((frameB [97]).take 9).drop 8 = [97] := by
  have h : (num4 ([97] : List UInt8).length ++ num4 (sumF [97])).length = 8 := by simp [num4_len]
  rw [List.take_of_length_le (by rw [len9]; exact Nat.le_refl _)]
  unfold frameB
  rw [List.drop_left' h]
set_option maxHeartbeats 4000000 in
theorem lives_any (w : World) (hT : Tab w) :
    Calls Tryd.prog 9 #[] w fun e w' => e = .returned (.bool true) ∧ Below w.heap.size w w' := by
  have HT := Lib.hid hT
  have hc1 := Lib.run_convert_bytes_const (P := Tryd.prog) w 22 5 #[.int .u8 120] 1 1 Tryd.underlying22 Tryd.underlying5
  have hc2 := Lib.run_convert_bytes_const (P := Tryd.prog) (w.alloc (.cells #[.int .u8 120] 5 (1, 2))) 22 5 #[.int .u8 97] 1 1 Tryd.underlying22 Tryd.underlying5
  simp only [World.size_alloc] at hc2
  have HW1 := Lib.hid ((below_alloc w (.cells #[.int .u8 120] 5 (1, 2))).alloc (by simp) (.cells #[.int .u8 97] 5 (1, 2)))
  have HX : Hid (Byt ((w.alloc (.cells #[.int .u8 120] 5 (1, 2))).alloc (.cells #[.int .u8 97] 5 (1, 2))) (some ⟨w.heap.size, 0, none⟩) [120]) := Lib.hid ((byt_new w [120] 5 (1, 2) #[.int .u8 120] rfl).alloc _)
  have HY : Hid (Byt ((w.alloc (.cells #[.int .u8 120] 5 (1, 2))).alloc (.cells #[.int .u8 97] 5 (1, 2))) (some ⟨w.heap.size + 1, 0, none⟩) [97]) := Lib.hid (by
    have := byt_new (w.alloc (.cells #[.int .u8 120] 5 (1, 2))) [97] 5 (1, 2) #[.int .u8 97] rfl
    rw [World.size_alloc] at this; exact this)
  have HPut := Lib.hid (put_any _ _ [120] [97] 1 1 1 1 _ rfl rfl (HT.out.later HW1.out) HX.out HY.out (by decide) (by decide))
  clear hT
  go_enter Tryd.func9, Tryd.ntmps9
  obtain ⟨i0, hi0, hz0, hz1, hz2⟩ := info_parts u8_info
  have HSz := Lib.hid (fun V => size_ok none 0 0 V (by decide))
  go_wp2_with (first
    | (go_at_call 8; refine Calls.mono (by with_reducible exact HPut.out) ?_; rintro e w1 ⟨_, h, hb⟩; obtain ⟨g, G, rfl, hg, hown, hGl, hGm⟩ := h (by decide); rw [len10] at hown hGl ⊢; have HB1 := Lib.hid (HW1.out.trans (hb.mono HW1.out.size)); have HO1 := Lib.hid (own_byt_any (bs := [120] ++ frameB [97]) hown); have HG1 := Lib.hid (And.intro hGl hGm); clear h hb hg hown hGl hGm HPut; have hG10 : (10 : Int) ≤ (G : Int) := by (have := HG1.out.1; omega))
    | (go_at_call 12; refine Calls.mono (first_any (some ⟨g, 1, none⟩) (frameB [97]) 9 (G - 1) w1 len9 (HT.out.later HB1.out) (by have := HO1.out.drop 1; rw [Nat.zero_add] at this; exact this) (by have := HG1.out.1; omega) (by have := HG1.out.2; omega)) ?_; rintro e w2 ⟨_, h, hb⟩; obtain ⟨A2, c2, rfl, hy⟩ := h (by rw [sz9]; decide); rw [sz9] at hy ⊢; rw [pay97] at hy; have HY2 := Lib.hid hy; have HB2 := Lib.hid (HB1.out.trans (hb.mono HB1.out.size)); clear h hb hy)
    | (refine wpList_make_full (o := ⟨some 27, _, _, _, _, _⟩) _ (by rfl) _ _ 22 (by rfl) w2.heap.size 5 i0 (.int .u8 0) 1 Tryd.underlying22 hi0 hz0 hz1 .i64 .i64 _ _ 65537 (by rfl) (by rfl) (by rfl) (by rfl) (by rw [hz2]; omega) (by unfold maxLen; omega) (Nat.le_refl _) ?_; intro w3 hown hgrow; have HB3 := Lib.hid (HB2.out.grown hgrow HB2.out.size (fun k h => by cases h)); have HY3 := Lib.hid (HY2.out.later ((Below.refl w2.heap.size w2).grown hgrow (Nat.le_refl _) (fun k h => by cases h))); clear hown hgrow)
    | (go_at_call 8; refine Calls.mono (put_long none _ 0 65537 0 _ w3 (by omega) (by omega)) ?_; rintro e w4 ⟨rfl, hb⟩; have HB4 := Lib.hid (HB3.out.trans (hb.mono HB3.out.size)); have HY4 := Lib.hid (HY3.out.later hb); clear hb)
    | (refine wpList_convert_byt (by rfl) (.tmp 45) 22 9 5 rfl Tryd.underlying22 Tryd.underlying5 Tryd.underlying9 A2 [97] c2 rfl HY4.out ?_)
    | (go_at_call 10; refine Calls.mono (by with_reducible exact HSz.out _) ?_; rintro e w5 ⟨rfl, rfl⟩))
  go_ret
  exact ⟨rfl, HB4.out⟩
end Go.Proofs.YtilbmbheancciaaDoor
