/- The law LabelSorts. -/
import Derived.Test.YtpkjllliidpgoaaGreatDoorLabSa
import Derived.Test.YtpkjllliidpgoaaGreatDoorLabGa
set_option linter.unusedSimpArgs false
set_option linter.unusedVariables false
namespace Go.Proofs.YtpkjllliidpgoaaGreatDoor
open Go.ChangeShapes Go.WideShapes Go.ChangeAt Go.RowKit Go.Base Go.Lab

set_option maxHeartbeats 8000000 in
set_option maxRecDepth 20000 in
theorem law_sorts (A : Option Addr) (l : List Lb) (c : Nat) (key : Bytes) (w : World) (hV : VarI w) (hL : Labs w A l) (hm : l.length ≤ 4398046511104) (hk : key.length ≤ maxLen) :
    Calls Tryz.prog 3 #[.slice A l.length c, strV key] w fun e w' => e = .returned (.bool true) ∧ Below w.heap.size w w' := by
  have HL := Lib.hid hL
  have hml : l.length ≤ maxLen := by unfold maxLen; omega
  have HLi := Lib.hid (fun V (h : Below w.heap.size w V) => lives_any V (hV.later h))
  have HLl := Lib.hid (labs_len hL)
  obtain ⟨i0, hinfo, hz0, hz1, hz2⟩ := info_parts (P := Tryz.prog) (e := 46) (z := .agg #[.string ⟨#[]⟩, .string ⟨#[]⟩]) (size := 2) (bytes := 32) (by kernel_rfl)
  have HW0 : Hid (Below w.heap.size w (w.alloc (.cells #[] 46))) := Lib.hid (below_alloc _ _)
  have HRs := Lib.hid (fun V (h : Below w.heap.size w V) => refSort_any A l c V (hL.later h) hm)
  obtain ⟨gv, hgv⟩ := getV_some l key
  have HRg : Hid (∀ V, Below w.heap.size w V → Calls Tryz.prog 11 #[.slice A l.length c, strV key] V fun e w' => e = .returned (.tuple #[strV gv, .bool (getB l key).isSome]) ∧ V = w') := Lib.hid (fun V h => by
    have := refGet_any A l c key V (hL.later h) hml; rw [hgv] at this; exact this)
  have HRm := Lib.hid (fun V (h : Below w.heap.size w V) => refMay_any A l c V (hL.later h) hml)
  have HWd := Lib.hid (fun V => word_l key hk V)
  have HRw := Lib.hid (fun V => refWord_l key hk V)
  have HOS : Hid (∀ V B d, Labs V B l → Calls Tryz.prog 8 #[.slice B l.length d] V (SrtPost V l)) := Lib.hid (fun V B d h => labelSort_any B l d V h hm)
  have HOG : Hid (∀ V B d, Labs V B l → Calls Tryz.prog 10 #[.slice B l.length d, strV key] V fun e w' => e = .returned (.tuple #[strV gv, .bool (getB l key).isSome]) ∧ Below V.heap.size V w') := Lib.hid (fun V B d h => by
    have := get_any B l d key V h hml; rw [hgv] at this; exact this)
  have HOM : Hid (∀ V B d, Labs V B l → Calls Tryz.prog 14 #[.slice B l.length d] V fun e w' => e = .returned (.bool (mayB l)) ∧ Below V.heap.size V w') := Lib.hid (fun V B d h => labelMay_any B l d V h hm)
  have HOL : Hid (∀ V B d, Below w.heap.size w V → Labs V B l → Calls Tryz.prog 13 #[.slice B l.length d, .slice A l.length c] V fun e w' => e = .returned (.bool true) ∧ Below V.heap.size V w') := Lib.hid (fun V B d hb h => by
    have := sameLabels_any B A l l d c V h (hL.later hb) hml hml
    rw [decide_eq_true rfl] at this; exact this)
  have HSn : Hid (∀ V, Calls Tryz.prog 13 #[.slice none 0 0, .slice none 0 0] V fun e w' => e = .returned (.bool true) ∧ Below V.heap.size V w') := Lib.hid (fun V => by
    have := sameLabels_any none none [] [] 0 0 V (fun i h => by cases h) (fun i h => by cases h) (Nat.zero_le _) (Nat.zero_le _)
    rw [decide_eq_true rfl] at this; exact this)
  have hgs : ((⟨gv.toArray⟩ : ByteArray).toList == (⟨gv.toArray⟩ : ByteArray).toList) = true := beq_self_eq_true _
  generalize (getB l key).isSome = gq at *
  generalize wordB key = wq at *
  have HFl := Lib.hid (labF_len l)
  clear hV hL hgv hk
  cases hs : sortB l with
  | error q =>
    have hq := sortB_code hs
    have HE := Lib.hid hs
    generalize mayB l = my at *
    clear hs
    go_enter Tryz.func3, Tryz.ntmps3
    go_wp2_with (first
      | (at_builtin; refine wpList_append_k _ rfl (.tmp 14) (.tmp 15) 22 rfl 46 i0 (.agg #[.string ⟨#[]⟩, .string ⟨#[]⟩]) 2 32 Tryz.underlying22 hinfo hz0 hz1 hz2 rfl (by decide) w.heap.size _ 0 [] rfl (World.ownsRow_made w #[] 0 (Nat.le_refl _) (Nat.zero_le _) rfl) A l.length c (l.flatMap encL) rfl HFl.out (labF_src (HL.out.later HW0.out) rfl) (labF_one l) (by unfold maxLen; omega) (by omega) (by simp) ?_; intro A1 c1 w1 hown1 hgrow1 _; simp only [Nat.zero_add, List.nil_append] at hown1; have HB1 := Lib.hid (HW0.out.grown hgrow1 (by simp) (fun k e => by injection e with e; exact Nat.le_of_eq e)); have HO1 := Lib.hid (labF_own hown1 rfl HLl.out); clear hown1 hgrow1)
      | (go_at_call 8; refine Calls.mono (by with_reducible exact HOS.out _ _ _ HO1.out) ?_; rintro e w2 ⟨h, _, hb⟩; obtain rfl := h _ HE.out; have HB2 := Lib.hid (HB1.out.trans (hb.mono HB1.out.size)); have HO2 := Lib.hid (HO1.out.later hb); clear hb h)
      | (go_at_call 9; refine Calls.mono (by with_reducible exact HRs.out _ HB2.out) ?_; rintro e w3 ⟨h, _, hb⟩; obtain rfl := h _ HE.out; have HB3 := Lib.hid (HB2.out.trans (hb.mono HB2.out.size)); have HO3 := Lib.hid (HO2.out.later hb); clear hb h)
      | (go_at_call 10; refine Calls.mono (by with_reducible exact HOG.out _ _ _ HO3.out) ?_; rintro e w4 ⟨rfl, hb⟩; have HB4 := Lib.hid (HB3.out.trans (hb.mono HB3.out.size)); have HO4 := Lib.hid (HO3.out.later hb); clear hb)
      | (go_at_call 11; refine Calls.mono (by with_reducible exact HRg.out _ HB4.out) ?_; rintro e w5 ⟨rfl, rfl⟩)
      | (go_at_call 12; refine Calls.mono (by with_reducible exact HLi.out _ HB4.out) ?_; rintro e w6 ⟨rfl, hb⟩; have HB6 := Lib.hid (HB4.out.trans (hb.mono HB4.out.size)); have HO6 := Lib.hid (HO4.out.later hb); clear hb)
      | (go_at_call 13; refine Calls.mono (by with_reducible exact HSn.out _) ?_; rintro e w7 ⟨rfl, hb⟩; have HB7 := Lib.hid (HB6.out.trans (hb.mono HB6.out.size)); have HO7 := Lib.hid (HO6.out.later hb); clear hb)
      | (go_at_call 14; refine Calls.mono (by with_reducible exact HOM.out _ _ _ HO7.out) ?_; rintro e w8 ⟨rfl, hb⟩; have HB8 := Lib.hid (HB7.out.trans (hb.mono HB7.out.size)); have HO8 := Lib.hid (HO7.out.later hb); clear hb)
      | (go_at_call 15; refine Calls.mono (by with_reducible exact HRm.out _ HB8.out) ?_; rintro e w9 ⟨rfl, hb⟩; have HB9 := Lib.hid (HB8.out.trans (hb.mono HB8.out.size)); have HO9 := Lib.hid (HO8.out.later hb); clear hb)
      | (go_at_call 16; refine Calls.mono (by with_reducible exact HWd.out _) ?_; rintro e w10 ⟨rfl, rfl⟩)
      | (go_at_call 17; refine Calls.mono (by with_reducible exact HRw.out _) ?_; rintro e w11 ⟨rfl, rfl⟩)
      | (go_at_call 13; refine Calls.mono (by with_reducible exact HOL.out _ _ _ HB9.out HO9.out) ?_; rintro e w12 ⟨rfl, hb⟩; have HB12 := Lib.hid (HB9.out.trans (hb.mono HB9.out.size)); clear hb))
    go_ret
    exact ⟨rfl, HB12.out⟩
  | ok o =>
    have HE := Lib.hid hs
    have hol : o.length = l.length := (sortB_ok hs).2.2.1.length_eq
    have HOLn := Lib.hid hol
    have HSo : Hid (∀ V B d B' d', Labs V B o → Labs V B' o → Calls Tryz.prog 13 #[.slice B o.length d, .slice B' o.length d'] V fun e w' => e = .returned (.bool true) ∧ Below V.heap.size V w') := Lib.hid (fun V B d B' d' h h' => by
      have := sameLabels_any B B' o o d d' V h h' (by rw [hol]; exact hml) (by rw [hol]; exact hml)
      rw [decide_eq_true rfl] at this; exact this)
    have HMo : Hid (∀ V B d, Labs V B o → Calls Tryz.prog 14 #[.slice B o.length d] V fun e w' => e = .returned (.bool true) ∧ Below V.heap.size V w') := Lib.hid (fun V B d h => by
      have := labelMay_any B o d V h (by rw [hol]; exact hm); rw [mayB_sorted hs] at this; exact this)
    generalize mayB l = my at *
    clear hs hol
    go_enter Tryz.func3, Tryz.ntmps3
    go_wp2_with (first
      | (at_builtin; refine wpList_append_k _ rfl (.tmp 14) (.tmp 15) 22 rfl 46 i0 (.agg #[.string ⟨#[]⟩, .string ⟨#[]⟩]) 2 32 Tryz.underlying22 hinfo hz0 hz1 hz2 rfl (by decide) w.heap.size _ 0 [] rfl (World.ownsRow_made w #[] 0 (Nat.le_refl _) (Nat.zero_le _) rfl) A l.length c (l.flatMap encL) rfl HFl.out (labF_src (HL.out.later HW0.out) rfl) (labF_one l) (by unfold maxLen; omega) (by omega) (by simp) ?_; intro A1 c1 w1 hown1 hgrow1 _; simp only [Nat.zero_add, List.nil_append] at hown1; have HB1 := Lib.hid (HW0.out.grown hgrow1 (by simp) (fun k e => by injection e with e; exact Nat.le_of_eq e)); have HO1 := Lib.hid (labF_own hown1 rfl HLl.out); clear hown1 hgrow1)
      | (go_at_call 8; refine Calls.mono (by with_reducible exact HOS.out _ _ _ HO1.out) ?_; rintro e w2 ⟨_, h, hb⟩; obtain ⟨g, cap, rfl, hlo, _⟩ := h _ HE.out; have HB2 := Lib.hid (HB1.out.trans (hb.mono HB1.out.size)); have HO2 := Lib.hid (HO1.out.later hb); have HG2 := Lib.hid hlo; clear hb h hlo)
      | (go_at_call 9; refine Calls.mono (by with_reducible exact HRs.out _ HB2.out) ?_; rintro e w3 ⟨_, h, hb⟩; obtain ⟨A3, cap3, rfl, hlo⟩ := h _ HE.out; have HB3 := Lib.hid (HB2.out.trans (hb.mono HB2.out.size)); have HO3 := Lib.hid (HO2.out.later hb); have HG3 := Lib.hid (HG2.out.later hb); have HH3 := Lib.hid hlo; clear hb h hlo)
      | (go_at_call 10; refine Calls.mono (by with_reducible exact HOG.out _ _ _ HO3.out) ?_; rintro e w4 ⟨rfl, hb⟩; have HB4 := Lib.hid (HB3.out.trans (hb.mono HB3.out.size)); have HO4 := Lib.hid (HO3.out.later hb); have HG4 := Lib.hid (HG3.out.later hb); have HH4 := Lib.hid (HH3.out.later hb); clear hb)
      | (go_at_call 11; refine Calls.mono (by with_reducible exact HRg.out _ HB4.out) ?_; rintro e w5 ⟨rfl, rfl⟩)
      | (go_at_call 12; refine Calls.mono (by with_reducible exact HLi.out _ HB4.out) ?_; rintro e w6 ⟨rfl, hb⟩; have HB6 := Lib.hid (HB4.out.trans (hb.mono HB4.out.size)); have HO6 := Lib.hid (HO4.out.later hb); have HG6 := Lib.hid (HG4.out.later hb); have HH6 := Lib.hid (HH4.out.later hb); clear hb)
      | (go_at_call 13; refine Calls.mono (by with_reducible exact HSo.out _ _ _ _ _ HG6.out HH6.out) ?_; rintro e w7 ⟨rfl, hb⟩; have HB7 := Lib.hid (HB6.out.trans (hb.mono HB6.out.size)); have HO7 := Lib.hid (HO6.out.later hb); have HG7 := Lib.hid (HG6.out.later hb); clear hb)
      | (go_at_call 14; refine Calls.mono (by with_reducible exact HOM.out _ _ _ HO7.out) ?_; rintro e w8 ⟨rfl, hb⟩; have HB8 := Lib.hid (HB7.out.trans (hb.mono HB7.out.size)); have HO8 := Lib.hid (HO7.out.later hb); have HG8 := Lib.hid (HG7.out.later hb); clear hb)
      | (go_at_call 15; refine Calls.mono (by with_reducible exact HRm.out _ HB8.out) ?_; rintro e w9 ⟨rfl, hb⟩; have HB9 := Lib.hid (HB8.out.trans (hb.mono HB8.out.size)); have HO9 := Lib.hid (HO8.out.later hb); have HG9 := Lib.hid (HG8.out.later hb); clear hb)
      | (go_at_call 16; refine Calls.mono (by with_reducible exact HWd.out _) ?_; rintro e w10 ⟨rfl, rfl⟩)
      | (go_at_call 17; refine Calls.mono (by with_reducible exact HRw.out _) ?_; rintro e w11 ⟨rfl, rfl⟩)
      | (go_at_call 13; refine Calls.mono (by with_reducible exact HOL.out _ _ _ HB9.out HO9.out) ?_; rintro e w12 ⟨rfl, hb⟩; have HB12 := Lib.hid (HB9.out.trans (hb.mono HB9.out.size)); have HG12 := Lib.hid (HG9.out.later hb); clear hb)
      | (go_at_call 14; refine Calls.mono (by with_reducible exact HMo.out _ _ _ HG12.out) ?_; rintro e w13 ⟨rfl, hb⟩; have HB13 := Lib.hid (HB12.out.trans (hb.mono HB12.out.size)); clear hb))
    go_ret
    exact ⟨rfl, HB13.out⟩
end Go.Proofs.YtpkjllliidpgoaaGreatDoor
