/- The law FrameReads. -/
import Derived.Test.YtilbmbheancciaaDoorFrS
set_option linter.unusedSimpArgs false
set_option linter.unusedVariables false
namespace Go.Proofs.YtilbmbheancciaaDoor
open Go.ChangeShapes Go.WideShapes Go.ChangeAt Go.RowKit Go.Base Go.Mx Go.Fr

def FirstL (p : List UInt8) (z : Nat) (k : Bool) (w : World) (e : Ending) (w' : World) : Prop := ∃ A c, e = .returned (.tuple #[.slice A p.length c, .int .i64 (z : Int), .bool k]) ∧ Byt w' A p ∧ Below w.heap.size w w'
def AllL (l : List (List UInt8)) (n z : Nat) (w : World) (e : Ending) (w' : World) : Prop := ∃ A c, e = .returned (.tuple #[.slice A n c, .int .i64 (z : Int)]) ∧ Parts w' A l ∧ Below w.heap.size w w'
set_option maxHeartbeats 8000000 in
set_option maxRecDepth 20000 in
theorem law_reads (A : Option Addr) (b : List UInt8) (n c : Nat) (w : World) (hbn : b.length = n) (hT : Tab w) (hb : Byt w A b) (hc : n ≤ c) (hcm : c ≤ maxLen) (h6 : n ≤ 6000000) :
    Calls Tryd.prog 4 #[.slice A n c] w fun e w' => e = .returned (.bool true) ∧ Below w.heap.size w w' := by
  subst hbn
  obtain ⟨i0, hi0, hz0, hz1, hz2⟩ := info_parts u8_info
  obtain ⟨⟨p, z, kk⟩, hfr⟩ : ∃ r, r = frOf b := ⟨_, rfl⟩
  obtain ⟨l, hl⟩ : ∃ l, l = allB b := ⟨_, rfl⟩
  obtain ⟨ws, hws⟩ : ∃ m, m = wholeSz b := ⟨_, rfl⟩
  obtain ⟨na, hna⟩ : ∃ m, l.length = m := ⟨_, rfl⟩
  have HF1 : Hid (∀ V A c, Tab V → Byt V A b → b.length ≤ c → c ≤ maxLen → Calls Tryd.prog 12 #[.slice A b.length c] V (FirstL p z kk V)) := Lib.hid (fun V A c h1 h2 h3 h4 => (first_is A b _ c V rfl h1 h2 h3 h4).mono fun e w' ⟨A2, c2, he, hy, hb⟩ => by
    rw [← hfr] at he hy; exact ⟨A2, c2, he, hy, hb⟩)
  have HF2 : Hid (∀ V A c, Byt V A b → b.length ≤ c → c ≤ maxLen → Calls Tryd.prog 13 #[.slice A b.length c] V (FirstL p z kk V)) := Lib.hid (fun V A c h2 h3 h4 => (refFirst_is A b _ c V rfl h2 h3 h4).mono fun e w' ⟨A2, c2, he, hy, hb⟩ => by
    rw [← hfr] at he hy; exact ⟨A2, c2, he, hy, hb⟩)
  have HA1 : Hid (∀ V A c, Tab V → Byt V A b → b.length ≤ c → c ≤ maxLen → ((A = none ∧ c = 0) ∨ ∃ g o, A = some ⟨g, o, none⟩) → Calls Tryd.prog 14 #[.slice A b.length c] V (AllL l na ws V)) := Lib.hid (fun V A c h1 h2 h3 h4 h5 => (all_any A b _ c V rfl h1 h2 h3 h4 h5 h6).mono fun e w' ⟨A2, c2, he, hy, hb, _⟩ => by
    rw [← hl, ← hws, hna] at he; rw [← hl] at hy; exact ⟨A2, c2, he, hy, hb⟩)
  have HA2 : Hid (∀ V A c, Byt V A b → b.length ≤ c → c ≤ maxLen → Calls Tryd.prog 15 #[.slice A b.length c] V (AllL l na ws V)) := Lib.hid (fun V A c h2 h3 h4 => (refAll_any A b _ c V rfl h2 h3 h4 h6).mono fun e w' ⟨A2, c2, he, hy, hb, _⟩ => by
    rw [← hl, ← hws, hna] at he; rw [← hl] at hy; exact ⟨A2, c2, he, hy, hb⟩)
  have HT := Lib.hid hT
  have HB := Lib.hid hb
  have HNa : Hid (l.length = na ∧ na ≤ maxLen) := Lib.hid ⟨hna, by rw [← hna, hl]; have := allB_le b; unfold maxLen; omega⟩
  have HCc := Lib.hid (And.intro hc hcm)
  have H6 := Lib.hid h6
  have HLi := Lib.hid (fun V (h : Tab V) => lives_any V h)
  clear hT hb hfr hl hws hna hc hcm h6
  go_enter Tryd.func4, Tryd.ntmps4
  go_wp2_with (first
    | (at_builtin; refine wpList_append_byt _ rfl (.tmp 14) (.tmp 15) 22 rfl 5 i0 Tryd.underlying22 hi0 hz0 hz1 hz2 w.heap.size _ [] rfl (World.ownsRow_made w #[] 0 (Nat.le_refl _) (Nat.zero_le _) rfl) A c b rfl (HB.out.later (below_alloc _ _)) (by have := H6.out; simp only [List.length_nil]; omega) (by simp) ?_; intro A1 c1 w1 hown1 hgrow1 _; simp only [List.nil_append] at hown1 ⊢; have HY1 := Lib.hid (own_byt_any hown1); have HC1 := Lib.hid (own_cap hown1); have HS1 := Lib.hid (own_shape hown1); have HB1 := Lib.hid ((below_alloc w (.cells #[] 5)).grown hgrow1 (by simp) (fun k e => by injection e with e; exact Nat.le_of_eq e)); have HT1 := Lib.hid (HT.out.later HB1.out); have HB := Lib.hid (HB.out.later HB1.out); clear hown1 hgrow1)
    | (go_at_call 12; refine Calls.mono (by with_reducible exact HF1.out _ _ _ HT1.out HY1.out HC1.out.1 HC1.out.2) ?_; rintro e w2 ⟨A2, c2, rfl, hy, hb⟩; have HP2 := Lib.hid hy; have HY2 := Lib.hid (HY1.out.later hb); have HBa := Lib.hid (HB.out.later hb); have HT2 := Lib.hid (HT1.out.later hb); have HB2 := Lib.hid (HB1.out.trans (hb.mono HB1.out.size)); clear hy hb)
    | (go_at_call 13; refine Calls.mono (by with_reducible exact HF2.out _ _ _ HBa.out HCc.out.1 HCc.out.2) ?_; rintro e w3 ⟨A3, c3, rfl, hy, hb⟩; have HQ3 := Lib.hid hy; have HP3 := Lib.hid (HP2.out.later hb); have HY3 := Lib.hid (HY2.out.later hb); have HBb := Lib.hid (HBa.out.later hb); have HT3 := Lib.hid (HT2.out.later hb); have HB3 := Lib.hid (HB2.out.trans (hb.mono HB2.out.size)); clear hy hb)
    | (go_at_call 14; refine Calls.mono (by with_reducible exact HA1.out _ _ _ HT3.out HY3.out HC1.out.1 HC1.out.2 HS1.out) ?_; rintro e w4 ⟨R4, c4, rfl, hy, hb⟩; have HR4 := Lib.hid hy; have HQ4 := Lib.hid (HQ3.out.later hb); have HP4 := Lib.hid (HP3.out.later hb); have HY4 := Lib.hid (HY3.out.later hb); have HBc := Lib.hid (HBb.out.later hb); have HT4 := Lib.hid (HT3.out.later hb); have HB4 := Lib.hid (HB3.out.trans (hb.mono HB3.out.size)); clear hy hb)
    | (go_at_call 15; refine Calls.mono (by with_reducible exact HA2.out _ _ _ HBc.out HCc.out.1 HCc.out.2) ?_; rintro e w5 ⟨R5, c5, rfl, hy, hb⟩; have HR5 := Lib.hid hy; have HR4 := Lib.hid (HR4.out.later hb); have HQ5 := Lib.hid (HQ4.out.later hb); have HP5 := Lib.hid (HP4.out.later hb); have HY5 := Lib.hid (HY4.out.later hb); have HBd := Lib.hid (HBc.out.later hb); have HT5 := Lib.hid (HT4.out.later hb); have HB5 := Lib.hid (HB4.out.trans (hb.mono HB4.out.size)); clear hy hb)
    | (go_at_call 9; refine Calls.mono (by with_reducible exact HLi.out _ HT5.out) ?_; rintro e w6 ⟨rfl, hb⟩; have q1 := run_convert_byt (P := Tryd.prog) Tryd.underlying22 Tryd.underlying5 Tryd.underlying9 c2 (HP5.out.later hb); have q2 := run_convert_byt (P := Tryd.prog) Tryd.underlying22 Tryd.underlying5 Tryd.underlying9 c3 (HQ5.out.later hb); have HR5 := Lib.hid (HR5.out.later hb); have HR4 := Lib.hid (HR4.out.later hb); have HY6 := Lib.hid (HY5.out.later hb); have HBe := Lib.hid (HBd.out.later hb); have HB6 := Lib.hid (HB5.out.trans (hb.mono HB5.out.size)); clear hb)
    | (go_at_call 16; refine Calls.mono (same_true R4 R5 l na c4 c5 _ HNa.out.1 HR4.out HR5.out HNa.out.2) ?_; rintro e w7 ⟨rfl, hb⟩; have q3 := run_convert_byt (P := Tryd.prog) Tryd.underlying22 Tryd.underlying5 Tryd.underlying9 c1 (HY6.out.later hb); have q4 := run_convert_byt (P := Tryd.prog) Tryd.underlying22 Tryd.underlying5 Tryd.underlying9 c (HBe.out.later hb); have HB7 := Lib.hid (HB6.out.trans (hb.mono HB6.out.size)); clear hb))
  go_ret
  exact ⟨rfl, HB7.out⟩
end Go.Proofs.YtilbmbheancciaaDoor
