/- The law FramePuts. (gen_frp.py wrote it.) -/
import Derived.Test.YtilbmbheancciaaDoorFrI
set_option linter.unusedSimpArgs false
set_option linter.unusedVariables false
namespace Go.Proofs.YtilbmbheancciaaDoor
open Go.ChangeShapes Go.WideShapes Go.ChangeAt Go.RowKit Go.Base Go.Mx Go.Fr

/-- A region's held condition may be made to say more on the way. -/
theorem wpAnyH_imp {P : Program} {md : Region.Mode} {ops : Array Oper} {Q : Exit → Act → World → Prop} {S S' : World → Prop} (h : ∀ w, S' w → S w) :
    ∀ (fuel : Nat) (listed : Array Bool) (a : Act) (w : World), wpAnyH P md ops Q S' fuel listed a w → wpAnyH P md ops Q S fuel listed a w
  | 0, _, _, _, H => H
  | fuel + 1, _, _, _, H => ⟨H.1, fun i hi => wpOp_mono (fun a' w' h' => ⟨h _ h'.1, wpAnyH_imp h fuel _ a' w' h'.2⟩) (H.2 i hi)⟩
/-- The law's own copy, with three bytes behind it. -/
theorem own_three {w : World} {base g cap : Nat} {e : TypeId} {b : List UInt8} (h : w.ownsRow base e 1 (.slice (some ⟨g, 0, none⟩) (b ++ [1, 2, 3]).length cap) (b ++ [1, 2, 3]).length ((b ++ [1, 2, 3]).map u8v)) :
    Byt w (some ⟨g, 0, none⟩) b ∧ w.cell? ⟨g, b.length, none⟩ = some (.int .u8 1) ∧ w.cell? ⟨g, b.length + 2, none⟩ = some (.int .u8 3) := by
  have hy := own_byt_any h
  refine ⟨by have := hy.take b.length; rwa [List.take_left] at this, ?_, ?_⟩
  · have := hy.at_ (k := b.length) (by simp)
    rw [Nat.zero_add] at this
    rw [this]; simp
  · have := hy.at_ (k := b.length + 2) (by simp)
    rw [Nat.zero_add] at this
    rw [this]; simp
theorem own_some {w : World} {base n cap : Nat} {e : TypeId} {A : Option Addr} {xs : List Value} (h : w.ownsRow base e 1 (.slice A n cap) n xs) (hn : 0 < n) : ∃ g, A = some ⟨g, 0, none⟩ ∧ n ≤ cap ∧ cap ≤ maxLen ∧ base ≤ g := by
  rcases h.2 with ⟨h1, h2⟩ | ⟨g, cap', cur, h1, hb, _, h4, h5, _⟩
  · omega
  · injection h1 with h1 h3 h6; subst h1; subst h6; exact ⟨g, rfl, h4, h5, hb⟩
theorem size_ok8 (A : Option Addr) (n d : Nat) (w : World) (h : ¬ 65536 < n) :
    Calls Tryd.prog 10 #[.slice A n d] w fun e w' => e = .returned (.int .i64 ((n : Int) + 8)) ∧ w = w' :=
  Calls.mono (size_ok A n d w h) (fun e w' h => ⟨by rw [h.1, Int.add_comm], h.2⟩)
set_option maxHeartbeats 8000000 in
set_option maxRecDepth 20000 in
theorem law_puts (A B : Option Addr) (b p : List UInt8) (c d : Nat) (w : World) (hT : Tab w) (hb : Byt w A b) (hp : Byt w B p) (h47 : b.length ≤ 140737488351232) (hm : p.length ≤ maxLen) :
    Calls Tryd.prog 3 #[.slice A b.length c, .slice B p.length d] w fun e w' => e = .returned (.bool true) ∧ Below w.heap.size w w' := by
  obtain ⟨i0, hi0, hz0, hz1, hz2⟩ := info_parts u8_info
  have HT := Lib.hid hT
  have HB := Lib.hid hb
  have HP := Lib.hid hp
  unfold maxLen at hm
  have hbl : (b.length : Int) ≤ 140737488351232 := by omega
  have hpl : (p.length : Int) ≤ 9223372036854775807 := by omega
  have HLi := Lib.hid (fun V (h : Below w.heap.size w V) => lives_any V (HT.out.later h))
  have HW0 : Hid (Below w.heap.size w (w.alloc (.cells #[] 5))) := Lib.hid (below_alloc _ _)
  clear hT hb hp
  by_cases hl : 65536 < p.length
  · have hp65 : (65536 : Int) < (p.length : Int) := by omega
    have HSz := Lib.hid (fun V => size_long B p.length d V hl (by omega))
    go_enter Tryd.func3, Tryd.ntmps3
    go_wp2_with (first
      | (at_builtin; refine wpList_append_byt _ rfl (.tmp 9) (.tmp 10) 22 rfl 5 i0 Tryd.underlying22 hi0 hz0 hz1 hz2 w.heap.size _ [] rfl (World.ownsRow_made w #[] 0 (Nat.le_refl _) (Nat.zero_le _) rfl) A c b rfl (HB.out.later HW0.out) (by simp only [List.length_nil]; omega) (by simp) ?_; intro A1 c1 w1 hown1 hgrow1 _; simp only [List.nil_append] at hown1 ⊢; have HO1 := Lib.hid hown1; have HB1 := Lib.hid (HW0.out.grown hgrow1 (by simp) (fun k e => by injection e with e; exact Nat.le_of_eq e)); clear hown1 hgrow1)
      | (at_builtin; refine wpList_append_byt _ rfl (.tmp 11) (.tmp 12) 22 rfl 5 i0 Tryd.underlying22 hi0 hz0 hz1 hz2 w.heap.size _ b rfl (HO1.out.alloc _) (some ⟨w1.heap.size, 0, none⟩) 3 [1, 2, 3] rfl (byt_new w1 [1, 2, 3] 5 (0, 0) _ rfl) (by show b.length + 3 ≤ _; omega) (by have := HB1.out.size; simp; omega) ?_; intro A2 c2 w2 hown2 hgrow2 _; obtain ⟨g, hA2, hn2, hm2, hg2⟩ := own_some hown2 (by simp); subst hA2; have HO2 := Lib.hid hown2; have HY2 := Lib.hid (own_three hown2); have h3c : b.length + 3 ≤ c2 := (by simpa using hn2); have hbc : (b.length : Int) ≤ (c2 : Int) := (by omega); have hbc3 : (b.length : Int) + 3 ≤ (c2 : Int) := (by omega); have hcm : (c2 : Int) ≤ 9223372036854775807 := (by unfold maxLen at hm2; omega); have HG2 := Lib.hid (And.intro hn2 (And.intro hm2 hg2)); clear hn2 hm2 hg2; have HB2 := Lib.hid ((HB1.out.alloc HB1.out.size (.cells #[.int .u8 1, .int .u8 2, .int .u8 3] 5)).grown hgrow2 (by have := HB1.out.size; simp; omega) (fun k e => (HO1.out.lt k e).1)); clear hown2 hgrow2)
      | (go_at_call 8; refine Calls.mono (put_any (some ⟨g, 0, none⟩) B b p b.length p.length c2 d w2 rfl rfl (HT.out.later HB2.out) HY2.out.1 (HP.out.later HB2.out) (by omega) (by omega)) ?_; rintro e w3 ⟨h, h', hb⟩; obtain rfl := h hl; have HB3 := Lib.hid (HB2.out.trans (hb.mono HB2.out.size)); have s1 := cell_later hb HY2.out.2.1; have s3 := cell_later hb HY2.out.2.2; clear hb h h')
      | (go_at_call 9; refine Calls.mono (by with_reducible exact HLi.out _ HB3.out) ?_; rintro e w4 ⟨rfl, hb⟩; have HB4 := Lib.hid (HB3.out.trans (hb.mono HB3.out.size)); have s1 := cell_later hb s1; have s3 := cell_later hb s3; skip; clear hb)
      | (go_at_call 10; refine Calls.mono (by with_reducible exact HSz.out _) ?_; rintro e w5 ⟨rfl, rfl⟩))
    go_ret
    exact ⟨rfl, HB4.out⟩

  · have hp65 : (p.length : Int) ≤ 65536 := by omega
    have HSz := Lib.hid (fun V => size_ok8 B p.length d V hl)
    go_enter Tryd.func3, Tryd.ntmps3
    go_wp2_with (first
      | (at_builtin; refine wpList_append_byt _ rfl (.tmp 9) (.tmp 10) 22 rfl 5 i0 Tryd.underlying22 hi0 hz0 hz1 hz2 w.heap.size _ [] rfl (World.ownsRow_made w #[] 0 (Nat.le_refl _) (Nat.zero_le _) rfl) A c b rfl (HB.out.later HW0.out) (by simp only [List.length_nil]; omega) (by simp) ?_; intro A1 c1 w1 hown1 hgrow1 _; simp only [List.nil_append] at hown1 ⊢; have HO1 := Lib.hid hown1; have HB1 := Lib.hid (HW0.out.grown hgrow1 (by simp) (fun k e => by injection e with e; exact Nat.le_of_eq e)); clear hown1 hgrow1)
      | (at_builtin; refine wpList_append_byt _ rfl (.tmp 11) (.tmp 12) 22 rfl 5 i0 Tryd.underlying22 hi0 hz0 hz1 hz2 w.heap.size _ b rfl (HO1.out.alloc _) (some ⟨w1.heap.size, 0, none⟩) 3 [1, 2, 3] rfl (byt_new w1 [1, 2, 3] 5 (0, 0) _ rfl) (by show b.length + 3 ≤ _; omega) (by have := HB1.out.size; simp; omega) ?_; intro A2 c2 w2 hown2 hgrow2 _; obtain ⟨g, hA2, hn2, hm2, hg2⟩ := own_some hown2 (by simp); subst hA2; have HO2 := Lib.hid hown2; have HY2 := Lib.hid (own_three hown2); have h3c : b.length + 3 ≤ c2 := (by simpa using hn2); have hbc : (b.length : Int) ≤ (c2 : Int) := (by omega); have hbc3 : (b.length : Int) + 3 ≤ (c2 : Int) := (by omega); have hcm : (c2 : Int) ≤ 9223372036854775807 := (by unfold maxLen at hm2; omega); have HG2 := Lib.hid (And.intro hn2 (And.intro hm2 hg2)); clear hn2 hm2 hg2; have HB2 := Lib.hid ((HB1.out.alloc HB1.out.size (.cells #[.int .u8 1, .int .u8 2, .int .u8 3] 5)).grown hgrow2 (by have := HB1.out.size; simp; omega) (fun k e => (HO1.out.lt k e).1)); clear hown2 hgrow2)
      | (go_at_call 8; refine Calls.mono (put_any (some ⟨g, 0, none⟩) B b p b.length p.length c2 d w2 rfl rfl (HT.out.later HB2.out) HY2.out.1 (HP.out.later HB2.out) (by omega) (by omega)) ?_; rintro e w3 ⟨h, h', hb⟩; obtain ⟨gx, Gx, rfl, hgx, hownx, hGx, hGm⟩ := h' hl; have HX3 := Lib.hid (own_byt_any hownx); have HB3 := Lib.hid (HB2.out.trans (hb.mono HB2.out.size)); have s1 := cell_later hb HY2.out.2.1; have s3 := cell_later hb HY2.out.2.2; clear hb h h')
      | (go_at_call 9; refine Calls.mono (by with_reducible exact HLi.out _ HB3.out) ?_; rintro e w4 ⟨rfl, hb⟩; have HB4 := Lib.hid (HB3.out.trans (hb.mono HB3.out.size)); have s1 := cell_later hb s1; have s3 := cell_later hb s3; have HX4 := Lib.hid (HX3.out.later hb); clear hb))
    refine at_world (C := fun V => Code.wp _ _ _ _ V) (P := fun V => V = w4) rfl (fun W0 hW0 => ?_)
    subst hW0
    have HBW := HB4
    have HCX : Hid (∀ V, Below W0.heap.size W0 V → (convert 22 9 (.slice (some ⟨gx, 0, none⟩) (b.length + (frameB p).length) Gx)).run Tryd.prog V = .ok (.string ⟨(b ++ frameB p).toArray⟩) V) := Lib.hid (fun V h => by
      have := run_convert_byt (P := Tryd.prog) Tryd.underlying22 Tryd.underlying5 Tryd.underlying9 Gx (HX4.out.later h)
      rw [List.length_append] at this; exact this)
    have HCB : Hid (∀ V, Below W0.heap.size W0 V → (convert 22 9 (.slice A b.length c)).run Tryd.prog V = .ok (.string ⟨b.toArray⟩) V) := Lib.hid (fun V h => run_convert_byt Tryd.underlying22 Tryd.underlying5 Tryd.underlying9 c (HB.out.later (HBW.out.trans (h.mono HBW.out.size))))
    have hlt3 : (b.length : Int) < (b.length : Int) + 3 := by omega
    have hlt5 : (b.length : Int) + 2 < (b.length : Int) + 3 := by omega
    have hw8 : IntKind.i64.wrap ((p.length : Int) + 8) = (p.length : Int) + 8 := by rw [IntKind.wrap_i64]; omega
    have hw2 : IntKind.i64.wrap ((b.length : Int) + 2) = (b.length : Int) + 2 := by rw [IntKind.wrap_i64]; omega
    have hno : ¬ 9223372036854775807 < b.length + (frameB p).length := by rw [frameB_len]; omega
    have hcat : ({ data := b.toArray } ++ { data := (frameB p).toArray } : ByteArray) = ⟨(b ++ frameB p).toArray⟩ := by apply ByteArray.ext; simp
    have HFr : Hid (∀ V, Below W0.heap.size W0 V → Calls Tryd.prog 11 #[.slice B p.length d] V (FramePost p V)) := Lib.hid (fun V h => frame_any B p p.length d V rfl (HP.out.later (HBW.out.trans (h.mono HBW.out.size))) (by omega))
    have HD : Hid (∀ V, Below W0.heap.size W0 V → (fun w' => (convert 22 9 (.slice (some ⟨gx, 0, none⟩) (b.length + (frameB p).length) Gx)).run Tryd.prog w' = .ok (.string ⟨(b ++ frameB p).toArray⟩) w' ∧ (convert 22 9 (.slice A b.length c)).run Tryd.prog w' = .ok (.string ⟨b.toArray⟩) w' ∧ w'.cell? ⟨g, b.length, none⟩ = some (.int .u8 1) ∧ w'.cell? ⟨g, b.length + 2, none⟩ = some (.int .u8 3) ∧ Below W0.heap.size W0 w') V) := Lib.hid (fun V h => ⟨HCX.out V h, HCB.out V h, cell_later h s1, cell_later h s3, h⟩)
    clear s1 s3
    refine wp_region_held_drew (S := (fun w' => (convert 22 9 (.slice (some ⟨gx, 0, none⟩) (b.length + (frameB p).length) Gx)).run Tryd.prog w' = .ok (.string ⟨(b ++ frameB p).toArray⟩) w' ∧ (convert 22 9 (.slice A b.length c)).run Tryd.prog w' = .ok (.string ⟨b.toArray⟩) w' ∧ w'.cell? ⟨g, b.length, none⟩ = some (.int .u8 1) ∧ w'.cell? ⟨g, b.length + 2, none⟩ = some (.int .u8 3) ∧ Below W0.heap.size W0 w')) (by kernel_rfl) (HD.out _ (Below.refl _ _).drew) (fun hHeld => ?_)
    refine wpAnyH_take (i := 0) (v := ?vv1) rfl (by kernel_rfl) (by kernel_rfl) (by kernel_rfl) (fun _ _ _ h => h) (Or.inl ⟨by rfl, ?hy1⟩) hHeld ?rr1
    case hy1 => (intro w' hSw; obtain ⟨g0, g1, g2, g3, g4⟩ := hSw; go_simp; try with_reducible rfl)
    try simp only [Act.put, List.setIfInBounds_toArray, List.set_cons_zero, List.set_cons_succ, List.getElem_toArray, List.getElem_cons_succ, List.getElem_cons_zero]
    refine wpAnyH_take (i := 1) (v := ?vv2) rfl (by kernel_rfl) (by kernel_rfl) (by kernel_rfl) (fun _ _ _ h => h) (Or.inl ⟨by rfl, ?hy2⟩) hHeld ?rr2
    case hy2 => (intro w' hSw; obtain ⟨g0, g1, g2, g3, g4⟩ := hSw; go_simp; try with_reducible rfl)
    try simp only [Act.put, List.setIfInBounds_toArray, List.set_cons_zero, List.set_cons_succ, List.getElem_toArray, List.getElem_cons_succ, List.getElem_cons_zero]
    refine wpAnyH_take (i := 2) (v := ?vv3) rfl (by kernel_rfl) (by kernel_rfl) (by kernel_rfl) (fun _ _ _ h => h) (Or.inl ⟨by rfl, ?hy3⟩) hHeld ?rr3
    case hy3 => (intro w' hSw; obtain ⟨g0, g1, g2, g3, g4⟩ := hSw; go_simp; try with_reducible rfl)
    try simp only [Act.put, List.setIfInBounds_toArray, List.set_cons_zero, List.set_cons_succ, List.getElem_toArray, List.getElem_cons_succ, List.getElem_cons_zero]
    refine wpAnyH_take (i := 3) (v := ?vv4) rfl (by kernel_rfl) (by kernel_rfl) (by kernel_rfl) (fun _ _ _ h => h) (Or.inl ⟨by rfl, ?hy4⟩) hHeld ?rr4
    case hy4 => (intro w' hSw; obtain ⟨g0, g1, g2, g3, g4⟩ := hSw; go_simp; try with_reducible rfl)
    try simp only [Act.put, List.setIfInBounds_toArray, List.set_cons_zero, List.set_cons_succ, List.getElem_toArray, List.getElem_cons_succ, List.getElem_cons_zero]
    refine wpAnyH_take (i := 4) (v := ?vv5) rfl (by kernel_rfl) (by kernel_rfl) (by kernel_rfl) (fun _ _ _ h => h) (Or.inl ⟨by rfl, ?hy5⟩) hHeld ?rr5
    case hy5 => (intro w' hSw; obtain ⟨g0, g1, g2, g3, g4⟩ := hSw; go_simp; try with_reducible rfl)
    try simp only [Act.put, List.setIfInBounds_toArray, List.set_cons_zero, List.set_cons_succ, List.getElem_toArray, List.getElem_cons_succ, List.getElem_cons_zero]
    refine wpAnyH_take (i := 5) (v := ?vv6) rfl (by kernel_rfl) (by kernel_rfl) (by kernel_rfl) (fun _ _ _ h => h) (Or.inl ⟨by rfl, ?hy6⟩) hHeld ?rr6
    case hy6 => (intro w' hSw; obtain ⟨g0, g1, g2, g3, g4⟩ := hSw; go_simp; try with_reducible rfl)
    try simp only [Act.put, List.setIfInBounds_toArray, List.set_cons_zero, List.set_cons_succ, List.getElem_toArray, List.getElem_cons_succ, List.getElem_cons_zero]
    refine wpAnyH_take (i := 6) (v := ?vv7) rfl (by kernel_rfl) (by kernel_rfl) (by kernel_rfl) (fun _ _ _ h => h) (Or.inl ⟨by rfl, ?hy7⟩) hHeld ?rr7
    case hy7 => (intro w' hSw; obtain ⟨g0, g1, g2, g3, g4⟩ := hSw; go_simp; try with_reducible rfl)
    try simp only [Act.put, List.setIfInBounds_toArray, List.set_cons_zero, List.set_cons_succ, List.getElem_toArray, List.getElem_cons_succ, List.getElem_cons_zero]
    refine wpAnyH_take (i := 7) (v := ?vv8) rfl (by kernel_rfl) (by kernel_rfl) (by kernel_rfl) (fun _ _ _ h => h) (Or.inl ⟨by rfl, ?hy8⟩) hHeld ?rr8
    case hy8 => (intro w' hSw; obtain ⟨g0, g1, g2, g3, g4⟩ := hSw; go_simp; try with_reducible rfl)
    try simp only [Act.put, List.setIfInBounds_toArray, List.set_cons_zero, List.set_cons_succ, List.getElem_toArray, List.getElem_cons_succ, List.getElem_cons_zero]
    refine wpAnyH_ready (rs := [8]) (by kernel_rfl) (by simp) ?_
    refine AllReadyH.cons rfl (fun K hK => ?_) AllReadyH.nil
    rw [if_pos (by rfl)]
    go_simp
    go_at_call 11
    refine Calls.mono (by with_reducible exact HFr.out _ (Below.refl W0.heap.size W0).drew) ?_
    rintro e V9 ⟨g9, G9, rfl, hown9, hb9, _, _⟩
    have hB9 := Below.trans (Below.refl W0.heap.size W0).drew hb9
    have HY9 := Lib.hid (own_byt_any hown9)
    clear hown9 hb9
    go_wp2_with fail
    refine hK.out _ _ (HD.out _ hB9) (fun hHeld2 => ?_)
    clear hK K hHeld
    have hHeld := hHeld2
    clear hHeld2
    try simp only [Act.put, List.setIfInBounds_toArray, List.set_cons_zero, List.set_cons_succ, List.getElem_toArray, List.getElem_cons_succ, List.getElem_cons_zero]
    refine wpAnyH_imp (S' := (fun w' => (convert 22 9 (.slice (some ⟨g9, 0, none⟩) (frameB p).length G9)).run Tryd.prog w' = .ok (.string ⟨(frameB p).toArray⟩) w' ∧ (convert 22 9 (.slice (some ⟨gx, 0, none⟩) (b.length + (frameB p).length) Gx)).run Tryd.prog w' = .ok (.string ⟨(b ++ frameB p).toArray⟩) w' ∧ (convert 22 9 (.slice A b.length c)).run Tryd.prog w' = .ok (.string ⟨b.toArray⟩) w' ∧ w'.cell? ⟨g, b.length, none⟩ = some (.int .u8 1) ∧ w'.cell? ⟨g, b.length + 2, none⟩ = some (.int .u8 3) ∧ Below W0.heap.size W0 w')) (fun _ h => h.2) _ _ _ _ ?_
    have HD2 : Hid (∀ V, Below V9.heap.size V9 V → (fun w' => (convert 22 9 (.slice (some ⟨g9, 0, none⟩) (frameB p).length G9)).run Tryd.prog w' = .ok (.string ⟨(frameB p).toArray⟩) w' ∧ (convert 22 9 (.slice (some ⟨gx, 0, none⟩) (b.length + (frameB p).length) Gx)).run Tryd.prog w' = .ok (.string ⟨(b ++ frameB p).toArray⟩) w' ∧ (convert 22 9 (.slice A b.length c)).run Tryd.prog w' = .ok (.string ⟨b.toArray⟩) w' ∧ w'.cell? ⟨g, b.length, none⟩ = some (.int .u8 1) ∧ w'.cell? ⟨g, b.length + 2, none⟩ = some (.int .u8 3) ∧ Below W0.heap.size W0 w') V) := Lib.hid (fun V h => ⟨run_convert_byt Tryd.underlying22 Tryd.underlying5 Tryd.underlying9 G9 (HY9.out.later h), HD.out V (hB9.trans (h.mono hB9.size))⟩)
    have hHeld2 : (fun w' => (convert 22 9 (.slice (some ⟨g9, 0, none⟩) (frameB p).length G9)).run Tryd.prog w' = .ok (.string ⟨(frameB p).toArray⟩) w' ∧ (convert 22 9 (.slice (some ⟨gx, 0, none⟩) (b.length + (frameB p).length) Gx)).run Tryd.prog w' = .ok (.string ⟨(b ++ frameB p).toArray⟩) w' ∧ (convert 22 9 (.slice A b.length c)).run Tryd.prog w' = .ok (.string ⟨b.toArray⟩) w' ∧ w'.cell? ⟨g, b.length, none⟩ = some (.int .u8 1) ∧ w'.cell? ⟨g, b.length + 2, none⟩ = some (.int .u8 3) ∧ Below W0.heap.size W0 w') V9 := HD2.out _ (Below.refl _ _)
    clear hHeld
    have hHeld := hHeld2
    clear hHeld2
    refine wpAnyH_take (i := 9) (v := ?vv9) rfl (by kernel_rfl) (by kernel_rfl) (by kernel_rfl) (fun _ _ _ h => h) (Or.inl ⟨by rfl, ?hy9⟩) hHeld ?rr9
    case hy9 => (intro w' hSw; obtain ⟨gz, g0, g1, g2, g3, g4⟩ := hSw; go_simp; try with_reducible rfl)
    try simp only [Act.put, List.setIfInBounds_toArray, List.set_cons_zero, List.set_cons_succ, List.getElem_toArray, List.getElem_cons_succ, List.getElem_cons_zero]
    refine wpAnyH_take (i := 10) (v := ?vv10) rfl (by kernel_rfl) (by kernel_rfl) (by kernel_rfl) (fun _ _ _ h => h) (Or.inl ⟨by rfl, ?hy10⟩) hHeld ?rr10
    case hy10 => (intro w' hSw; obtain ⟨gz, g0, g1, g2, g3, g4⟩ := hSw; go_simp; exact rfl)
    try simp only [Act.put, List.setIfInBounds_toArray, List.set_cons_zero, List.set_cons_succ, List.getElem_toArray, List.getElem_cons_succ, List.getElem_cons_zero]
    refine wpAnyH_take (i := 11) (v := ?vv11) rfl (by kernel_rfl) (by kernel_rfl) (by kernel_rfl) (fun _ _ _ h => h) (Or.inl ⟨by rfl, ?hy11⟩) hHeld ?rr11
    case hy11 => (intro w' hSw; obtain ⟨gz, g0, g1, g2, g3, g4⟩ := hSw; go_simp; try with_reducible rfl)
    try simp only [Act.put, List.setIfInBounds_toArray, List.set_cons_zero, List.set_cons_succ, List.getElem_toArray, List.getElem_cons_succ, List.getElem_cons_zero]
    refine wpAnyH_take (i := 12) (v := ?vv12) rfl (by kernel_rfl) (by kernel_rfl) (by kernel_rfl) (fun _ _ _ h => h) (Or.inl ⟨by rfl, ?hy12⟩) hHeld ?rr12
    case hy12 => (intro w' hSw; obtain ⟨gz, g0, g1, g2, g3, g4⟩ := hSw; go_simp; try with_reducible rfl)
    try simp only [Act.put, List.setIfInBounds_toArray, List.set_cons_zero, List.set_cons_succ, List.getElem_toArray, List.getElem_cons_succ, List.getElem_cons_zero]
    refine wpAnyH_take (i := 13) (v := ?vv13) rfl (by kernel_rfl) (by kernel_rfl) (by kernel_rfl) (fun _ _ _ h => h) (Or.inl ⟨by rfl, ?hy13⟩) hHeld ?rr13
    case hy13 => (intro w' hSw; obtain ⟨gz, g0, g1, g2, g3, g4⟩ := hSw; go_simp; try with_reducible rfl)
    try simp only [Act.put, List.setIfInBounds_toArray, List.set_cons_zero, List.set_cons_succ, List.getElem_toArray, List.getElem_cons_succ, List.getElem_cons_zero]
    refine wpAnyH_take (i := 14) (v := ?vv14) rfl (by kernel_rfl) (by kernel_rfl) (by kernel_rfl) (fun _ _ _ h => h) (Or.inl ⟨by rfl, ?hy14⟩) hHeld ?rr14
    case hy14 => (intro w' hSw; obtain ⟨gz, g0, g1, g2, g3, g4⟩ := hSw; go_simp; try with_reducible rfl)
    try simp only [Act.put, List.setIfInBounds_toArray, List.set_cons_zero, List.set_cons_succ, List.getElem_toArray, List.getElem_cons_succ, List.getElem_cons_zero]
    refine wpAnyH_take (i := 16) (v := ?vv15) rfl (by kernel_rfl) (by kernel_rfl) (by kernel_rfl) (fun _ _ _ h => h) (Or.inl ⟨by rfl, ?hy15⟩) hHeld ?rr15
    case hy15 => (intro w' hSw; obtain ⟨gz, g0, g1, g2, g3, g4⟩ := hSw; go_simp; try with_reducible rfl)
    try simp only [Act.put, List.setIfInBounds_toArray, List.set_cons_zero, List.set_cons_succ, List.getElem_toArray, List.getElem_cons_succ, List.getElem_cons_zero]
    refine wpAnyH_take (i := 17) (v := ?vv16) rfl (by kernel_rfl) (by kernel_rfl) (by kernel_rfl) (fun _ _ _ h => h) (Or.inl ⟨by rfl, ?hy16⟩) hHeld ?rr16
    case hy16 => (intro w' hSw; obtain ⟨gz, g0, g1, g2, g3, g4⟩ := hSw; go_simp; try with_reducible rfl)
    try simp only [Act.put, List.setIfInBounds_toArray, List.set_cons_zero, List.set_cons_succ, List.getElem_toArray, List.getElem_cons_succ, List.getElem_cons_zero]
    refine wpAnyH_take (i := 18) (v := .int .i64 ((p.length : Int) + 8)) rfl (by kernel_rfl) (by kernel_rfl) (by kernel_rfl) (fun _ _ _ h => h) (Or.inl ⟨by rfl, ?hy17⟩) hHeld ?rr17
    case hy17 => (intro w' hSw; obtain ⟨gz, g0, g1, g2, g3, g4⟩ := hSw; go_simp; try with_reducible rfl)
    try simp only [Act.put, List.setIfInBounds_toArray, List.set_cons_zero, List.set_cons_succ, List.getElem_toArray, List.getElem_cons_succ, List.getElem_cons_zero]
    refine wpAnyH_ready (rs := [15]) (by kernel_rfl) (by simp) ?_
    refine AllReadyH.cons rfl (fun K hK => ?_) AllReadyH.nil
    rw [if_pos (by rfl)]
    go_simp
    go_at_call 10
    refine Calls.mono (by with_reducible exact HSz.out _) ?_
    rintro e V10 ⟨rfl, rfl⟩
    go_wp2_with fail
    refine hK.out _ _ (HD2.out _ (Below.refl _ _)) (fun hHeld2 => ?_)
    clear hK K hHeld
    have hHeld := hHeld2
    clear hHeld2
    try simp only [Act.put, List.setIfInBounds_toArray, List.set_cons_zero, List.set_cons_succ, List.getElem_toArray, List.getElem_cons_succ, List.getElem_cons_zero]
    refine wpAnyH_take (i := 19) (v := Value.bool true) rfl (by kernel_rfl) (by kernel_rfl) (by kernel_rfl) (fun _ _ _ h => h) (Or.inl ⟨by rfl, ?hy18⟩) hHeld ?rr18
    case hy18 => (intro w' hSw; obtain ⟨gz, g0, g1, g2, g3, g4⟩ := hSw; go_simp; try with_reducible rfl)
    try simp only [Act.put, List.setIfInBounds_toArray, List.set_cons_zero, List.set_cons_succ, List.getElem_toArray, List.getElem_cons_succ, List.getElem_cons_zero]
    refine wpAnyH_take (i := 20) (v := Value.bool true) rfl (by kernel_rfl) (by kernel_rfl) (by kernel_rfl) (fun _ _ _ h => h) (Or.inl ⟨by rfl, ?hy19⟩) hHeld ?rr19
    case hy19 => (intro w' hSw; obtain ⟨gz, g0, g1, g2, g3, g4⟩ := hSw; go_simp; try with_reducible rfl)
    try simp only [Act.put, List.setIfInBounds_toArray, List.set_cons_zero, List.set_cons_succ, List.getElem_toArray, List.getElem_cons_succ, List.getElem_cons_zero]
    refine wpAnyH_take (i := 21) (v := Value.bool true) rfl (by kernel_rfl) (by kernel_rfl) (by kernel_rfl) (fun _ _ _ h => h) (Or.inl ⟨by rfl, ?hy20⟩) hHeld ?rr20
    case hy20 => (intro w' hSw; obtain ⟨gz, g0, g1, g2, g3, g4⟩ := hSw; go_simp; try with_reducible rfl)
    try simp only [Act.put, List.setIfInBounds_toArray, List.set_cons_zero, List.set_cons_succ, List.getElem_toArray, List.getElem_cons_succ, List.getElem_cons_zero]
    refine wpAnyH_take (i := 22) (v := ?vv21) rfl (by kernel_rfl) (by kernel_rfl) (by kernel_rfl) (fun _ _ _ h => h) (Or.inl ⟨by rfl, ?hy21⟩) hHeld ?rr21
    case hy21 => (intro w' hSw; obtain ⟨gz, g0, g1, g2, g3, g4⟩ := hSw; go_simp; try with_reducible rfl)
    try simp only [Act.put, List.setIfInBounds_toArray, List.set_cons_zero, List.set_cons_succ, List.getElem_toArray, List.getElem_cons_succ, List.getElem_cons_zero]
    refine wpAnyH_take (i := 23) (v := ?vv22) rfl (by kernel_rfl) (by kernel_rfl) (by kernel_rfl) (fun _ _ _ h => h) (Or.inl ⟨by rfl, ?hy22⟩) hHeld ?rr22
    case hy22 => (intro w' hSw; obtain ⟨gz, g0, g1, g2, g3, g4⟩ := hSw; go_simp; try with_reducible rfl)
    try simp only [Act.put, List.setIfInBounds_toArray, List.set_cons_zero, List.set_cons_succ, List.getElem_toArray, List.getElem_cons_succ, List.getElem_cons_zero]
    refine wpAnyH_take (i := 24) (v := ?vv23) rfl (by kernel_rfl) (by kernel_rfl) (by kernel_rfl) (fun _ _ _ h => h) (Or.inl ⟨by rfl, ?hy23⟩) hHeld ?rr23
    case hy23 => (intro w' hSw; obtain ⟨gz, g0, g1, g2, g3, g4⟩ := hSw; go_simp; try with_reducible rfl)
    try simp only [Act.put, List.setIfInBounds_toArray, List.set_cons_zero, List.set_cons_succ, List.getElem_toArray, List.getElem_cons_succ, List.getElem_cons_zero]
    refine wpAnyH_take (i := 25) (v := ?vv24) rfl (by kernel_rfl) (by kernel_rfl) (by kernel_rfl) (fun _ _ _ h => h) (Or.inl ⟨by rfl, ?hy24⟩) hHeld ?rr24
    case hy24 => (intro w' hSw; obtain ⟨gz, g0, g1, g2, g3, g4⟩ := hSw; go_simp; try with_reducible rfl)
    try simp only [Act.put, List.setIfInBounds_toArray, List.set_cons_zero, List.set_cons_succ, List.getElem_toArray, List.getElem_cons_succ, List.getElem_cons_zero]
    refine wpAnyH_take (i := 26) (v := ?vv25) rfl (by kernel_rfl) (by kernel_rfl) (by kernel_rfl) (fun _ _ _ h => h) (Or.inl ⟨by rfl, ?hy25⟩) hHeld ?rr25
    case hy25 => (intro w' hSw; obtain ⟨gz, g0, g1, g2, g3, g4⟩ := hSw; go_simp; try with_reducible rfl)
    try simp only [Act.put, List.setIfInBounds_toArray, List.set_cons_zero, List.set_cons_succ, List.getElem_toArray, List.getElem_cons_succ, List.getElem_cons_zero]
    refine wpAnyH_take (i := 27) (v := Value.bool true) rfl (by kernel_rfl) (by kernel_rfl) (by kernel_rfl) (fun _ _ _ h => h) (Or.inl ⟨by rfl, ?hy26⟩) hHeld ?rr26
    case hy26 => (intro w' hSw; obtain ⟨gz, g0, g1, g2, g3, g4⟩ := hSw; go_simp; try with_reducible rfl)
    try simp only [Act.put, List.setIfInBounds_toArray, List.set_cons_zero, List.set_cons_succ, List.getElem_toArray, List.getElem_cons_succ, List.getElem_cons_zero]
    refine wpAnyH_take (i := 28) (v := Value.bool true) rfl (by kernel_rfl) (by kernel_rfl) (by kernel_rfl) (fun _ _ _ h => h) (Or.inl ⟨by rfl, ?hy27⟩) hHeld ?rr27
    case hy27 => (intro w' hSw; obtain ⟨gz, g0, g1, g2, g3, g4⟩ := hSw; go_simp; try with_reducible rfl)
    try simp only [Act.put, List.setIfInBounds_toArray, List.set_cons_zero, List.set_cons_succ, List.getElem_toArray, List.getElem_cons_succ, List.getElem_cons_zero]
    refine wpAnyH_take (i := 29) (v := Value.bool true) rfl (by kernel_rfl) (by kernel_rfl) (by kernel_rfl) (fun _ _ _ h => h) (Or.inl ⟨by rfl, ?hy28⟩) hHeld ?rr28
    case hy28 => (intro w' hSw; obtain ⟨gz, g0, g1, g2, g3, g4⟩ := hSw; go_simp; try with_reducible rfl)
    try simp only [Act.put, List.setIfInBounds_toArray, List.set_cons_zero, List.set_cons_succ, List.getElem_toArray, List.getElem_cons_succ, List.getElem_cons_zero]
    refine wpAnyH_take (i := 30) (v := ?vv29) rfl (by kernel_rfl) (by kernel_rfl) (by kernel_rfl) (fun _ _ _ h => h) (Or.inl ⟨by rfl, ?hy29⟩) hHeld ?rr29
    case hy29 => (intro w' hSw; obtain ⟨gz, g0, g1, g2, g3, g4⟩ := hSw; go_simp; try with_reducible rfl)
    try simp only [Act.put, List.setIfInBounds_toArray, List.set_cons_zero, List.set_cons_succ, List.getElem_toArray, List.getElem_cons_succ, List.getElem_cons_zero]
    refine wpAnyH_take (i := 31) (v := ?vv30) rfl (by kernel_rfl) (by kernel_rfl) (by kernel_rfl) (fun _ _ _ h => h) (Or.inl ⟨by rfl, ?hy30⟩) hHeld ?rr30
    case hy30 => (intro w' hSw; obtain ⟨gz, g0, g1, g2, g3, g4⟩ := hSw; go_simp; try with_reducible rfl)
    try simp only [Act.put, List.setIfInBounds_toArray, List.set_cons_zero, List.set_cons_succ, List.getElem_toArray, List.getElem_cons_succ, List.getElem_cons_zero]
    refine wpAnyH_take (i := 32) (v := ?vv31) rfl (by kernel_rfl) (by kernel_rfl) (by kernel_rfl) (fun _ _ _ h => h) (Or.inl ⟨by rfl, ?hy31⟩) hHeld ?rr31
    case hy31 => (intro w' hSw; obtain ⟨gz, g0, g1, g2, g3, g4⟩ := hSw; go_simp; try with_reducible rfl)
    try simp only [Act.put, List.setIfInBounds_toArray, List.set_cons_zero, List.set_cons_succ, List.getElem_toArray, List.getElem_cons_succ, List.getElem_cons_zero]
    refine wpAnyH_take (i := 33) (v := .int .i64 ((b.length : Int) + 2)) rfl (by kernel_rfl) (by kernel_rfl) (by kernel_rfl) (fun _ _ _ h => h) (Or.inl ⟨by rfl, ?hy32⟩) hHeld ?rr32
    case hy32 => (intro w' hSw; obtain ⟨gz, g0, g1, g2, g3, g4⟩ := hSw; go_simp; try with_reducible rfl)
    try simp only [Act.put, List.setIfInBounds_toArray, List.set_cons_zero, List.set_cons_succ, List.getElem_toArray, List.getElem_cons_succ, List.getElem_cons_zero]
    refine wpAnyH_take (i := 34) (v := .pointer (some ⟨g, b.length + 2, none⟩)) rfl (by kernel_rfl) (by kernel_rfl) (by kernel_rfl) (fun _ _ _ h => h) (Or.inl ⟨by rfl, ?hy33⟩) hHeld ?rr33
    case hy33 => (intro w' hSw; obtain ⟨gz, g0, g1, g2, g3, g4⟩ := hSw; go_simp; rw [if_pos (by omega)]; rfl)
    try simp only [Act.put, List.setIfInBounds_toArray, List.set_cons_zero, List.set_cons_succ, List.getElem_toArray, List.getElem_cons_succ, List.getElem_cons_zero]
    refine wpAnyH_take (i := 35) (v := ?vv34) rfl (by kernel_rfl) (by kernel_rfl) (by kernel_rfl) (fun _ _ _ h => h) (Or.inl ⟨by rfl, ?hy34⟩) hHeld ?rr34
    case hy34 => (intro w' hSw; obtain ⟨gz, g0, g1, g2, g3, g4⟩ := hSw; go_simp; try with_reducible rfl)
    try simp only [Act.put, List.setIfInBounds_toArray, List.set_cons_zero, List.set_cons_succ, List.getElem_toArray, List.getElem_cons_succ, List.getElem_cons_zero]
    refine wpAnyH_take (i := 36) (v := Value.bool true) rfl (by kernel_rfl) (by kernel_rfl) (by kernel_rfl) (fun _ _ _ h => h) (Or.inl ⟨by rfl, ?hy35⟩) hHeld ?rr35
    case hy35 => (intro w' hSw; obtain ⟨gz, g0, g1, g2, g3, g4⟩ := hSw; go_simp; try with_reducible rfl)
    try simp only [Act.put, List.setIfInBounds_toArray, List.set_cons_zero, List.set_cons_succ, List.getElem_toArray, List.getElem_cons_succ, List.getElem_cons_zero]
    refine wpAnyH_take (i := 37) (v := Value.bool true) rfl (by kernel_rfl) (by kernel_rfl) (by kernel_rfl) (fun _ _ _ h => h) (Or.inl ⟨by rfl, ?hy36⟩) hHeld ?rr36
    case hy36 => (intro w' hSw; obtain ⟨gz, g0, g1, g2, g3, g4⟩ := hSw; go_simp; try with_reducible rfl)
    try simp only [Act.put, List.setIfInBounds_toArray, List.set_cons_zero, List.set_cons_succ, List.getElem_toArray, List.getElem_cons_succ, List.getElem_cons_zero]
    refine wpAnyH_take (i := 38) (v := ?vv37) rfl (by kernel_rfl) (by kernel_rfl) (by kernel_rfl) (fun _ _ _ h => h) (Or.inl ⟨by rfl, ?hy37⟩) hHeld ?rr37
    case hy37 => (intro w' hSw; obtain ⟨gz, g0, g1, g2, g3, g4⟩ := hSw; go_simp; try with_reducible rfl)
    try simp only [Act.put, List.setIfInBounds_toArray, List.set_cons_zero, List.set_cons_succ, List.getElem_toArray, List.getElem_cons_succ, List.getElem_cons_zero]
    refine wpAnyH_done (by kernel_rfl) ?_ _
    clear hHeld
    go_wp2
    go_ret
    exact ⟨rfl, HBW.out.trans (hB9.mono HBW.out.size)⟩

end Go.Proofs.YtilbmbheancciaaDoor
