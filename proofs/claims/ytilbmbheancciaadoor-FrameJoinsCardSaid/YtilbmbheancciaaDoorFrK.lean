/- The law FrameJoins: the walk. -/
import Derived.Test.YtilbmbheancciaaDoorFrJ
set_option linter.unusedSimpArgs false
set_option linter.unusedVariables false
namespace Go.Proofs.YtilbmbheancciaaDoor
open Go.ChangeShapes Go.WideShapes Go.ChangeAt Go.RowKit Go.Base Go.Mx Go.Fr

set_option maxHeartbeats 8000000 in
set_option maxRecDepth 20000 in
theorem law_joins (A B : Option Addr) (la lb : List (List UInt8)) (na nb c d : Nat) (w : World) (hT : Tab w) (hA : Parts w A la) (hB : Parts w B lb) (hna : la.length = na) (hnb : lb.length = nb) (hma : na ≤ maxLen) (hmb : nb ≤ maxLen) :
    Calls Tryd.prog 7 #[.slice A na c, .slice B nb d] w fun e w' => e = .returned (.bool true) ∧ Below w.heap.size w w' := by
  obtain ⟨i0, hi0, hz0, hz1, hz2⟩ := info_parts u8_info
  obtain ⟨i1, hi1, hy0, hy1, hy2⟩ := info_parts (P := Tryd.prog) (e := 22) (z := .slice none 0 0) (size := 1) (bytes := 24) (by kernel_rfl)
  have HT := Lib.hid hT
  have HA := Lib.hid hA
  have HB := Lib.hid hB
  have HNA := Lib.hid hna
  have HNB := Lib.hid hnb
  unfold maxLen at hma hmb
  have hma' : (na : Int) ≤ 9223372036854775807 := by omega
  have hmb' : (nb : Int) ≤ 9223372036854775807 := by omega
  have HLi := Lib.hid (fun V (h : Below w.heap.size w V) => lives_any V (HT.out.later h))
  clear hT hA hB hna hnb
  go_enter Tryd.func7, Tryd.ntmps7
  go_upto_block 0 with fail
  go_cut [5] from 7 to 41 (fun xv wx => ∃ (k m cX : Nat) (X : Option Addr), xv = .slice X m cX ∧ Hid (JR w la k X m cX wx))
  case first =>
    go_wp2_with fail
    go_loopw [5, 7] (fun xv iv wr => ∃ (k m cX : Nat) (X : Option Addr), k ≤ na ∧ iv = .int .i64 (k : Int) ∧ xv = .slice X m cX ∧ Hid (JR w la k X m cX wr)) (fun _ iv _ => na - (intOf iv).toNat)
    case atStart => exact ⟨0, 0, 0, none, Nat.zero_le _, rfl, rfl, Lib.hid (JR.start _ _)⟩
    case round =>
      obtain ⟨k, m, cX, X, hk, rfl, rfl, HJ⟩ := hrel
      have hkz : (0 : Int) ≤ (k : Int) := by omega
      by_cases hk1 : k < na
      · have hk1' : (k : Int) < (na : Int) := by omega
        by_cases hk2 : k < 40
        · have hk2' : (k : Int) < 40 := by omega
          have hkl : k < la.length := by have := HNA.out; omega
          obtain ⟨b, o, a, cap, rfl, c0, hy, hml⟩ := (HA.out.later HJ.out.2.2.2.2.2.2.2) k hkl
          have HP : Hid (Calls Tryd.prog 8 #[.slice X m cX, .slice a la[k].length cap] wr (PutPost (framesB (la.take k)) la[k] wr)) := Lib.hid (put_any X a (framesB (la.take k)) la[k] m la[k].length cX cap wr HJ.out.1.symm rfl (HT.out.later HJ.out.2.2.2.2.2.2.2) HJ.out.2.1 hy (by have := HJ.out.len; omega) (by unfold maxLen at hml; omega))
          obtain ⟨y, hye⟩ : ∃ y, y = la[k] := ⟨_, rfl⟩
          have HY : Hid (∃ h : k < la.length, la[k]'h = y) := Lib.hid ⟨hkl, hye.symm⟩
          rw [← hye] at c0 HP
          clear hy hml hye hkl
          by_cases hl : 65536 < y.length
          · go_wp2_with (first
              | (go_at_call 8; refine Calls.mono (by with_reducible exact HP.out) ?_; rintro e w3 ⟨h1, h2, hb⟩; obtain rfl := h1 hl; have HB3 := Lib.hid (HJ.out.2.2.2.2.2.2.2.trans (hb.mono HJ.out.2.2.2.2.2.2.2.size)); clear h1 h2 hb)
              | (go_at_call 9; refine Calls.mono (by with_reducible exact HLi.out _ HB3.out) ?_; rintro e w4 ⟨rfl, hb4⟩; have HB4 := Lib.hid (HB3.out.trans (hb4.mono HB3.out.size)); clear hb4))
            go_ret
            exact ⟨rfl, HB4.out⟩
          · go_wp2_with (first
              | (go_at_call 8; refine Calls.mono (by with_reducible exact HP.out) ?_; rintro e w3 ⟨h1, h2, hb⟩; obtain ⟨g, G, rfl, _, ho, _, _⟩ := h2 hl; have HJ3 := Lib.hid (JR.next HJ.out HY.out.1 HY.out.2 hl hk2 rfl ho hb); clear h1 h2 hb ho))
            go_roundw
            case rel => exact ⟨k + 1, _, G, some ⟨g, 0, none⟩, by omega, by go_num, rfl, by first | exact HJ3 | (have := HJ3; rw [List.length_append] at this; exact this)⟩
            case measure => simp [intOf]; omega
        · have hk2' : (40 : Int) ≤ (k : Int) := by omega
          go_wp2
          go_meet
          exact ⟨k, m, cX, X, rfl, HJ⟩
      · obtain rfl : k = na := by omega
        go_wp2
        go_meet
        exact ⟨k, m, cX, X, rfl, HJ⟩
  case rest =>
    obtain ⟨ka, ma, cX, X, rfl, HJ⟩ := hcut
    obtain ⟨Wa, hWa⟩ : ∃ V, V = wc := ⟨_, rfl⟩
    subst hWa
    have HWa := Lib.hid HJ.out.2.2.2.2.2.2.2
    go_upto_block 2 with fail
    go_cut [6] from 10 to 64 (fun xv wx => ∃ (k m cX : Nat) (X : Option Addr), xv = .slice X m cX ∧ Hid (JR Wa lb k X m cX wx))
    case first =>
      go_wp2_with fail
      go_loopw [6, 10] (fun xv iv wr => ∃ (k m cX : Nat) (X : Option Addr), k ≤ nb ∧ iv = .int .i64 (k : Int) ∧ xv = .slice X m cX ∧ Hid (JR Wa lb k X m cX wr)) (fun _ iv _ => nb - (intOf iv).toNat)
      case atStart => exact ⟨0, 0, 0, none, Nat.zero_le _, rfl, rfl, Lib.hid (JR.start _ _)⟩
      case round =>
        obtain ⟨k, m, cX, X, hk, rfl, rfl, HK⟩ := hrel
        have hkz : (0 : Int) ≤ (k : Int) := by omega
        by_cases hk1 : k < nb
        · have hk1' : (k : Int) < (nb : Int) := by omega
          by_cases hk2 : k < 40
          · have hk2' : (k : Int) < 40 := by omega
            have hkl : k < lb.length := by have := HNB.out; omega
            obtain ⟨b, o, a, cap, rfl, c0, hy, hml⟩ := (HB.out.later (HWa.out.trans (HK.out.2.2.2.2.2.2.2.mono HWa.out.size))) k hkl
            have HP : Hid (Calls Tryd.prog 8 #[.slice X m cX, .slice a lb[k].length cap] wr (PutPost (framesB (lb.take k)) lb[k] wr)) := Lib.hid (put_any X a (framesB (lb.take k)) lb[k] m lb[k].length cX cap wr HK.out.1.symm rfl (HT.out.later (HWa.out.trans (HK.out.2.2.2.2.2.2.2.mono HWa.out.size))) HK.out.2.1 hy (by have := HK.out.len; omega) (by unfold maxLen at hml; omega))
            obtain ⟨y, hye⟩ : ∃ y, y = lb[k] := ⟨_, rfl⟩
            have HY : Hid (∃ h : k < lb.length, lb[k]'h = y) := Lib.hid ⟨hkl, hye.symm⟩
            rw [← hye] at c0 HP
            clear hy hml hye hkl
            by_cases hl : 65536 < y.length
            · go_wp2_with (first
                | (go_at_call 8; refine Calls.mono (by with_reducible exact HP.out) ?_; rintro e w3 ⟨h1, h2, hb⟩; obtain rfl := h1 hl; have HB3 := Lib.hid ((HWa.out.trans (HK.out.2.2.2.2.2.2.2.mono HWa.out.size)).trans (hb.mono (HWa.out.trans (HK.out.2.2.2.2.2.2.2.mono HWa.out.size)).size)); clear h1 h2 hb)
                | (go_at_call 9; refine Calls.mono (by with_reducible exact HLi.out _ HB3.out) ?_; rintro e w4 ⟨rfl, hb4⟩; have HB4 := Lib.hid (HB3.out.trans (hb4.mono HB3.out.size)); clear hb4))
              go_ret
              exact ⟨rfl, HB4.out⟩
            · go_wp2_with (first
                | (go_at_call 8; refine Calls.mono (by with_reducible exact HP.out) ?_; rintro e w3 ⟨h1, h2, hb⟩; obtain ⟨g, G, rfl, _, ho, _, _⟩ := h2 hl; have HK3 := Lib.hid (JR.next HK.out HY.out.1 HY.out.2 hl hk2 rfl ho hb); clear h1 h2 hb ho))
              go_roundw
              case rel => exact ⟨k + 1, _, G, some ⟨g, 0, none⟩, by omega, by go_num, rfl, by first | exact HK3 | (have := HK3; rw [List.length_append] at this; exact this)⟩
              case measure => simp [intOf]; omega
          · have hk2' : (40 : Int) ≤ (k : Int) := by omega
            go_wp2
            go_meet
            exact ⟨k, m, cX, X, rfl, HK⟩
        · obtain rfl : k = nb := by omega
          go_wp2
          go_meet
          exact ⟨k, m, cX, X, rfl, HK⟩
    case rest =>
      obtain ⟨kb, mb, cY, Y, rfl, HK⟩ := hcut
      have hBc := HWa.out.trans (HK.out.2.2.2.2.2.2.2.mono HWa.out.size)
      have HBc := Lib.hid hBc
      obtain ⟨pa, hpa⟩ : ∃ l, l = la.take ka := ⟨_, rfl⟩
      obtain ⟨pb, hpb⟩ : ∃ l, l = lb.take kb := ⟨_, rfl⟩
      obtain ⟨bx, hbx⟩ : ∃ b, b = framesB pa := ⟨_, rfl⟩
      obtain ⟨bz, hbz⟩ : ∃ b, b = framesB pb := ⟨_, rfl⟩
      have l1 := HJ.out.len
      have l2 := HK.out.len
      obtain ⟨e1, y1, m1, c1, s1, h1, k1, b1⟩ := HJ.out
      obtain ⟨e2, y2, m2, c2, s2, h2, k2, b2⟩ := HK.out
      have np40 : pa.length ≤ 40 := by rw [hpa, List.length_take]; omega
      have nq40 : pb.length ≤ 40 := by rw [hpb, List.length_take]; omega
      rw [← hpa] at e1 y1 h1
      rw [← hpb] at e2 y2 h2
      rw [← hbx] at e1 y1
      rw [← hbz] at e2 y2
      subst e1; subst e2
      obtain ⟨np, hnp⟩ : ∃ n, pa.length = n := ⟨_, rfl⟩
      obtain ⟨nq, hnq⟩ : ∃ n, pb.length = n := ⟨_, rfl⟩
      rw [hnp] at np40
      rw [hnq] at nq40
      have HX : Hid (Byt wc X bx) := Lib.hid (y1.later b2)
      have HY : Hid (Byt wc Y bz) := Lib.hid y2
      have HAX : Hid (∀ V, Below wc.heap.size wc V → Calls Tryd.prog 14 #[.slice X bx.length cX] V (AllIs pa np (bx.length : Int) V)) := Lib.hid (fun V h => all_is X pa bx bx.length cX np _ V h1 hbx rfl (HT.out.later (hBc.trans (h.mono hBc.size))) (HX.out.later h) m1 c1 s1 (by omega) hnp rfl)
      have HAY : Hid (∀ V, Below wc.heap.size wc V → Calls Tryd.prog 14 #[.slice Y bz.length cY] V (AllIs pb nq (bz.length : Int) V)) := Lib.hid (fun V h => all_is Y pb bz bz.length cY nq _ V h2 hbz rfl (HT.out.later (hBc.trans (h.mono hBc.size))) (HY.out.later h) m2 c2 s2 (by omega) hnq rfl)
      have HAC : Hid (∀ V C n cC, Below wc.heap.size wc V → (bx ++ bz).length = n → Byt V C (bx ++ bz) → n ≤ cC → cC ≤ maxLen → ((C = none ∧ cC = 0) ∨ ∃ g o, C = some ⟨g, o, none⟩) → Calls Tryd.prog 14 #[.slice C n cC] V (AllIs (pa ++ pb) (np + nq) ((bx.length : Int) + (bz.length : Int)) V)) := Lib.hid (fun V C n cC h hn hy h3 h4 h5 =>
        all_is C (pa ++ pb) (bx ++ bz) n cC (np + nq) _ V (fun p hp => (List.mem_append.1 hp).elim (h1 p) (h2 p)) (by rw [hbx, hbz, framesB_add]) hn (HT.out.later (hBc.trans (h.mono hBc.size))) hy h3 h4 h5 (by rw [← hn, List.length_append]; omega) (by rw [List.length_append, hnp, hnq]) (by rw [List.length_append]; omega))
      have HNP := Lib.hid (And.intro hnp hnq)
      have l1' : (bx.length : Int) ≤ 2621760 := by omega
      have l2' : (bz.length : Int) ≤ 2621760 := by omega
      have hw : IntKind.i64.wrap ((bx.length : Int) + (bz.length : Int)) = (bx.length : Int) + (bz.length : Int) := by rw [IntKind.wrap_i64]; omega
      have HBr := Lib.hid (Below.refl wc.heap.size wc)
      clear hpa hpb hbx hbz y1 y2 s1 s2 h1 h2 b1 b2 hnp hnq hBc HJ HK
      go_wp2_with (first
        | (at_builtin; refine wpList_append_byt _ rfl (.tmp 66) (.tmp 67) 22 rfl 5 i0 Tryd.underlying22 hi0 hz0 hz1 hz2 wc.heap.size _ [] rfl (World.ownsRow_made wc #[] 0 (Nat.le_refl _) (Nat.zero_le _) rfl) X cX bx rfl (HX.out.alloc _) (by simp only [List.length_nil]; omega) (by simp) ?_; intro A1 d1 w1 hown1 hgrow1 _; simp only [List.nil_append] at hown1 ⊢; have HO1 := Lib.hid hown1; have HB1 := Lib.hid ((below_alloc wc _).grown hgrow1 (by simp) (fun k e => by injection e with e; exact Nat.le_of_eq e)); clear hown1 hgrow1)
        | (at_builtin; refine wpList_append_byt _ rfl (.tmp 68) (.tmp 69) 22 rfl 5 i0 Tryd.underlying22 hi0 hz0 hz1 hz2 wc.heap.size _ bx rfl HO1.out Y cY bz rfl (HY.out.later HB1.out) (by omega) HB1.out.size ?_; intro A2 d2 w2 hown2 hgrow2 _; have HO2 := Lib.hid hown2; have HB2 := Lib.hid (HB1.out.grown hgrow2 HB1.out.size (fun k e => (HO1.out.lt k e).1)); clear hown2 hgrow2)
        | (go_at_call 14; refine Calls.mono (by with_reducible exact HAC.out _ _ _ _ HB2.out (by simp) (own_byt_any HO2.out) (by have := (own_cap HO2.out).1; simp at this; omega) (own_cap HO2.out).2 (own_shape HO2.out)) ?_; rintro e w3 ⟨R, cR, rfl, hR, hb⟩; have HB3 := Lib.hid (HB2.out.trans (hb.mono HB2.out.size)); have HR := Lib.hid hR; clear hb hR)
        | (go_at_call 14; refine Calls.mono (by with_reducible exact HAX.out _ HB3.out) ?_; rintro e w4 ⟨P1, cP1, rfl, hP, hb⟩; have HB4 := Lib.hid (HB3.out.trans (hb.mono HB3.out.size)); have HR4 := Lib.hid (HR.out.later hb); have HP1 := Lib.hid hP; clear hb hP)
        | (go_at_call 14; refine Calls.mono (by with_reducible exact HAY.out _ HB4.out) ?_; rintro e w5 ⟨P2, cP2, rfl, hP, hb⟩; have HB5 := Lib.hid (HB4.out.trans (hb.mono HB4.out.size)); have HR5 := Lib.hid (HR4.out.later hb); have HQ1 := Lib.hid (HP1.out.later hb); have HQ2 := Lib.hid hP; clear hb hP)
        | (go_at_call 9; refine Calls.mono (by with_reducible exact HLi.out _ (HBc.out.trans (HB5.out.mono HBc.out.size))) ?_; rintro e w6 ⟨rfl, hb⟩; have HB6 := Lib.hid (HB5.out.trans (hb.mono HB5.out.size)); have HR6 := Lib.hid (HR5.out.later hb); have HQ16 := Lib.hid (HQ1.out.later hb); have HQ26 := Lib.hid (HQ2.out.later hb); clear hb; obtain ⟨va, sva, hva, hva1⟩ := parts_vals HQ16.out; obtain ⟨vb, svb, hvb, hvb1⟩ := parts_vals HQ26.out; have HVA := Lib.hid (And.intro sva (And.intro hva hva1)); have HVB := Lib.hid (And.intro svb (And.intro hvb hvb1)); clear sva hva hva1 svb hvb hvb1)
        | (at_builtin; refine wpList_wanted (by kernel_rfl) (fun K hK => ?_); refine oper_append_k _ (.tmp 96) (.tmp 97) 32 rfl 22 i1 (.slice none 0 0) 1 24 Tryd.underlying32 hi1 hy0 hy1 hy2 rfl (by decide) w6.heap.size _ 0 [] rfl (World.ownsRow_made w6 #[] 0 (Nat.le_refl _) (Nat.zero_le _) rfl) P1 np cP1 va rfl (by rw [HVA.out.1.1, HNP.out.1, Nat.mul_one]) (fun h => by obtain ⟨a, e, f⟩ := HVA.out.2.1 (by rw [HNP.out.1]; exact h); exact ⟨a, e, fun j u hu => cell_later (below_alloc w6 _) (f j u hu)⟩) HVA.out.2.2 (by unfold maxLen; omega) (by omega) (by simp) ?_; intro A7 c7 w7 hown7 hgrow7 _; refine hK _ _ ?_; clear hK K; simp only [Nat.zero_add, List.nil_append] at hown7 ⊢; have HO7 := Lib.hid hown7; have HB7 := Lib.hid ((below_alloc w6 _).grown hgrow7 (by simp) (fun k e => by injection e with e; exact Nat.le_of_eq e)); clear hown7 hgrow7)
        | (at_builtin; refine wpList_wanted (by kernel_rfl) (fun K hK => ?_); refine oper_append_k _ (.tmp 98) (.tmp 99) 32 rfl 22 i1 (.slice none 0 0) 1 24 Tryd.underlying32 hi1 hy0 hy1 hy2 rfl (by decide) w6.heap.size _ np va rfl HO7.out P2 nq cP2 vb rfl (by rw [HVB.out.1.1, HNP.out.2, Nat.mul_one]) (fun h => by obtain ⟨a, e, f⟩ := HVB.out.2.1 (by rw [HNP.out.2]; exact h); exact ⟨a, e, fun j u hu => cell_later HB7.out (f j u hu)⟩) HVB.out.2.2 (by unfold maxLen; omega) (by omega) HB7.out.size ?_; intro A8 c8 w8 hown8 hgrow8 _; refine hK _ _ ?_; clear hK K; have HB8 := Lib.hid (HB7.out.grown hgrow8 HB7.out.size (fun k e => (HO7.out.lt k e).1)); have HZ8 := Lib.hid (parts_own (w0 := w8) hown8 ((HVA.out.1.append HVB.out.1).later HB8.out) (by rw [List.length_append, HNP.out.1, HNP.out.2])); clear hown8 hgrow8)
        | (go_at_call 16; refine Calls.mono (same_true R A8 (pa ++ pb) (np + nq) cR c8 w8 (by rw [List.length_append, HNP.out.1, HNP.out.2]) (HR6.out.later HB8.out) HZ8.out (by unfold maxLen; omega)) ?_; rintro e w9 ⟨rfl, hb⟩; have HB9 := Lib.hid ((HB6.out.trans (HB8.out.mono HB6.out.size)).trans (hb.mono ((HB6.out.trans (HB8.out.mono HB6.out.size)).size))); clear hb))
      go_ret
      exact ⟨rfl, HBc.out.trans (HB9.out.mono HBc.out.size)⟩
end Go.Proofs.YtilbmbheancciaaDoor
