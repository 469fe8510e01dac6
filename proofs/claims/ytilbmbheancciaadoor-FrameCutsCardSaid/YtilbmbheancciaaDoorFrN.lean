/- The law FrameCuts: the walk. -/
import Derived.Test.YtilbmbheancciaaDoorFrM
set_option linter.unusedSimpArgs false
set_option linter.unusedVariables false
namespace Go.Proofs.YtilbmbheancciaaDoor
open Go.ChangeShapes Go.WideShapes Go.ChangeAt Go.RowKit Go.Base Go.Mx Go.Fr

theorem tmod_bd (z : Int) (m : Nat) : -(m : Int) ≤ z.tmod ((m : Int) + 1) ∧ z.tmod ((m : Int) + 1) ≤ m := by
  have h1 := Int.lt_tmod_of_pos z (b := (m : Int) + 1) (by omega)
  have h2 := Int.tmod_lt_of_pos z (b := (m : Int) + 1) (by omega)
  omega
theorem wrap64_neg (r : Int) (m : Nat) (hm : m ≤ 2621760) (h1 : -(m : Int) ≤ r) (h2 : r ≤ m) (hr : r < 0) : wrap64 (-r) = ((-r).toNat : Int) := by
  rw [Int.toNat_of_nonneg (by omega)]
  unfold wrap64; omega
set_option maxHeartbeats 8000000 in
set_option maxRecDepth 20000 in
theorem law_cuts (A : Option Addr) (la : List (List UInt8)) (na c : Nat) (z : Int) (w : World) (hT : Tab w) (hA : Parts w A la) (hna : la.length = na) (hnc : na ≤ c) (hcm : c ≤ maxLen) (hA0 : A = none → c = 0) (hz1 : -9223372036854775808 ≤ z) (hz2 : z ≤ 9223372036854775807) :
    Calls Tryd.prog 5 #[.slice A na c, .int .i64 z] w fun e w' => e = .returned (.bool true) ∧ Below w.heap.size w w' := by
  obtain ⟨i0, hi0, hz0, hz1, hz2⟩ := info_parts u8_info
  obtain ⟨i1, hi1, hy0, hy1, hy2⟩ := info_parts (P := Tryd.prog) (e := 3) (z := .int .i64 0) (size := 1) (bytes := 8) (by kernel_rfl)
  have HT := Lib.hid hT
  have HA := Lib.hid hA
  have HNA := Lib.hid hna
  have HA0 := Lib.hid hA0
  unfold maxLen at hcm
  have hma' : (na : Int) ≤ 9223372036854775807 := by omega
  have hnc' : (na : Int) ≤ (c : Int) := by omega
  have hcm' : (c : Int) ≤ 9223372036854775807 := by omega
  have HLi := Lib.hid (fun V (h : Below w.heap.size w V) => lives_any V (HT.out.later h))
  clear hT hA hna hA0
  go_enter Tryd.func5, Tryd.ntmps5
  go_upto_block 0 with fail
  go_cut [5, 6] from 7 to 40 (fun xv ev wx => ∃ (k m cX cE : Nat) (X E : Option Addr), xv = .slice X m cX ∧ ev = .slice E k cE ∧ Hid (k ≤ na ∧ CR w la k X E m cX cE wx))
  case first =>
    go_wp2_with fail
    go_loopw [5, 6, 7] (fun xv ev iv wr => ∃ (k m cX cE : Nat) (X E : Option Addr), k ≤ na ∧ iv = .int .i64 (k : Int) ∧ xv = .slice X m cX ∧ ev = .slice E k cE ∧ Hid (CR w la k X E m cX cE wr)) (fun _ _ iv _ => na - (intOf iv).toNat)
    case atStart => exact ⟨0, 0, 0, 0, none, none, Nat.zero_le _, rfl, rfl, rfl, Lib.hid (CR.start _ _)⟩
    case round =>
      obtain ⟨k, m, cX, cE, X, E, hk, rfl, rfl, rfl, HJ⟩ := hrel
      have hkz : (0 : Int) ≤ (k : Int) := by omega
      by_cases hk1 : k < na
      · have hk1' : (k : Int) < (na : Int) := by omega
        by_cases hk2 : k < 40
        · have hk2' : (k : Int) < 40 := by omega
          have hkl : k < la.length := by have := HNA.out; omega
          obtain ⟨b, o, a, cap, rfl, c0, hy, hml⟩ := (HA.out.later HJ.out.2.2.2.2.2) k hkl
          obtain ⟨y, hye⟩ : ∃ y, y = la[k] := ⟨_, rfl⟩
          rw [← hye] at c0 hy hml
          have HKp : Hid (∃ h : k < la.length, la[k]'h = y) := Lib.hid ⟨hkl, hye.symm⟩
          obtain ⟨bs, hbs⟩ : ∃ b, b = framesB (la.take k) := ⟨_, rfl⟩
          have HBS := Lib.hid hbs
          have HO := Lib.hid HJ.out.2.1
          have hml0 := HJ.out.len
          have e1 := HJ.out.1
          rw [← hbs] at HO e1
          subst e1
          have HOE := Lib.hid HJ.out.2.2.1
          have HBW := Lib.hid HJ.out.2.2.2.2.2
          have HYy := Lib.hid hy
          unfold maxLen at hml
          have hml' : (y.length : Int) ≤ 9223372036854775807 := by omega
          clear hye hkl hbs hy
          by_cases hl : 65536 < y.length
          · have hl' : (65536 : Int) < (y.length : Int) := by omega
            go_wp2_with (go_at_call 9; refine Calls.mono (by with_reducible exact HLi.out _ HBW.out) ?_; rintro e w4 ⟨rfl, hb4⟩; have HB4 := Lib.hid (HBW.out.trans (hb4.mono HBW.out.size)); clear hb4)
            go_ret
            exact ⟨rfl, HB4.out⟩
          · have hl' : (y.length : Int) ≤ 65536 := by omega
            have hln : y.length ≤ 65536 := by omega
            have hfl := frameB_len y
            have HFr := Lib.hid (frame_any a y y.length cap wr rfl HYy.out hln)
            have HFl := Lib.hid hfl
            have hfl2 : (frameB y).length ≤ 65544 := by omega
            clear hfl
            go_wp2_with (first
              | (go_at_call 11; refine Calls.mono (by with_reducible exact HFr.out) ?_; rintro e w3 ⟨g3, G3, rfl, ho3, hb3, _, _⟩; have HF3 := Lib.hid (own_byt_any ho3); have HO3 := Lib.hid (own_below HO.out hb3); have HE3 := Lib.hid (own_below HOE.out hb3); have HB3 := Lib.hid (HBW.out.trans (hb3.mono HBW.out.size)); clear ho3 hb3)
              | (at_builtin; (refine wpList_append_byt _ rfl (.tmp 29) (.tmp 34) 22 rfl 5 i0 Tryd.underlying22 hi0 hz0 hz1 hz2 w.heap.size _ bs rfl HO3.out (some ⟨g3, 0, none⟩) G3 (frameB y) rfl HF3.out (by omega) HB3.out.size ?_); intro A4 c4 w4 hown4 hgrow4 _; have HO4 := Lib.hid hown4; have HE4 := Lib.hid (own_grown (e := 3) (e' := 5) HE3.out HO3.out (by decide) hgrow4); have HB4 := Lib.hid (HB3.out.grown hgrow4 HB3.out.size (fun k e => (HO3.out.lt k e).1)); clear hown4 hgrow4)
              | (at_builtin; refine wpList_append_k _ rfl (.tmp 36) (.tmp 39) 37 rfl 3 i1 (.int .i64 0) 1 8 Tryd.underlying37 hi1 hy0 hy1 hy2 rfl (by decide) w.heap.size _ k (intVs (endsL (la.take k))) rfl (own_below HE4.out (below_alloc w4 _)) _ 1 1 [.int .i64 ((bs.length : Int) + ((frameB y).length : Int))] rfl rfl (fun _ => ⟨_, rfl, cell_one (heap_new _ _)⟩) (fun u hu => by rw [List.mem_singleton.1 hu]; rfl) (by unfold maxLen; omega) (by omega) (by have := HB4.out.size; simp; omega) ?_; intro A5 c5 w5 hown5 hgrow5 _; have HE5 := Lib.hid hown5; have HO5 := Lib.hid (own_grown (e := 5) (e' := 3) (own_below HO4.out (below_alloc w4 _)) (own_below HE4.out (below_alloc w4 _)) (by decide) hgrow5); have HB5 := Lib.hid ((HB4.out.alloc HB4.out.size _).grown hgrow5 (by have := HB4.out.size; simp; omega) (fun k e => (HE4.out.lt k e).1)); clear hown5 hgrow5))
            go_roundw
            case rel => exact ⟨k + 1, _, c4, c5, A4, A5, by omega, by go_num, rfl, rfl, Lib.hid (CR.next HJ.out HBS.out HKp.out.1 HKp.out.2 hln hk2 (by simp) HO5.out (by simp) HE5.out HB5.out)⟩
            case measure => simp [intOf]; omega
        · have hk2' : (40 : Int) ≤ (k : Int) := by omega
          go_wp2
          go_meet
          exact ⟨k, m, cX, cE, X, E, rfl, rfl, Lib.hid ⟨hk, HJ.out⟩⟩
      · obtain rfl : k = na := by omega
        go_wp2
        go_meet
        exact ⟨k, m, cX, cE, X, E, rfl, rfl, Lib.hid ⟨hk, HJ.out⟩⟩
  case rest =>
    obtain ⟨k, m, cX, cE, X, E, rfl, rfl, HC⟩ := hcut
    obtain ⟨Wa, hWa⟩ : ∃ V, V = wc := ⟨_, rfl⟩
    subst hWa
    have hml0 := HC.out.2.len
    have hw1 : IntKind.i64.wrap ((m : Int) + 1) = (m : Int) + 1 := by rw [IntKind.wrap_i64]; omega
    have hm1 : ¬ ((m : Int) + 1 = 0) := by omega
    go_upto_if 47 with fail
    go_cut [8] from 41 to 49 (fun kv wx => ∃ kc : Nat, kv = .int .i64 (kc : Int) ∧ kc ≤ m ∧ wx = Wa)
    case first =>
      have hbd := tmod_bd z m
      have hng := wrap64_neg (z.tmod ((m : Int) + 1)) m (by omega) hbd.1 hbd.2
      have HB2 := Lib.hid hbd
      have HNG := Lib.hid hng
      clear hbd hng
      go_wp2
      · rename_i hr
        go_meet
        exact ⟨(-z.tmod ((m : Int) + 1)).toNat, by rw [HNG.out hr], by have := HB2.out; omega, rfl⟩
      · rename_i hr
        go_meet
        exact ⟨(z.tmod ((m : Int) + 1)).toNat, by rw [Int.toNat_of_nonneg hr], by have := HB2.out; omega, rfl⟩
    case rest =>
      obtain ⟨kc, rfl, hkc, hWc⟩ := hcut
      subst hWc
      obtain ⟨Wb, hWb⟩ : ∃ V, V = wc := ⟨_, rfl⟩
      subst hWb
      obtain ⟨ps, hps⟩ : ∃ l, l = la.take k := ⟨_, rfl⟩
      obtain ⟨hkn, e1, oX, oE, hsh, h40, hbw⟩ := HC.out
      have hpl : ps.length = k := by rw [hps, List.length_take, HNA.out]; omega
      rw [← hps] at e1 oX oE hsh
      have hq := ended_le ps kc
      obtain ⟨q, hqe⟩ : ∃ q, q = ended ps kc := ⟨_, rfl⟩
      obtain ⟨nn, hnn⟩ : ∃ n, n = (framesB (ps.take q)).length := ⟨_, rfl⟩
      rw [← hqe] at hq
      have HE : Hid (∀ t, t < k → ∃ e : Nat, (intVs (endsL ps))[t]? = some (.int .i64 (e : Int)) ∧ (t < q ↔ e ≤ kc)) := Lib.hid (fun t ht => ⟨_, intVs_get _ _ _ (endsL_get ps t (by omega)), by rw [hqe]; exact ended_iff ps kc t (by omega)⟩)
      have HN0 : Hid (q = 0 → nn = 0) := Lib.hid (fun h => by rw [hnn, h, List.take_zero]; rfl)
      have HN1 : Hid (∀ t, q = t + 1 → (intVs (endsL ps))[t]? = some (.int .i64 (nn : Int))) := Lib.hid (fun t h => by rw [hnn, h]; exact intVs_get _ _ _ (endsL_get ps t (by omega)))
      have hX := own_byt_any oX
      have hcx := own_cap oX
      have hxs := own_shape oX
      have HBw := Lib.hid hbw
      have HPa : Hid ((la.take q).length = q ∧ ps.take q = la.take q) := Lib.hid ⟨by rw [List.length_take, HNA.out]; omega, by rw [hps, List.take_take, Nat.min_eq_left (by omega)]⟩
      have HAl : Hid (∀ V, Below Wb.heap.size Wb V → Calls Tryd.prog 14 #[.slice X kc cX] V (AllIs (la.take q) q (nn : Int) V)) := Lib.hid (fun V h => by
        have := all_cut_is X ps kc cX V hsh (HT.out.later (HBw.out.trans (h.mono HBw.out.size))) (hX.later h) (by omega) hcx.1 hcx.2 hxs (by omega)
        rw [← hqe, ← hnn, HPa.out.2] at this; exact this)
      have HOE := Lib.hid oE
      have hqk : q ≤ k := by omega
      have hkx : (kc : Int) ≤ (cX : Int) := by omega
      have hcx' : (cX : Int) ≤ 9223372036854775807 := by have := hcx.2; unfold maxLen at this; omega
      have hqc : (q : Int) ≤ (c : Int) := by omega
      have hk40 : (k : Int) ≤ 40 := by omega
      have hk0 : (0 : Int) ≤ (kc : Int) := by omega
      clear hps hpl e1 oX oE hsh hqe hnn hX hcx hxs hbw hw1 hm1 hq
      go_upto_block 2 with (go_at_call 14; refine Calls.mono (by with_reducible exact HAl.out _ (Below.refl _ _)) ?_; rintro e w3 ⟨R, cR, rfl, hR, hb⟩; have HR3 := Lib.hid hR; have HB3 := Lib.hid hb; have HE3 := Lib.hid (own_below HOE.out hb); clear hR hb)
      go_cut [11] from 57 to 70 (fun wv wx => wv = .int .i64 (q : Int) ∧ Hid (Below w3.heap.size w3 wx))
      case first =>
        go_wp2_with fail
        go_loopw [11] (fun wv wr => ∃ t : Nat, t ≤ q ∧ wv = .int .i64 (t : Int) ∧ Hid (Below w3.heap.size w3 wr)) (fun wv _ => q - (intOf wv).toNat)
        case atStart => exact ⟨0, Nat.zero_le _, rfl, Lib.hid (Below.refl _ _)⟩
        case round =>
          obtain ⟨t, htq, rfl, HBr⟩ := hrel
          have ht0 : (0 : Int) ≤ (t : Int) := by omega
          by_cases htk : t < k
          · have htk' : (t : Int) < (k : Int) := by omega
            obtain ⟨ev, hev, hiff⟩ := HE.out t htk
            obtain ⟨g, rfl, hc⟩ := own_cell (HE3.out) rfl t (by omega)
            rw [hev] at hc
            have c0 := cell_later HBr.out hc
            have HIf := Lib.hid hiff
            have HEv := Lib.hid hev
            clear hev hiff hc
            by_cases hle : ev ≤ kc
            · have hle' : (ev : Int) ≤ (kc : Int) := by omega
              have htq2 : t < q := HIf.out.2 hle
              go_wp2
              go_roundw
              case rel => exact ⟨t + 1, by omega, by go_num, Lib.hid HBr.out⟩
              case measure => simp [intOf]; omega
            · have hle' : (kc : Int) < (ev : Int) := by omega
              have hnl : ¬ t < q := fun h => hle (HIf.out.1 h)
              obtain rfl : t = q := by omega
              clear hnl
              go_wp2
              go_meet
              exact ⟨rfl, HBr⟩
          · have htk' : (k : Int) ≤ (t : Int) := by omega
            obtain rfl : t = q := by omega
            go_wp2
            go_meet
            exact ⟨rfl, HBr⟩
      case rest =>
        obtain ⟨rfl, HBl⟩ := hcut
        have HBa := Lib.hid (HBw.out.trans ((HB3.out.trans (HBl.out.mono HB3.out.size)).mono HBw.out.size))
        have HSm : Hid (∀ V, Below wc.heap.size wc V → Calls Tryd.prog 16 #[.slice R q cR, .slice A q c] V fun e w' => e = .returned (.bool true) ∧ Below V.heap.size V w') := Lib.hid (fun V h =>
          same_true R A (la.take q) q cR c V HPa.out.1 ((HR3.out.later HBl.out).later h) ((HA.out.later (HBa.out.trans (h.mono HBa.out.size))).take q) (by unfold maxLen; omega))
        by_cases hq0 : q = 0
        · subst hq0
          obtain rfl : nn = 0 := HN0.out rfl
          go_wp2_with (first
            | (go_at_call 9; refine Calls.mono (by with_reducible exact HLi.out _ HBa.out) ?_; rintro e w4 ⟨rfl, hb⟩; have HB4 := Lib.hid hb; clear hb)
            | (go_at_call 16; refine Calls.mono (by with_reducible exact HSm.out _ HB4.out) ?_; rintro e w5 ⟨rfl, hb⟩; have HB5 := Lib.hid (HB4.out.trans (hb.mono HB4.out.size)); clear hb))
          go_ret
          exact ⟨rfl, HBa.out.trans (HB5.out.mono HBa.out.size)⟩
        · obtain ⟨t, rfl⟩ : ∃ t, q = t + 1 := ⟨q - 1, by omega⟩
          have hcell := HN1.out t rfl
          obtain ⟨g, rfl, hc⟩ := own_cell (HE3.out) rfl t (by omega)
          rw [hcell] at hc
          have c3 := cell_later HBl.out hc
          have htk' : (t : Int) < (k : Int) := by omega
          have ht0 : (0 : Int) ≤ (t : Int) := by omega
          clear hcell hc hq0
          go_wp2_with (first
            | (go_at_call 9; refine Calls.mono (by with_reducible exact HLi.out _ HBa.out) ?_; rintro e w4 ⟨rfl, hb⟩; have HB4 := Lib.hid hb; clear hb)
            | (go_at_call 16; refine Calls.mono (by with_reducible exact HSm.out _ HB4.out) ?_; rintro e w5 ⟨rfl, hb⟩; have HB5 := Lib.hid (HB4.out.trans (hb.mono HB4.out.size)); have c5 := cell_later HB5.out c3; clear hb))
          all_goals trace_state
          go_ret
          exact ⟨rfl, HBa.out.trans (HB5.out.mono HBa.out.size)⟩
end Go.Proofs.YtilbmbheancciaaDoor
