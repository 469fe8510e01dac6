/- The law FrameFinds: the walk. -/
import Derived.Test.YtilbmbheancciaaDoorFrO
set_option linter.unusedSimpArgs false
set_option linter.unusedVariables false
namespace Go.Proofs.YtilbmbheancciaaDoor
open Go.ChangeShapes Go.WideShapes Go.ChangeAt Go.RowKit Go.Base Go.Mx Go.Fr

def DR (w : World) (l : List (List UInt8)) (k : Nat) (X : Option Addr) (m cX : Nat) (wr : World) : Prop :=
  m = (framesB (l.take k)).length ∧ wr.ownsRow w.heap.size 5 1 (.slice X (framesB (l.take k)).length cX) (framesB (l.take k)).length ((framesB (l.take k)).map u8v) ∧ Short (l.take k) ∧ Below w.heap.size w wr
theorem DR.start (w : World) (l : List (List UInt8)) : DR w l 0 none 0 0 w := by
  refine ⟨rfl, World.ownsRow_nil _ _ _ _, fun p hp => ?_, Below.refl _ _⟩
  rw [List.take_zero] at hp; cases hp
theorem DR.next {w wr w' : World} {l : List (List UInt8)} {k m cX N cX' : Nat} {X X' : Option Addr} {p bs : List UInt8} (h : DR w l k X m cX wr) (hbs : bs = framesB (l.take k)) (hk : k < l.length) (hp : l[k] = p) (h65 : p.length ≤ 65536) (hN : N = (bs ++ frameB p).length)
    (ho : w'.ownsRow w.heap.size 5 1 (.slice X' (bs ++ frameB p).length cX') (bs ++ frameB p).length ((bs ++ frameB p).map u8v)) (hb : Below w.heap.size w w') :
    DR w l (k + 1) X' N cX' w' := by
  have e : framesB (l.take (k + 1)) = bs ++ frameB p := by rw [take_next hk, framesB_snoc, hp, hbs]
  refine ⟨by rw [e, hN], by rw [e]; exact ho, ?_, hb⟩
  rw [take_next hk]
  intro q hq
  rcases List.mem_append.1 hq with hq | hq
  · exact h.2.2.1 q hq
  · rw [List.mem_singleton.1 hq, hp]; exact h65
theorem tmod_bd1 (z : Int) (n : Nat) (h : 0 < n) : -(n : Int) < z.tmod (n : Int) ∧ z.tmod (n : Int) < n := by
  have h1 := Int.lt_tmod_of_pos z (b := (n : Int)) (by omega)
  have h2 := Int.tmod_lt_of_pos z (b := (n : Int)) (by omega)
  omega
theorem wrap64_two (r : Int) (sz : Nat) (hsz : sz ≤ 65536) (h1 : -(4 + (sz : Int)) < r) (hr : r < 0) : wrap64 (wrap64 (r + 4) + (sz : Int)) = ((r + 4 + (sz : Int)).toNat : Int) := by
  rw [Int.toNat_of_nonneg (by omega)]
  unfold wrap64; omega
def FI (la : List (List UInt8)) (wi k fr sz : Nat) : Prop := wi < k → fr = (framesB (la.take wi)).length ∧ ∃ h : wi < la.length, sz = la[wi].length
set_option maxHeartbeats 8000000 in
set_option maxRecDepth 20000 in
theorem law_finds1 (A : Option Addr) (la : List (List UInt8)) (na c : Nat) (zw za : Int) (tb : UInt8) (w : World) (hT : Tab w) (hA : Parts w A la) (hna : la.length = na) (hnc : na ≤ c) (hcm : c ≤ maxLen) (hw1 : -9223372036854775808 ≤ zw) (hw2 : zw ≤ 9223372036854775807) (hz1 : -9223372036854775808 ≤ za) (hz2 : za ≤ 9223372036854775807) :
    Calls Tryd.prog 6 #[.slice A na c, .int .i64 zw, .int .i64 za, .int .u8 (tb.toNat : Int)] w fun e w' => e = .returned (.bool true) ∧ Below w.heap.size w w' := by
  obtain ⟨i0, hi0, hy0, hy1, hy2⟩ := info_parts u8_info
  have HT := Lib.hid hT
  have HA := Lib.hid hA
  have HNA := Lib.hid hna
  unfold maxLen at hcm
  have hma' : (na : Int) ≤ 9223372036854775807 := by omega
  have hnc' : (na : Int) ≤ (c : Int) := by omega
  have hcm' : (c : Int) ≤ 9223372036854775807 := by omega
  have HLi := Lib.hid (fun V (h : Below w.heap.size w V) => lives_any V (HT.out.later h))
  have HBl := Lib.hid (Below.refl w.heap.size w)
  clear hT hA hna
  by_cases h0 : na = 0
  · subst h0
    go_enter Tryd.func6, Tryd.ntmps6
    go_wp2_with (go_at_call 9; refine Calls.mono (by with_reducible exact HLi.out _ HBl.out) ?_; rintro e w4 ⟨rfl, hb4⟩; have HB4 := Lib.hid (HBl.out.trans (hb4.mono HBl.out.size)); clear hb4)
    go_ret
    exact ⟨rfl, HB4.out⟩
  have hne : ¬ (na : Int) = 0 := by omega
  by_cases h40 : 40 < na
  · have h40' : (40 : Int) < (na : Int) := by omega
    go_enter Tryd.func6, Tryd.ntmps6
    go_wp2_with (go_at_call 9; refine Calls.mono (by with_reducible exact HLi.out _ HBl.out) ?_; rintro e w4 ⟨rfl, hb4⟩; have HB4 := Lib.hid (HBl.out.trans (hb4.mono HBl.out.size)); clear hb4)
    go_ret
    exact ⟨rfl, HB4.out⟩
  have h40' : (na : Int) ≤ 40 := by omega
  have hn0 : (0 : Int) < (na : Int) := by omega
  have hb0 : ((na : Int) == 0) = false := beq_eq_false_iff_ne.2 hne
  have hb4 : decide (40 < (na : Int)) = false := decide_eq_false (by omega)
  go_enter Tryd.func6, Tryd.ntmps6
  go_upto_if 32 with fail
  go_cut [9] from 27 to 36 (fun wv wx => ∃ wi : Nat, wi < na ∧ wv = .int .i64 (wi : Int) ∧ wx = w)
  case first =>
    have HB2 := Lib.hid (tmod_bd1 zw na (by omega))
    go_wp2
    · rename_i hr
      go_meet
      have := HB2.out
      refine ⟨(zw.tmod (na : Int) + na).toNat, by omega, ?_, rfl⟩
      rw [Int.toNat_of_nonneg (by omega)]
      first | rfl | (congr 1; unfold wrap64; omega)
    · rename_i hr
      go_meet
      exact ⟨(zw.tmod (na : Int)).toNat, by have := HB2.out; omega, by rw [Int.toNat_of_nonneg hr], rfl⟩
  case rest =>
    obtain ⟨wi, hwi, rfl, hWc⟩ := hcut
    subst hWc
    obtain ⟨Wb, hWb⟩ : ∃ V, V = wc := ⟨_, rfl⟩
    subst hWb
    have hwi' : (wi : Int) < (na : Int) := by omega
    go_wp2
    go_loopw [10, 11, 12, 13] (fun bv fv sv iv wr => ∃ (k m cX fr sz : Nat) (X : Option Addr), k ≤ na ∧ iv = .int .i64 (k : Int) ∧ bv = .slice X m cX ∧ fv = .int .i64 (fr : Int) ∧ sv = .int .i64 (sz : Int) ∧ Hid (DR Wb la k X m cX wr ∧ FI la wi k fr sz)) (fun _ _ _ iv _ => na - (intOf iv).toNat)
    case atStart => exact ⟨0, 0, 0, 0, 0, none, Nat.zero_le _, rfl, rfl, rfl, rfl, Lib.hid ⟨DR.start _ _, fun h => by omega⟩⟩
    case round =>
      obtain ⟨k, m, cX, fr, sz, X, hk, rfl, rfl, rfl, rfl, HJ⟩ := hrel
      have hkz : (0 : Int) ≤ (k : Int) := by omega
      have hml0 : m ≤ 2621760 := by rw [HJ.out.1.1]; exact short_len HJ.out.1.2.2.1 (by omega)
      by_cases hk1 : k < na
      · have hk1' : (k : Int) < (na : Int) := by omega
        have hkl : k < la.length := by have := HNA.out; omega
        obtain ⟨b, o, a, cap, rfl, c0, hy, hml⟩ := (HA.out.later HJ.out.1.2.2.2) k hkl
        obtain ⟨y, hye⟩ : ∃ y, y = la[k] := ⟨_, rfl⟩
        rw [← hye] at c0 hy hml
        have HKp : Hid (∃ h : k < la.length, la[k]'h = y) := Lib.hid ⟨hkl, hye.symm⟩
        obtain ⟨bs, hbs⟩ : ∃ b, b = framesB (la.take k) := ⟨_, rfl⟩
        have HBS := Lib.hid hbs
        have HO := Lib.hid HJ.out.1.2.1
        have e1 := HJ.out.1.1
        rw [← hbs] at HO e1
        subst e1
        have HBW := Lib.hid HJ.out.1.2.2.2
        have HYy := Lib.hid hy
        unfold maxLen at hml
        have hml' : (y.length : Int) ≤ 9223372036854775807 := by omega
        clear hye hkl hbs hy
        by_cases hl : 65536 < y.length
        · have hl' : (65536 : Int) < (y.length : Int) := by omega
          go_wp2_with (go_at_call 9; refine Calls.mono (by with_reducible exact HLi.out _ HBW.out) ?_; rintro e w4 ⟨rfl, hb4⟩; have HB4 := Lib.hid (HBW.out.trans (hb4.mono HBW.out.size)); clear hb4)
          go_ret
          exact ⟨rfl, HB4.out⟩
        · have hl' : (y.length : Int) ≤ 65536 := by omega
          have hln : y.length ≤ 65536 := by omega
          have hfl := frameB_len y
          have HFr : Hid (∀ V, Below wr.heap.size wr V → Calls Tryd.prog 11 #[.slice a y.length cap] V (FramePost y V)) := Lib.hid (fun V h => frame_any a y y.length cap V rfl (HYy.out.later h) hln)
          have hfl2 : (frameB y).length ≤ 65544 := by omega
          clear hfl
          by_cases hkw : k = wi
          · subst hkw
            go_wp2
            go_region_held3 (fun w' => w'.cell? ⟨b, o + k, none⟩ = some (.slice a y.length cap)) (((try dsimp only); exact c0)) (fail)
            all_goals
              have hBZ := (Below.refl wr.heap.size wr).drew
              go_wp2_with (first | (go_at_call 11; refine Calls.mono (by with_reducible exact HFr.out _ hBZ) ?_; rintro e w3 ⟨g3, G3, rfl, ho3, hb3, _, _⟩; have HF3 := Lib.hid (own_byt_any ho3); have HO3 := Lib.hid (own_below (own_below HO.out hBZ) hb3); have HB3 := Lib.hid ((HBW.out.trans (hBZ.mono HBW.out.size)).trans (hb3.mono (HBW.out.trans (hBZ.mono HBW.out.size)).size)); clear ho3 hb3) | (at_builtin; refine wpList_append_byt _ rfl (.tmp 60) (.tmp 65) 22 rfl 5 i0 Tryd.underlying22 hi0 hy0 hy1 hy2 Wb.heap.size _ bs rfl HO3.out (some ⟨g3, 0, none⟩) G3 (frameB y) rfl HF3.out (by omega) HB3.out.size ?_; intro A4 c4 w4 hown4 hgrow4 _; have HO4 := Lib.hid hown4; have HB4 := Lib.hid (HB3.out.grown hgrow4 HB3.out.size (fun k e => (HO3.out.lt k e).1)); clear hown4 hgrow4))
              go_roundw
              case rel => exact ⟨k + 1, _, c4, _, _, A4, by omega, by go_num, rfl, rfl, rfl, Lib.hid ⟨DR.next HJ.out.1 HBS.out HKp.out.1 HKp.out.2 hln (by simp) HO4.out HB4.out, fun h => ⟨by rw [HBS.out], HKp.out.1, by rw [HKp.out.2]⟩⟩⟩
              case measure => simp [intOf]; omega
          · have hkw' : ¬ (k : Int) = (wi : Int) := by omega
            have hkb : ((k : Int) == (wi : Int)) = false := beq_eq_false_iff_ne.2 hkw'
            have hBZ := Below.refl wr.heap.size wr
            go_wp2_with (first
              | (go_at_call 11; refine Calls.mono (by with_reducible exact HFr.out _ hBZ) ?_; rintro e w3 ⟨g3, G3, rfl, ho3, hb3, _, _⟩; have HF3 := Lib.hid (own_byt_any ho3); have HO3 := Lib.hid (own_below (own_below HO.out hBZ) hb3); have HB3 := Lib.hid ((HBW.out.trans (hBZ.mono HBW.out.size)).trans (hb3.mono (HBW.out.trans (hBZ.mono HBW.out.size)).size)); clear ho3 hb3)
              | (at_builtin; refine wpList_append_byt _ rfl (.tmp 60) (.tmp 65) 22 rfl 5 i0 Tryd.underlying22 hi0 hy0 hy1 hy2 Wb.heap.size _ bs rfl HO3.out (some ⟨g3, 0, none⟩) G3 (frameB y) rfl HF3.out (by omega) HB3.out.size ?_; intro A4 c4 w4 hown4 hgrow4 _; have HO4 := Lib.hid hown4; have HB4 := Lib.hid (HB3.out.grown hgrow4 HB3.out.size (fun k e => (HO3.out.lt k e).1)); clear hown4 hgrow4))
            go_roundw
            case rel => exact ⟨k + 1, _, c4, fr, sz, A4, by omega, by go_num, rfl, rfl, rfl, Lib.hid ⟨DR.next HJ.out.1 HBS.out HKp.out.1 HKp.out.2 hln (by simp) HO4.out HB4.out, fun h => HJ.out.2 (by omega)⟩⟩
            case measure => simp [intOf]; omega
      · obtain rfl : k = na := by omega
        obtain ⟨hfr, hwl, hsz⟩ := HJ.out.2 hwi
        have hsh := HJ.out.1.2.2.1
        have htk : la.take k = la := List.take_of_length_le (by rw [HNA.out]; exact Nat.le_refl _)
        have e1 := HJ.out.1.1
        have oX := HJ.out.1.2.1
        have HBw := Lib.hid HJ.out.1.2.2.2
        rw [htk] at hsh e1 oX
        have hsz6 : sz ≤ 65536 := by rw [hsz]; exact hsh _ (List.getElem_mem hwl)
        have HFl := Lib.hid (fun kk (hk : kk < 4 + sz) => finds_len la wi kk hwl (by rw [← hsz]; exact hk))
        have HFn := Lib.hid (fun kk (hk : kk < 4 + sz) (hc : (framesB la)[(framesB (la.take wi)).length + 4 + kk]? ≠ some tb) => finds_not la wi kk tb hwl hsh (by rw [← hsz]; exact hk) hc)
        have HJu := Lib.hid (And.intro (all_just la hsh) (whole_just la hsh))
        obtain ⟨bs, hbs⟩ : ∃ b, b = framesB la := ⟨_, rfl⟩
        rw [← hbs] at e1 oX HFl HFn HJu
        rw [← hfr] at HFl HFn
        have hw4 : IntKind.i64.wrap (4 + (sz : Int)) = 4 + (sz : Int) := by rw [IntKind.wrap_i64]; omega
        have hn4 : ¬ (4 + (sz : Int) = 0) := by omega
        have HOX := Lib.hid oX
        have HE1 := Lib.hid e1
        have HBd := Lib.hid (tmod_bd1 za (4 + sz) (by omega))
        have hcst : ((4 + sz : Nat) : Int) = 4 + (sz : Int) := by omega
        have HCs := Lib.hid hcst
        clear hfr hwl hsz hsh htk e1 oX hbs hcst
        go_upto_if 72 with fail
        go_cut [14] from 67 to 76 (fun kv wx => ∃ kk : Nat, kk < 4 + sz ∧ kv = .int .i64 (kk : Int) ∧ wx = wr)
        case first =>
          go_wp2
          · rename_i hr
            go_meet
            have hbd := HBd.out
            rw [HCs.out] at hbd
            generalize za.tmod (4 + (sz : Int)) = r at *
            exact ⟨(r + 4 + (sz : Int)).toNat, by omega, by rw [wrap64_two r sz hsz6 hbd.1 hr], rfl⟩
          · rename_i hr
            go_meet
            have hbd := HBd.out
            rw [HCs.out] at hbd
            generalize za.tmod (4 + (sz : Int)) = r at *
            exact ⟨r.toNat, by omega, by rw [Int.toNat_of_nonneg hr], rfl⟩
        case rest =>
          obtain ⟨kk, hkk, rfl, hWd⟩ := hcut
          subst hWd
          have hlt := HFl.out kk hkk
          have e1 := HE1.out
          subst e1
          obtain ⟨g, rfl, hgl, hgm, hgb⟩ := own_some HOX.out (by omega)
          have hyX := own_byt_any HOX.out
          have cq := hyX.at_ (k := fr + 4 + kk) hlt
          rw [Nat.zero_add] at cq
          obtain ⟨v, hv⟩ : ∃ v, v = bs[fr + 4 + kk] := ⟨_, rfl⟩
          have hv2 : bs[fr + 4 + kk]? = some v := by rw [List.getElem?_eq_getElem hlt, hv]
          have c1 : wc.cell? ⟨g, fr + 4 + kk, none⟩ = some (.int .u8 (v.toNat : Int)) := by rw [cq, hv]; try rfl
          have HB2 : Hid (Below Wb.heap.size Wb (wc.setCell ⟨g, fr + 4 + kk, none⟩ (.int .u8 (tb.toNat : Int)))) := Lib.hid (HBw.out.setCell hgb _)
          have hAl0 := all_any (some ⟨g, 0, none⟩) (bs.set (fr + 4 + kk) tb) bs.length cX _ (by rw [List.length_set]) (HT.out.later HB2.out) (byt_set (c := tb) hyX hlt) hgl hgm (.inr ⟨g, 0, rfl⟩) (by omega)
          have hAs : v = tb → Calls Tryd.prog 14 #[.slice (some ⟨g, 0, none⟩) bs.length cX] (wc.setCell ⟨g, fr + 4 + kk, none⟩ (.int .u8 (tb.toNat : Int))) (AllIs la k (bs.length : Int) (wc.setCell ⟨g, fr + 4 + kk, none⟩ (.int .u8 (tb.toNat : Int)))) := fun h => hAl0.mono fun e w' ⟨R, cr, he, hp, hbw, _⟩ => by
            have eb : bs.set (fr + 4 + kk) tb = bs := by rw [← h, hv]; exact List.set_getElem_self hlt
            rw [eb, HJu.out.1, HJu.out.2] at he
            rw [eb, HJu.out.1] at hp
            exact ⟨R, cr, by rw [he, HNA.out], hp, hbw⟩
          have hAn : ¬ v = tb → Calls Tryd.prog 14 #[.slice (some ⟨g, 0, none⟩) bs.length cX] (wc.setCell ⟨g, fr + 4 + kk, none⟩ (.int .u8 (tb.toNat : Int))) (AllIs (la.take wi) wi (fr : Int) (wc.setCell ⟨g, fr + 4 + kk, none⟩ (.int .u8 (tb.toNat : Int)))) := fun h => hAl0.mono fun e w' ⟨R, cr, he, hp, hbw, _⟩ => by
            obtain ⟨i1, i2⟩ := HFn.out kk hkk (by rw [hv2]; intro e; injection e with e; exact h e)
            rw [i1, i2] at he
            rw [i1] at hp
            exact ⟨R, cr, by rw [he, List.length_take, HNA.out, Nat.min_eq_left (by omega)], hp, hbw⟩
          have hlt' : (fr : Int) + 4 + (kk : Int) < (bs.length : Int) := by omega
          have hge : (0 : Int) ≤ (fr : Int) + 4 + (kk : Int) := by omega
          have hwA : IntKind.i64.wrap ((fr : Int) + 4) = (fr : Int) + 4 := by rw [IntKind.wrap_i64]; omega
          have hwB : IntKind.i64.wrap ((fr : Int) + 4 + (kk : Int)) = (fr : Int) + 4 + (kk : Int) := by rw [IntKind.wrap_i64]; omega
          have htn : ((fr : Int) + 4 + (kk : Int)).toNat = fr + 4 + kk := by omega
          have hwl : (la.take wi).length = wi := by rw [List.length_take, HNA.out]; omega
          have HWl := Lib.hid hwl
          have hfz := (own_byt HOX.out).2.1 (fr + 4 + kk) hlt
          have HC1 := Lib.hid c1
          have hwc : (wi : Int) ≤ (c : Int) := by omega
          have hbl : (bs.length : Int) ≤ 2621760 := by omega
          clear hwl hyX hv hv2 hAl0 cq
          by_cases hs : v = tb
          · have HAl := Lib.hid (hAs hs)
            subst hs
            clear hAs hAn
            go_wp2_with (first
              | (go_at_call 14; refine Calls.mono (by with_reducible exact HAl.out) ?_; rintro e w6 ⟨R, cR, rfl, hR, hb⟩; have HBl := Lib.hid (HB2.out.trans (hb.mono HB2.out.size)); have HR := Lib.hid hR; clear hR hb)
              | (go_at_call 9; refine Calls.mono (by with_reducible exact HLi.out _ HBl.out) ?_; rintro e w7 ⟨rfl, hb⟩; have HR := Lib.hid (HR.out.later hb); have HBl := Lib.hid (HBl.out.trans (hb.mono HBl.out.size)); clear hb))
            go_ret
            exact ⟨rfl, HBl.out⟩
          · have HAl := Lib.hid (hAn hs)
            have hvb : ((v.toNat : Int) == (tb.toNat : Int)) = false := by
              rw [beq_eq_false_iff_ne]
              intro e
              exact hs (UInt8.toNat_inj.1 (by omega))
            clear hAs hAn hs
            go_wp2_with (first
              | (go_at_call 14; refine Calls.mono (by with_reducible exact HAl.out) ?_; rintro e w6 ⟨R, cR, rfl, hR, hb⟩; have HBl := Lib.hid (HB2.out.trans (hb.mono HB2.out.size)); have HR := Lib.hid hR; clear hR hb)
              | (go_at_call 9; refine Calls.mono (by with_reducible exact HLi.out _ HBl.out) ?_; rintro e w7 ⟨rfl, hb⟩; have HR := Lib.hid (HR.out.later hb); have HBl := Lib.hid (HBl.out.trans (hb.mono HBl.out.size)); clear hb)
              | (go_at_call 16; refine Calls.mono (same_true R A (la.take wi) wi cR c _ HWl.out HR.out ((HA.out.later HBl.out).take wi) (by unfold maxLen; omega)) ?_; rintro e w8 ⟨rfl, hb⟩; have HBl := Lib.hid (HBl.out.trans (hb.mono HBl.out.size)); clear hb))
            go_ret
            exact ⟨rfl, HBl.out⟩
theorem law_finds (A : Option Addr) (la : List (List UInt8)) (na c : Nat) (zw za : Int) (tb : Nat) (w : World) (hT : Tab w) (hA : Parts w A la) (hna : la.length = na) (hnc : na ≤ c) (hcm : c ≤ maxLen) (hw1 : -9223372036854775808 ≤ zw) (hw2 : zw ≤ 9223372036854775807) (hz1 : -9223372036854775808 ≤ za) (hz2 : za ≤ 9223372036854775807) (htb : tb < 256) :
    Calls Tryd.prog 6 #[.slice A na c, .int .i64 zw, .int .i64 za, .int .u8 (tb : Int)] w fun e w' => e = .returned (.bool true) ∧ Below w.heap.size w w' := by
  have e : (UInt8.ofNat tb).toNat = tb := by simp; omega
  have := law_finds1 A la na c zw za (UInt8.ofNat tb) w hT hA hna hnc hcm hw1 hw2 hz1 hz2
  rw [e] at this
  exact this
end Go.Proofs.YtilbmbheancciaaDoor
