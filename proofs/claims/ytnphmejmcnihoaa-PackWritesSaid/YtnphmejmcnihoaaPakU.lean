/- Walk of the law of package pack on what is written. -/
import Derived.Test.YtnphmejmcnihoaaPakT
import Derived.Deep.RegionHeld3
set_option linter.unusedSimpArgs false
set_option linter.unusedVariables false
namespace Go.Proofs.Ytnphmejmcnihoaa
open Go.ChangeShapes Go.WideShapes Go.ChangeAt Go.RowKit Go.Base Go.Pk

theorem refNumber_int (z : Int) (n : Nat) (w : World) (hz : z = (n : Int)) (hn : n < 18446744073709551616) :
    Calls Try.prog 13 #[.int .u64 z] w (FreshPost w (numB n)) := by
  subst hz; exact refNumber_any n w hn
theorem Box.later {w w' : World} {g : Nat} {cs : Array Value} (h : Box w g cs) (hb : Below w.heap.size w w') : Box w' g cs := (hb.block g (heap_lt h)).trans h
theorem Two.bad {W w : World} {s sx : Option (List UInt8)} (h : Two W w s sx) : w.cell? ⟨W.heap.size + 1, 1, none⟩ = some (.bool sx.isNone) := by
  obtain ⟨_, _, _, ⟨A, n, c, hb, _⟩, _⟩ := h
  have := (cells_of_heap hb).1 1
  simpa using this
theorem two_new (w : World) : Two w ((w.alloc (.cells #[.slice none 0 0, .bool false] 64)).alloc (.cells #[.slice none 0 0, .bool false] 28)) (some []) (some []) := by
  have h1 := rpk_new (w.alloc (.cells #[.slice none 0 0, .bool false] 64))
  rw [size_alloc] at h1
  exact ⟨none, none, (pak_new w).later (below_alloc _ _), h1, (below_alloc w _).alloc (by simp) _, (fun k h => by cases h), (fun k h => by cases h)⟩

def TwoDone (W : World) (s : Option (List UInt8)) (e : Ending) (w' : World) : Prop :=
  ∃ A n c, e = .returned (.tuple #[.slice A n c, .int .i64 (if s.isNone then 3 else 0)]) ∧ Two W w' s s ∧ n = (s.getD []).length ∧ Byt w' A (s.getD [])
theorem two_done {W w : World} {s : Option (List UInt8)} (h : Two W w s s) : Calls Try.prog 22 #[.pointer (some ⟨W.heap.size, 0, none⟩)] w (TwoDone W s) := by
  obtain ⟨row, rowx, hp, hx, hB, hr, hrx⟩ := h
  exact (done_any W.heap.size s row w hp).mono fun e w' ⟨A, n, c, he, hb', hn, hy, hk⟩ => ⟨A, n, c, he, Two.later ⟨row, rowx, hp, hx, hB, hr, hrx⟩ hb', hn, hy⟩

set_option maxHeartbeats 40000000 in
set_option maxRecDepth 20000 in
theorem law_writes (p : Option Addr) (l : List OpD) (c : Nat) (w : World) (hy : Ops w p l) (hm : l.length ≤ maxLen) :
    Calls Try.prog 3 #[.slice p l.length c] w fun e w' => e = .returned (.bool true) ∧ Below w.heap.size w w' := by
  have HY := Lib.hid hy
  unfold maxLen at hm
  have hm' : (l.length : Int) ≤ 9223372036854775807 := by omega
  clear hy hm
  go_enter Try.func3, Try.ntmps3
  go_wp2_with (first | (go_at_call 9; refine (new_any _).mono ?_; rintro e w1 ⟨rfl, rfl⟩) | (go_at_call 10; refine (lives_any _).mono ?_; rintro e w2 ⟨rfl, hb⟩; have HP2 := Lib.hid ((two_new w).later hb); clear hb))
  go_loopw [5] (fun i wr => ∃ k : Nat, k ≤ l.length ∧ i = .int .i64 (k : Int) ∧ Two w wr (putWs (l.take k)) (putWs (l.take k))) (fun i _ => l.length - (intOf i).toNat)
  case atStart => exact ⟨0, Nat.zero_le _, rfl, HP2.out⟩
  case round =>
    obtain ⟨k, hk, rfl, hp⟩ := hrel
    have HPk := Lib.hid hp
    clear hp
    by_cases hlt : k < l.length
    · have hlt' : (k : Int) < (l.length : Int) := by omega
      have HPP := Lib.hid (putWs_succ l k hlt)
      have hlt1 : l.length - (k + 1) < l.length - k := by omega
      obtain ⟨b, o, rfl, ⟨k0, k1, k2, k3, k4⟩, hfit⟩ := (HY.out.later HPk.out.below) k hlt
      have hfit0 := (HY.out.at_ hlt).2
      generalize l[k] = x at *
      obtain ⟨kind, n, is, text, la, ll, lc⟩ := x
      obtain ⟨f1, f2, f3, f4, f5, hli, hlm⟩ := hfit
      have hli0 := hfit0.l
      clear hfit0
      simp only at k0 k1 k2 k3 k4 f1 f2 f3 f4 f5 hli hlm hli0
      have H2 : Hid (Two w (wr.alloc (.cells #[.int .i64 kind, .int .i64 n, .bool is, .string text, .slice la ll.length lc] 32)) (putWs (l.take k)) (putWs (l.take k))) := Lib.hid (HPk.out.later (below_alloc _ _))
      have B2 : Hid (Box (wr.alloc (.cells #[.int .i64 kind, .int .i64 n, .bool is, .string text, .slice la ll.length lc] 32)) wr.heap.size #[.int .i64 kind, .int .i64 n, .bool is, .string text, .slice la ll.length lc]) := Lib.hid (heap_new _ _)
      have HLI : Hid (Ints (wr.alloc (.cells #[.int .i64 kind, .int .i64 n, .bool is, .string text, .slice la ll.length lc] 32)) la ll) := Lib.hid (hli.later (below_alloc _ _))
      have HLM := Lib.hid hlm
      have HLN : Hid (ll.length ≤ 9223372036854775807) := Lib.hid (by unfold maxLen at hlm; omega)
      have HLA : Hid (∀ (row : Option Nat), (∀ k, row = some k → w.heap.size + 2 ≤ k) → ∀ b o, la = some ⟨b, o, none⟩ → 0 < ll.length → b ≠ w.heap.size ∧ row ≠ some b) := Lib.hid (fun row hrw b o e hl => by
        obtain ⟨b', o', e', hc, _⟩ := hli0 0 hl
        rw [e] at e'; injection e' with e'; injection e' with e1 e2 _; subst e1; subst e2
        have := World.block_lt_of_cell? w _ hc
        simp only at this
        exact ⟨by omega, fun e => by have := hrw _ e; omega⟩)
      have HL0 := Lib.hid hli0
      clear hli hlm hli0
      generalize putWs (l.take k) = S at *
      by_cases h1 : kind = 1
      · subst h1
        go_wp2_with (first | (go_at_call 11; refine (Two.pcall H2.out B2.out (fun row h hrw => number_int _ _ row _ (u64N n) _ (u64N_wrap n) h (u64N_lt n))).mono ?_; rintro e w3 ⟨rfl, h2, hbx⟩; have H3 := Lib.hid h2; have B3 := Lib.hid hbx; obtain ⟨dd, _df⟩ := cells_of_heap hbx; have d0 := dd 0; have d1 := dd 1; have d2 := dd 2; have d3 := dd 3; have d4 := dd 4; clear dd _df; clear h2 hbx) | (go_at_call 13; refine (refNumber_int _ (u64N n) _ (u64N_wrap n) (u64N_lt n)).mono ?_; rintro e w4 ⟨A4, n4, c4, rfl, rfl, hown, hb⟩; have HY4 := Lib.hid (own_byt_any hown); have H4 := Lib.hid (H3.out.later hb); have hbx := B3.out.later hb; have B4 := Lib.hid hbx; obtain ⟨dd, _df⟩ := cells_of_heap hbx; have d0 := dd 0; have d1 := dd 1; have d2 := dd 2; have d3 := dd 3; have d4 := dd 4; clear dd _df; clear hb hown hbx) | (go_at_call 12; refine (Two.xcall H4.out B4.out (fun row h => refNum_any _ _ row A4 (u64N n) _ c4 _ (u64N_lt n) rfl h HY4.out)).mono ?_; rintro e w5 ⟨rfl, h2, hbx⟩; have H5 := Lib.hid h2; have B5 := Lib.hid hbx; obtain ⟨dd, _df⟩ := cells_of_heap hbx; have d0 := dd 0; have d1 := dd 1; have d2 := dd 2; have d3 := dd 3; have d4 := dd 4; clear dd _df; clear h2 hbx))
        go_roundw
        case rel => exact ⟨k + 1, by omega, by go_num, by rw [HPP.out]; exact H5.out⟩
        case measure => simp [intOf]; omega
      · have b1 : (kind == 1) = false := by rw [beq_eq_false_iff_ne]; exact h1
        by_cases h2 : kind = 2
        · subst h2
          go_wp2_with (first | (go_at_call 14; refine (Two.pcall H2.out B2.out (fun row h hrw => int_any _ _ row n _ h f3 f4)).mono ?_; rintro e w3 ⟨rfl, h2, hbx⟩; have H3 := Lib.hid h2; have B3 := Lib.hid hbx; obtain ⟨dd, _df⟩ := cells_of_heap hbx; have d0 := dd 0; have d1 := dd 1; have d2 := dd 2; have d3 := dd 3; have d4 := dd 4; clear dd _df; clear h2 hbx) | (go_at_call 15; refine (Two.xcall H3.out B3.out (fun row h => refInt_any _ _ row n _ h f3 f4)).mono ?_; rintro e w5 ⟨rfl, h2, hbx⟩; have H5 := Lib.hid h2; have B5 := Lib.hid hbx; obtain ⟨dd, _df⟩ := cells_of_heap hbx; have d0 := dd 0; have d1 := dd 1; have d2 := dd 2; have d3 := dd 3; have d4 := dd 4; clear dd _df; clear h2 hbx))
          go_roundw
          case rel => exact ⟨k + 1, by omega, by go_num, by rw [HPP.out]; exact H5.out⟩
          case measure => simp [intOf]; omega
        · have b2 : (kind == 2) = false := by rw [beq_eq_false_iff_ne]; exact h2
          by_cases h3 : kind = 3
          · subst h3
            go_wp2_with (first | (go_at_call 16; refine (Two.pcall H2.out B2.out (fun row h hrw => flag_any _ _ row is _ h)).mono ?_; rintro e w3 ⟨rfl, h2, hbx⟩; have H3 := Lib.hid h2; have B3 := Lib.hid hbx; obtain ⟨dd, _df⟩ := cells_of_heap hbx; have d0 := dd 0; have d1 := dd 1; have d2 := dd 2; have d3 := dd 3; have d4 := dd 4; clear dd _df; clear h2 hbx) | (go_at_call 17; refine (Two.xcall H3.out B3.out (fun row h => refFlag_any _ _ row is _ h)).mono ?_; rintro e w5 ⟨rfl, h2, hbx⟩; have H5 := Lib.hid h2; have B5 := Lib.hid hbx; obtain ⟨dd, _df⟩ := cells_of_heap hbx; have d0 := dd 0; have d1 := dd 1; have d2 := dd 2; have d3 := dd 3; have d4 := dd 4; clear dd _df; clear h2 hbx))
            go_roundw
            case rel => exact ⟨k + 1, by omega, by go_num, by rw [HPP.out]; exact H5.out⟩
            case measure => simp [intOf]; omega
          · have b3 : (kind == 3) = false := by rw [beq_eq_false_iff_ne]; exact h3
            by_cases h4 : kind = 4
            · subst h4
              go_wp2_with (first | (go_at_call 18; refine (Two.pcall H2.out B2.out (fun row h hrw => text_any _ _ row text _ h f5)).mono ?_; rintro e w3 ⟨rfl, h2, hbx⟩; have H3 := Lib.hid h2; have B3 := Lib.hid hbx; obtain ⟨dd, _df⟩ := cells_of_heap hbx; have d0 := dd 0; have d1 := dd 1; have d2 := dd 2; have d3 := dd 3; have d4 := dd 4; clear dd _df; clear h2 hbx) | (go_at_call 19; refine (Two.xcall H3.out B3.out (fun row h => refText_any _ _ row text _ h f5)).mono ?_; rintro e w5 ⟨rfl, h2, hbx⟩; have H5 := Lib.hid h2; have B5 := Lib.hid hbx; obtain ⟨dd, _df⟩ := cells_of_heap hbx; have d0 := dd 0; have d1 := dd 1; have d2 := dd 2; have d3 := dd 3; have d4 := dd 4; clear dd _df; clear h2 hbx))
              go_roundw
              case rel => exact ⟨k + 1, by omega, by go_num, by rw [HPP.out]; exact H5.out⟩
              case measure => simp [intOf]; omega
            · have b4 : (kind == 4) = false := by rw [beq_eq_false_iff_ne]; exact h4
              by_cases h5 : kind = 5
              · subst h5
                go_wp2_with (first | (go_at_call 20; refine (Two.pcall H2.out B2.out (fun row h hrw => putList_int _ _ row la ll lc _ h HLI.out HLM.out (fun b o e hl => HLA.out row hrw b o e hl))).mono ?_; rintro e w3 ⟨rfl, h2, hbx⟩; have H3 := Lib.hid h2; have B3 := Lib.hid hbx; obtain ⟨dd, _df⟩ := cells_of_heap hbx; have d0 := dd 0; have d1 := dd 1; have d2 := dd 2; have d3 := dd 3; have d4 := dd 4; clear dd _df; clear h2 hbx) | (go_at_call 21; refine (Two.xcall H3.out B3.out (fun row h => refCount_any _ _ row ll.length _ h HLN.out)).mono ?_; rintro e w5 ⟨rfl, h2, hbx⟩; have H5 := Lib.hid h2; have B5 := Lib.hid hbx; obtain ⟨dd, _df⟩ := cells_of_heap hbx; have d0 := dd 0; have d1 := dd 1; have d2 := dd 2; have d3 := dd 3; have d4 := dd 4; clear dd _df; clear h2 hbx))
                have H50 : Hid (Two w w5 (putList S ll) (cntX S ll 0)) := H5
                clear H5 H3 B3 H2 B2 HPk hk
                obtain ⟨wo, hwo⟩ : ∃ wo : World, wo = wr := ⟨_, rfl⟩
                subst hwo
                have HBX5 := B5
                clear d0 d1 d2 d3 d4 B5
                have hln : (ll.length : Int) ≤ 9223372036854775807 := by have := HLN.out; omega
                go_loopw [7] (fun i wr => ∃ j : Nat, j ≤ ll.length ∧ i = .int .i64 (j : Int) ∧ Two w wr (putList S ll) (cntX S ll j) ∧ Box wr wo.heap.size #[.int .i64 5, .int .i64 n, .bool is, .string text, .slice la ll.length lc]) (fun i _ => ll.length - (intOf i).toNat)
                case atStart => exact ⟨0, Nat.zero_le _, rfl, H50.out, HBX5.out⟩
                case round =>
                  obtain ⟨j, hj, rfl, h2, hbx⟩ := hrel
                  have H6 := Lib.hid h2
                  have B6 := Lib.hid hbx
                  obtain ⟨dd, _df⟩ := cells_of_heap hbx
                  have d4 := dd 4
                  have hbad := h2.bad
                  clear dd _df H50 HBX5
                  by_cases hjl : j < ll.length
                  · have hjl' : (j : Int) < (ll.length : Int) := by omega
                    have HX1 := Lib.hid (cntX_succ S ll j hjl)
                    obtain ⟨b9, o9, rfl, hcx, hx1, hx2⟩ := (HL0.out.later h2.below) j hjl
                    generalize ll[j] = x at *
                    clear h2 hbx
                    cases hs : cntX S ll j with
                    | none =>
                      rw [hs] at hbad
                      have HS2 : Hid (Two w wr (putList S ll) (putList S ll)) := Lib.hid (by have := H6.out; rw [hs, ← cntX_stop S ll j hs] at this; rwa [cntX_stop S ll j hs] at this ⊢)
                      clear hs hcx
                      go_wp2
                      go_roundw
                      case rel => exact ⟨k + 1, by omega, by go_num, by rw [HPP.out]; exact HS2.out⟩
                      case measure => simp [intOf]; omega
                    | some zs =>
                      have HZ := Lib.hid hs
                      rw [hs] at hbad
                      clear hs
                      go_wp2_with (go_at_call 15; refine (Two.xcall H6.out B6.out (fun row h => refInt_any _ _ row x _ h hx1 hx2)).mono ?_; rintro e w7 ⟨rfl, h2, hbx⟩; have H7 := Lib.hid h2; have B7 := Lib.hid hbx; clear h2 hbx)
                      go_roundw
                      case rel => exact ⟨j + 1, by omega, by go_num, by rw [HX1.out]; exact H7.out, B7.out⟩
                      case measure => simp [intOf]; omega
                  · obtain rfl : j = ll.length := by omega
                    have HS2 : Hid (Two w wr (putList S ll) (putList S ll)) := Lib.hid (by rw [cntX_all] at h2; exact h2)
                    clear h2 hbx
                    go_wp2
                    go_roundw
                    case rel => exact ⟨k + 1, by omega, by go_num, by rw [HPP.out]; exact HS2.out⟩
                    case measure => simp [intOf]; omega
              · have b5 : (kind == 5) = false := by rw [beq_eq_false_iff_ne]; exact h5
                have HPP2 : Hid (putWs (l.take (k + 1)) = S) := Lib.hid (by rw [HPP.out]; unfold putW; simp only [if_neg h1, if_neg h2, if_neg h3, if_neg h4, if_neg h5])
                go_wp2
                go_roundw
                case rel => exact ⟨k + 1, by omega, by go_num, by rw [HPP2.out]; exact H2.out⟩
                case measure => simp [intOf]; omega
    · obtain rfl : k = l.length := by omega
      have hpe : Two w wr (putWs l) (putWs l) := by have := HPk.out; rwa [List.take_length] at this
      clear HPk hlt hk
      cases hs : putWs l with
      | none =>
        rw [hs] at hpe
        have HPe := Lib.hid hpe
        clear hs hpe
        go_wp2_with (go_at_call 22; refine (two_done HPe.out).mono ?_; rintro e w5 ⟨A5, n5, c5, rfl, h5, rfl, hy5⟩; have H5 := Lib.hid h5; have HY5 := Lib.hid hy5; have hbad := h5.bad; clear h5 hy5; simp only [Option.getD_none, Option.getD_some, Option.isNone_none, Option.isNone_some, Bool.false_eq_true, if_true, if_false, List.length_nil])
        go_ret
        exact ⟨rfl, H5.out.below⟩
      | some xs =>
        rw [hs] at hpe
        have HPe := Lib.hid hpe
        clear hs hpe
        go_wp2_with (go_at_call 22; refine (two_done HPe.out).mono ?_; rintro e w5 ⟨A5, n5, c5, rfl, h5, rfl, hy5⟩; have H5 := Lib.hid h5; have HY5 := Lib.hid hy5; have hbad := h5.bad; clear h5 hy5; simp only [Option.getD_none, Option.getD_some, Option.isNone_none, Option.isNone_some, Bool.false_eq_true, if_true, if_false, List.length_nil])
        obtain ⟨row, rowx, _, ⟨Ax, nx, cx, hbx, _, hx1⟩, _⟩ := H5.out
        obtain ⟨rfl, _, hyx, _, _⟩ := hx1 xs rfl
        have e0 : w5.cell? ⟨w.heap.size + 1, 0, none⟩ = some (.slice Ax xs.length cx) := by rw [(cells_of_heap hbx).1 0]; rfl
        have HYX := Lib.hid hyx
        clear hbx hx1 hyx
        go_region_held3 (fun w' => w'.cell? ⟨w.heap.size + 1, 0, none⟩ = some (.slice Ax xs.length cx) ∧ (convert 26 9 (.slice A5 xs.length c5)).run Try.prog w' = .ok (.string ⟨xs.toArray⟩) w' ∧ (convert 26 9 (.slice Ax xs.length cx)).run Try.prog w' = .ok (.string ⟨xs.toArray⟩) w') (((try dsimp only); exact And.intro e0 (And.intro (run_convert_byt Try.underlying26 Try.underlying5 Try.underlying9 xs.length c5 rfl (show Byt _ _ _ from HY5.out)) (run_convert_byt Try.underlying26 Try.underlying5 Try.underlying9 xs.length cx rfl (show Byt _ _ _ from HYX.out))))) (fail)
        all_goals
          go_wp2
          go_ret
          exact ⟨rfl, H5.out.below.drew⟩
end Go.Proofs.Ytnphmejmcnihoaa
