/- Walks of the reference of package frame: four, Frame; of the laws' own look: Same. -/
import Derived.Test.YtilbmbheancciaaDoorFrG
import Derived.Deep.RegionHeld3
set_option linter.unusedSimpArgs false
set_option linter.unusedVariables false
namespace Go.Proofs.YtilbmbheancciaaDoor
open Go.ChangeShapes Go.WideShapes Go.ChangeAt Go.RowKit Go.Base Go.Mx Go.Fr

set_option maxHeartbeats 1000000 in
theorem four_any (n : Nat) (w : World) (hn : n < 4294967296) :
    Calls Tryd.prog 20 #[.int .i64 n] w (NumPost n w) := by
  have hn63 : (n : Int) ≤ 9223372036854775807 := by omega
  have hn0 : (0 : Int) ≤ (n : Int) := by omega
  have hb : (n : Int) < 4294967296 := by omega
  go_enter Tryd.func20, Tryd.ntmps20
  go_wp2
  go_ret
  refine ⟨rfl, ?_, below_alloc _ _, by simp⟩
  rw [← cells4 n hn]
  exact heap_new _ _
def FramePost (p : List UInt8) (w : World) (e : Ending) (w' : World) : Prop := ∃ g G, e = .returned (.slice (some ⟨g, 0, none⟩) (frameB p).length G) ∧ w'.ownsRow w.heap.size 5 1 (.slice (some ⟨g, 0, none⟩) (frameB p).length G) (frameB p).length ((frameB p).map u8v) ∧ Below w.heap.size w w' ∧ (frameB p).length ≤ G ∧ G ≤ maxLen
theorem num_own {w' : World} {n k base : Nat} (h : w'.heap[k]? = some (.cells ((num4 n).map u8v).toArray 5 (0, 0))) (hb : base ≤ k) : w'.ownsRow base 5 1 (.slice (some ⟨k, 0, none⟩) 4 4) (num4 n).length ((num4 n).map u8v) :=
  ⟨by simp, .inr ⟨k, 4, _, rfl, hb, h, Nat.le_refl _, by unfold maxLen; decide, by simp [num4_len], by rw [List.toList_toArray, List.take_of_length_le (by simp)]⟩⟩
set_option maxHeartbeats 4000000 in
theorem frame_any (A : Option Addr) (p : List UInt8) (n c : Nat) (w : World) (hn : p.length = n) (hp : Byt w A p) (h65 : n ≤ 65536) :
    Calls Tryd.prog 11 #[.slice A n c] w (FramePost p w) := by
  subst hn
  obtain ⟨i0, hi0, hz0, hz1, hz2⟩ := info_parts u8_info
  have HP := Lib.hid hp
  have HFr : Hid (frameB p = num4 p.length ++ num4 (sumF p) ++ p) := Lib.hid rfl
  have HSm : Hid (sumF p = sum (num4 p.length ++ p)) := Lib.hid rfl
  have HF1 := Lib.hid (four_any p.length w (by omega))
  have HF2 := Lib.hid (fun V => four_any (sumF p) V (sumF_lt p))
  have hs63 := sumF_lt p
  have h65' : (p.length : Int) ≤ 65536 := by omega
  have hsm' : (sumF p : Int) < 4294967296 := by omega
  have hfl : (num4 p.length).length = 4 := rfl
  clear hp
  go_enter Tryd.func11, Tryd.ntmps11
  go_wp2_with (first
    | (go_at_call 20; refine Calls.mono (by with_reducible exact HF1.out) ?_; rintro e w1 ⟨rfl, hh, hb, hz⟩; have HH1 := Lib.hid hh; have HB1 := Lib.hid hb; have HZ1 := Lib.hid hz; clear hh hb hz)
    | (at_builtin; refine wpList_append_byt _ rfl (.tmp 8) (.tmp 9) 22 rfl 5 i0 Tryd.underlying22 hi0 hz0 hz1 hz2 w1.heap.size _ [] rfl (World.ownsRow_made w1 #[] 0 (Nat.le_refl _) (Nat.zero_le _) rfl) (some ⟨w.heap.size, 0, none⟩) 4 (num4 p.length) rfl ((num4_byt HH1.out).alloc _) (by rw [num4_len]; simp) (by simp) ?_; intro A2 c2 w2 hown2 hgrow2 _; have HO2 := Lib.hid hown2; have HB2 := Lib.hid ((below_alloc w1 (.cells #[] 5)).grown hgrow2 (by simp) (fun k e => by injection e with e; exact Nat.le_of_eq e)); clear hown2 hgrow2)
    | (at_builtin; refine wpList_append_byt _ rfl (.tmp 10) (.tmp 11) 22 rfl 5 i0 Tryd.underlying22 hi0 hz0 hz1 hz2 w1.heap.size _ ([] ++ num4 p.length) rfl HO2.out A c p rfl (HP.out.later (HB1.out.trans (HB2.out.mono HB1.out.size))) (by simp [num4_len]; omega) (by have := HB2.out.size; omega) ?_; intro A3 c3 w3 hown3 hgrow3 _; simp only [List.nil_append] at hown3; have HY3 := Lib.hid (own_byt_any hown3); have HB3 := Lib.hid (HB2.out.grown hgrow3 HB2.out.size (fun k e => (HO2.out.lt k e).1)); have HH3 := Lib.hid ((HB3.out.block _ (heap_lt HH1.out)).trans HH1.out); have HBw3 := Lib.hid (HB1.out.trans (HB3.out.mono HB1.out.size)); have HLn := Lib.hid (show 4 + p.length = (num4 p.length ++ p).length by rw [List.length_append, num4_len]); clear hown3 hgrow3)
    | (go_at_call 21; refine Calls.mono (refSum_len A3 (num4 p.length ++ p) (4 + p.length) c3 w3 HLn.out HY3.out (by rw [← HLn.out]; unfold maxLen; omega)) ?_; rw [← HSm.out]; rintro e w9 ⟨rfl, rfl⟩)
    | (go_at_call 20; refine Calls.mono (by with_reducible exact HF2.out _) ?_; rintro e w4 ⟨rfl, hh, hb, hz⟩; have HH4 := Lib.hid hh; have HB4 := Lib.hid (HBw3.out.trans (hb.mono HBw3.out.size)); have HH5 := Lib.hid ((hb.block _ (heap_lt HH3.out)).trans HH3.out); clear hh hb hz)
    | (at_builtin; refine wpList_append_byt _ rfl (.tmp 14) (.tmp 17) 22 rfl 5 i0 Tryd.underlying22 hi0 hz0 hz1 hz2 w.heap.size (.slice (some ⟨w.heap.size, 0, none⟩) 4 4) (num4 p.length) rfl (num_own HH5.out (Nat.le_refl _)) (some ⟨w3.heap.size, 0, none⟩) 4 (num4 (sumF p)) rfl (num4_byt HH4.out) (by rw [num4_len, num4_len]; omega) HB4.out.size ?_; intro A5 c5 w5 hown5 hgrow5 _; have HO5 := Lib.hid hown5; have HB5 := Lib.hid (HB4.out.grown hgrow5 HB4.out.size (fun k e => by injection e with e; exact Nat.le_of_eq e)); clear hown5 hgrow5)
    | (at_builtin; refine wpList_append_byt _ rfl (.tmp 18) (.tmp 19) 22 rfl 5 i0 Tryd.underlying22 hi0 hz0 hz1 hz2 w.heap.size _ (num4 p.length ++ num4 (sumF p)) rfl HO5.out A c p rfl (HP.out.later HB5.out) (by rw [List.length_append, num4_len, num4_len]; omega) HB5.out.size ?_; intro A6 c6 w6 hown6 hgrow6 _; rw [← HFr.out] at hown6 ⊢; have HO6 := Lib.hid hown6; have HB6 := Lib.hid (HB5.out.grown hgrow6 HB5.out.size (fun k e => (HO5.out.lt k e).1)); clear hown6 hgrow6))
  go_ret
  have hO := HO6.out
  have hl := frameB_len p
  rcases hO.2 with ⟨h, h0⟩ | ⟨g, cap, cur, h, hb, rest⟩
  · omega
  · injection h with e1 e2 e3
    subst e1
    exact ⟨g, c6, rfl, HO6.out, HB6.out, (own_cap hO).1, (own_cap hO).2⟩
set_option maxHeartbeats 2000000 in
theorem same_true (A B : Option Addr) (l : List (List UInt8)) (n c d : Nat) (w : World) (hn : l.length = n) (hA : Parts w A l) (hB : Parts w B l) (hm : n ≤ maxLen) :
    Calls Tryd.prog 16 #[.slice A n c, .slice B n d] w fun e w' => e = .returned (.bool true) ∧ Below w.heap.size w w' := by
  have HA := Lib.hid hA
  have HB := Lib.hid hB
  have HN := Lib.hid hn
  unfold maxLen at hm
  have hm' : (n : Int) ≤ 9223372036854775807 := by omega
  clear hA hB hn hm
  go_enter Tryd.func16, Tryd.ntmps16
  go_wp2
  go_loopw [5] (fun i wr => ∃ k : Nat, k ≤ n ∧ i = .int .i64 (k : Int) ∧ Hid (Below w.heap.size w wr)) (fun i _ => n - (intOf i).toNat)
  case atStart => exact ⟨0, Nat.zero_le _, rfl, Lib.hid (Below.refl _ _)⟩
  case round =>
    obtain ⟨k, hk, rfl, HBr⟩ := hrel
    by_cases hlt : k < n
    · have hlt' : (k : Int) < (n : Int) := by omega
      have hk0 : (0 : Int) ≤ (k : Int) := by omega
      have hkl : k < l.length := by have := HN.out; omega
      obtain ⟨b, o, a, cap, rfl, c0, hy, hml⟩ := (HA.out.later HBr.out) k hkl
      obtain ⟨b', o', a', cap', rfl, d0, hy', _⟩ := (HB.out.later HBr.out) k hkl
      have HY := Lib.hid hy
      have HY' := Lib.hid hy'
      generalize l[k] = y at *
      clear hy hy' hml hkl
      have hself : ((⟨y.toArray⟩ : ByteArray).toList == (⟨y.toArray⟩ : ByteArray).toList) = true := beq_self_eq_true _
      go_wp2_with fail
      go_region_held3 (fun w' => w'.cell? ⟨b, o + k, none⟩ = some (.slice a y.length cap) ∧ w'.cell? ⟨b', o' + k, none⟩ = some (.slice a' y.length cap') ∧ (convert 22 9 (.slice a y.length cap)).run Tryd.prog w' = .ok (.string ⟨y.toArray⟩) w' ∧ (convert 22 9 (.slice a' y.length cap')).run Tryd.prog w' = .ok (.string ⟨y.toArray⟩) w') (((try dsimp only); exact And.intro c0 (And.intro d0 (And.intro (run_convert_byt Tryd.underlying22 Tryd.underlying5 Tryd.underlying9 cap (show Byt _ _ _ from HY.out)) (run_convert_byt Tryd.underlying22 Tryd.underlying5 Tryd.underlying9 cap' (show Byt _ _ _ from HY'.out)))))) (fail)
      all_goals
        go_wp2
        go_roundw
        case rel => exact ⟨k + 1, by omega, by go_num, Lib.hid HBr.out.drew⟩
        case measure => simp [intOf]; omega
    · obtain rfl : k = n := by omega
      go_wp2
      go_ret
      exact ⟨rfl, HBr.out⟩
end Go.Proofs.YtilbmbheancciaaDoor
