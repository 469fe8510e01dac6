/- The law NetAgain. -/
import Derived.Test.YtbmadhmcnjcdfaaNetK
import Derived.Test.YtbmadhmcnjcdfaaNetJ
set_option linter.unusedSimpArgs false
set_option linter.unusedVariables false
namespace Go.Net
def agL (fr dst : Int) (b : List UInt8) (n : Nat) : List Pk := (List.range n).map (fun (i : Nat) => (⟨1 + (i : Int), fr, dst, b⟩ : Pk))
def agS (fr dst : Int) (b : List UInt8) (j : Nat) : St := ⟨5, (j : Int) + 1, 0, agL fr dst b (j + 1)⟩
theorem agL_len (fr dst : Int) (b : List UInt8) (n : Nat) : (agL fr dst b n).length = n := by simp [agL]
theorem agL_at (fr dst : Int) (b : List UInt8) (n i : Nat) (h : i < (agL fr dst b n).length) : (agL fr dst b n)[i] = ⟨1 + (i : Int), fr, dst, b⟩ := by simp [agL]
theorem ag_first (fr dst : Int) (b : List UInt8) (n : Nat) : idx (agL fr dst b (n + 1)) 1 = 0 := by
  unfold idx agL
  rw [List.range_succ_eq_map, List.map_cons, List.findIdx_cons]
  rfl
theorem ag_send (fr dst : Int) (b : List UInt8) (h : (sendS ⟨5, 0, 0, []⟩ fr dst b).1.2 = 0) : sendS ⟨5, 0, 0, []⟩ fr dst b = ((1, 0), agS fr dst b 0) := by
  unfold sendS at h ⊢
  by_cases h1 : ¬ (isP ⟨5, 0, 0, []⟩ fr ∧ isP ⟨5, 0, 0, []⟩ dst)
  · rw [if_pos h1] at h; cases h
  · rw [if_neg h1] at h ⊢
    by_cases h2 : 32832 < b.length
    · rw [if_pos h2] at h; cases h
    · rw [if_neg h2]; rfl
theorem ag_no (fr dst : Int) (b : List UInt8) (h : ¬ (sendS ⟨5, 0, 0, []⟩ fr dst b).1.2 = 0) : (sendS ⟨5, 0, 0, []⟩ fr dst b).1.1 = 0 ∧ (sendS ⟨5, 0, 0, []⟩ fr dst b).2 = ⟨5, 0, 0, []⟩ := by
  unfold sendS at h ⊢
  by_cases h1 : ¬ (isP ⟨5, 0, 0, []⟩ fr ∧ isP ⟨5, 0, 0, []⟩ dst)
  · rw [if_pos h1]; exact ⟨rfl, rfl⟩
  · rw [if_neg h1] at h ⊢
    by_cases h2 : 32832 < b.length
    · rw [if_pos h2]; exact ⟨rfl, rfl⟩
    · rw [if_neg h2] at h; exact absurd rfl h
theorem ag_more (fr dst : Int) (b : List UInt8) (j : Nat) (hj : j + 1 < 4096) : againS (agS fr dst b j) 1 = ((2 + (j : Int), 0), agS fr dst b (j + 1)) := by
  have h0 : idx (agS fr dst b j).l 1 = 0 := ag_first fr dst b j
  have hl : (agS fr dst b j).l.length = j + 1 := agL_len fr dst b (j + 1)
  unfold againS
  rw [dif_pos (by rw [h0, hl]; omega)]
  have e : (agS fr dst b j).l[idx (agS fr dst b j).l 1]'(by rw [h0, hl]; omega) = ⟨1 + (0 : Nat), fr, dst, b⟩ := by
    simp only [h0]; exact agL_at fr dst b (j + 1) 0 (by rw [agL_len]; omega)
  rw [e]
  unfold addS
  rw [if_neg (by rw [hl]; omega)]
  unfold agS
  have e2 : agL fr dst b (j + 1 + 1) = agL fr dst b (j + 1) ++ [⟨1 + ((j + 1 : Nat) : Int), fr, dst, b⟩] := by unfold agL; rw [List.range_succ, List.map_append]; rfl
  rw [e2]
  simp only [Prod.mk.injEq, St.mk.injEq, true_and, List.append_cancel_left_eq, List.cons.injEq, and_true, Pk.mk.injEq]
  refine ⟨by omega, by omega, by omega⟩
theorem ag_to (fr dst : Int) (b : List UInt8) (n : Nat) : ((agL fr dst b n).filter (fun q => q.dst == dst)).length = n := by
  rw [List.filter_eq_self.2, agL_len]
  intro q hq
  obtain ⟨i, hi, rfl⟩ := List.getElem_of_mem hq
  rw [agL_at]; simp
end Go.Net
namespace Go.Proofs.Ytbmadhmcnjcdfaa
open Go.ChangeShapes Go.WideShapes Go.ChangeAt Go.RowKit Go.Base Go.Net

section
variable {T : TypeId} {B : Nat} {w : World} {p : Nat} {s : St}
theorem listL (h : NL T B w p s) : Calls Try.prog 24 #[.pointer (some ⟨p, 0, none⟩)] w (ListPost s.l w) := by
  obtain ⟨⟨A, c, vs, hx⟩, hB⟩ := h
  exact list_any hx
theorem toL (h : NL T B w p s) (a : Int) : Calls Try.prog 25 #[.pointer (some ⟨p, 0, none⟩), .int .i64 a] w (ToPost (toS s.l a) w) := by
  obtain ⟨⟨A, c, vs, hx⟩, hB⟩ := h
  exact to_any hx a
end
theorem ListPost.len {l : List Pk} {w w' : World} {e : Ending} {n : Nat} (h : ListPost l w e w') (hn : l.length = n) : ∃ (A : Option Addr) (c : Nat) (us : List PkV), e = .returned (.slice A n c) ∧ us.length = n ∧ us.map (·.p) = l ∧ w'.ownsRow w.heap.size 37 4 (.slice A n c) n (cellsP us) ∧ (∀ u ∈ us, Byt w' u.A u.p.body) ∧ Below w.heap.size w w' := by
  obtain ⟨A, c, us, he, hus, ho, hb, hbl⟩ := h
  have hl : us.length = n := by rw [← hn, ← hus, List.length_map]
  rw [hl] at he ho
  exact ⟨A, c, us, he, hl, hus, ho, hb, hbl⟩
theorem ToPost.len {l : List Int} {w w' : World} {e : Ending} {n : Nat} (h : ToPost l w e w') (hn : l.length = n) : ∃ (A : Option Addr) (c : Nat), e = .returned (.slice A n c) ∧ w'.ownsRow w.heap.size 3 1 (.slice A n c) n (l.map (.int .i64)) ∧ Below w.heap.size w w' := by
  obtain ⟨A, c, he, ho, hb⟩ := h
  rw [hn] at he ho
  exact ⟨A, c, he, ho, hb⟩
set_option maxHeartbeats 8000000 in
set_option maxRecDepth 20000 in
theorem law_again (fr dst : Int) (A0 : Option Addr) (b : List UInt8) (c0 : Nat) (t : Int) (w : World) (hy : Byt w A0 b) (hm : b.length ≤ 9223372036854775807) (ht : -9223372036854775808 ≤ t ∧ t ≤ 9223372036854775807) :
    Calls Try.prog 6 #[.int .i64 fr, .int .i64 dst, .slice A0 b.length c0, .int .i64 t] w fun e w' => e = .returned (.bool true) ∧ Below w.heap.size w w' := by
  have HLi := Lib.hid (fun V => nlives_any V)
  have HBy := Lib.hid hy
  have HSe := Lib.hid (fun V p (hV : Below w.heap.size w V) (hn : NL 55 w.heap.size V p ⟨5, 0, 0, []⟩) => sendL hn fr dst A0 b c0 (hy.later hV) hm (by decide) (by decide))
  clear hy hm
  by_cases hs : (sendS ⟨5, 0, 0, []⟩ fr dst b).1.2 = 0
  · have HS2 : Hid (∀ V p, Below w.heap.size w V → NL 55 w.heap.size V p ⟨5, 0, 0, []⟩ → Calls Try.prog 10 #[.pointer (some ⟨p, 0, none⟩), .int .i64 fr, .int .i64 dst, .slice A0 b.length c0] V fun e V' => e = .returned (.tuple #[.int .i64 1, .int .i64 0]) ∧ NL 55 w.heap.size V' p (agS fr dst b 0) ∧ Below w.heap.size V V') := Lib.hid (fun V p h1 h2 => by
      have := HSe.out V p h1 h2
      rw [ag_send fr dst b hs] at this
      exact this)
    obtain ⟨k, hk⟩ : ∃ k, t.tmod 20 = k := ⟨_, rfl⟩
    have hk1 : k < 20 := by rw [← hk]; exact Int.tmod_lt_of_pos _ (by decide)
    have hk2 : -20 < k := by rw [← hk]; have := Int.lt_tmod_of_pos t (b := 20) (by decide); omega
    clear HSe hs
    go_enter Try.func6, Try.ntmps6
    go_wp2_with (first
      | (go_at_call 7; refine Calls.mono (newL (by decide) (by decide) _) ?_; rintro e w1 ⟨p, rfl, hn, hb⟩; have HN := Lib.hid hn; have HB := Lib.hid hb; clear hn hb)
      | (go_at_call 9; refine Calls.mono (HLi.out _) ?_; rintro e w2 ⟨rfl, hb⟩; have HN2 := Lib.hid (HN.out.later hb); have HB2 := Lib.hid (HB.out.trans (hb.mono HB.out.size)); clear hb)
      | (go_at_call 10; refine Calls.mono (HS2.out _ _ HB2.out HN2.out) ?_; rintro e w3 ⟨rfl, hn, hb⟩; have HN3 := Lib.hid hn; have HB3 := Lib.hid (HB2.out.trans hb); clear hn hb))
    go_loopw [14] (fun iv wr => ∃ j : Nat, (j : Int) < 20 ∧ iv = .int .i64 (j : Int) ∧ Hid (j ≤ k.toNat) ∧ Hid (NL 55 w.heap.size wr p (agS fr dst b j)) ∧ Hid (Below w.heap.size w wr)) (fun iv _ => k.toNat - (intOf iv).toNat)
    case atStart => exact ⟨0, by omega, rfl, Lib.hid (Nat.zero_le _), HN3, HB3⟩
    case round =>
      obtain ⟨j, hj20, rfl, HJ, HNr, HBr⟩ := hrel
      have hjz : (0 : Int) ≤ (j : Int) := by omega
      by_cases hlt : (j : Int) < k
      · have HAg := Lib.hid (againL HNr.out 1 (by show ((j : Int) + 1) + 1 ≤ _; omega) (by show (0 : Int) + 1 ≤ _; omega))
        rw [ag_more fr dst b j (by omega)] at HAg
        go_wp2_with (go_at_call 17; refine Calls.mono HAg.out ?_; rintro e w4 ⟨rfl, hn, hb⟩; have HN4 := Lib.hid hn; have HB4 := Lib.hid (HBr.out.trans hb); clear hn hb)
        go_roundw
        case rel => exact ⟨j + 1, by omega, by go_num, Lib.hid (by omega), HN4, HB4⟩
        case measure => simp [intOf]; omega
      · have HEnd : Hid (0 ≤ k → (j : Int) = k) := Lib.hid (fun h => by have := HJ.out; omega)
        have HLs := Lib.hid ((listL HNr.out).mono fun e w' h => h.len (agL_len fr dst b (j + 1)))
        go_wp2_with (go_at_call 24; refine Calls.mono HLs.out ?_; rintro e w4 ⟨A4, d4, us, rfl, hul, hus, ho, hby, hb⟩; have HU := Lib.hid hus; have HO := Lib.hid ho; have HBy4 := Lib.hid hby; have HUl := Lib.hid hul; have HB4 := Lib.hid (HBr.out.trans (hb.mono HBr.out.size)); have HN4 := Lib.hid (HNr.out.later hb); clear hus ho hby hb hul)
        go_loopw [18] (fun iv wr => ∃ i : Nat, i ≤ j + 1 ∧ iv = .int .i64 (i : Int) ∧ Hid (Below w4.heap.size w4 wr)) (fun iv _ => j + 1 - (intOf iv).toNat)
        case atStart => exact ⟨0, Nat.zero_le _, rfl, Lib.hid (Below.refl _ _)⟩
        case round =>
          obtain ⟨i, hij, rfl, HBi⟩ := hrel
          have hiz : (0 : Int) ≤ (i : Int) := by omega
          by_cases hi : i < j + 1
          · have hi' : (i : Int) < (j : Int) + 1 := by omega
            have hiu : i < us.length := by rw [HUl.out]; exact hi
            obtain ⟨g, rfl, r0, r1, r2, r3⟩ := rowP_at (by rw [HUl.out]; exact own_moved (p := fun _ => False) HO.out (Below.movedNew HBi.out) (fun _ _ h => h)) hiu
            have he : us[i].p = ⟨1 + (i : Int), fr, dst, b⟩ := by
              have h1 : us[i].p = (us.map (·.p))[i]'(by simpa using hiu) := by simp
              rw [h1]
              simp only [HU.out]
              exact agL_at fr dst b (j + 1) i (by rw [agL_len]; omega)
            have hc1 : ∀ m, (convert 31 9 us[i].val).run Try.prog (wr.drewN m) = .ok (.string ⟨b.toArray⟩) (wr.drewN m) := fun m => by
              have h2 := (HBy4.out _ (List.getElem_mem hiu)).later (below_drewN HBi.out m)
              have := run_convert_byt (P := Try.prog) (src := 31) (dst := 9) Try.underlying31 Try.underlying5 Try.underlying9 _ us[i].c rfl h2
              rw [he] at this
              unfold PkV.val
              rw [he]
              exact this
            have hc2 : ∀ m, (convert 31 9 (.slice A0 b.length c0)).run Try.prog (wr.drewN m) = .ok (.string ⟨b.toArray⟩) (wr.drewN m) := fun m =>
              run_convert_byt (P := Try.prog) (src := 31) (dst := 9) Try.underlying31 Try.underlying5 Try.underlying9 _ c0 rfl (HBy.out.later (HB4.out.trans ((below_drewN HBi.out m).mono HB4.out.size)))
            rw [he] at r0 r1 r2
            obtain ⟨v, hv⟩ : ∃ v, v = us[i].val := ⟨_, rfl⟩
            rw [← hv] at r3 hc1
            clear hv he hiu
            go_wp2_with fail
            go_quiet (fail)
            go_wp2
            go_roundw
            case rel => exact ⟨i + 1, by omega, by go_num, Lib.hid (below_drewN HBi.out _)⟩
            case measure => simp [intOf]; omega
          · obtain rfl : i = j + 1 := by omega
            have hi' : ¬ ((j : Int) + 1) < (j : Int) + 1 := by omega
            have HTo := Lib.hid ((toL (HN4.out.later HBi.out) dst).mono fun e w' h => h.len (n := j + 1) (by unfold toS; rw [List.length_map]; exact ag_to fr dst b (j + 1)))
            go_wp2_with (go_at_call 25; refine Calls.mono HTo.out ?_; rintro e w6 ⟨A6, d6, rfl, ho6, hb6⟩; have HB6 := Lib.hid (HB4.out.trans ((HBi.out.trans (hb6.mono HBi.out.size)).mono HB4.out.size)); clear ho6 hb6)
            all_goals
              go_ret
              refine ⟨ret_bool ?_, HB6.out⟩
              first | rfl | (have hE := HEnd.out; simp; omega)
  · obtain ⟨h1, h2⟩ := ag_no fr dst b hs
    obtain ⟨z, hz⟩ : ∃ z, z = (sendS ⟨5, 0, 0, []⟩ fr dst b).1.2 := ⟨_, rfl⟩
    have HS2 : Hid (∀ V p, Below w.heap.size w V → NL 55 w.heap.size V p ⟨5, 0, 0, []⟩ → Calls Try.prog 10 #[.pointer (some ⟨p, 0, none⟩), .int .i64 fr, .int .i64 dst, .slice A0 b.length c0] V fun e V' => e = .returned (.tuple #[.int .i64 0, .int .i64 z]) ∧ NL 55 w.heap.size V' p ⟨5, 0, 0, []⟩ ∧ Below w.heap.size V V') := Lib.hid (fun V p g1 g2 => by
      have := HSe.out V p g1 g2
      rw [h1, h2, ← hz] at this
      exact this)
    have hz' : (z != 0) = true := by rw [← hz] at hs; simpa using hs
    clear HSe hs h1 h2 hz
    go_enter Try.func6, Try.ntmps6
    go_wp2_with (first
      | (go_at_call 7; refine Calls.mono (newL (by decide) (by decide) _) ?_; rintro e w1 ⟨p, rfl, hn, hb⟩; have HN := Lib.hid hn; have HB := Lib.hid hb; clear hn hb)
      | (go_at_call 9; refine Calls.mono (HLi.out _) ?_; rintro e w2 ⟨rfl, hb⟩; have HN2 := Lib.hid (HN.out.later hb); have HB2 := Lib.hid (HB.out.trans (hb.mono HB.out.size)); clear hb)
      | (go_at_call 10; refine Calls.mono (HS2.out _ _ HB2.out HN2.out) ?_; rintro e w3 ⟨rfl, hn, hb⟩; have HN3 := Lib.hid hn; have HB3 := Lib.hid (HB2.out.trans hb); clear hn hb)
      | (go_at_call 23; refine Calls.mono (lenL HN3.out) ?_; rintro e w4 ⟨rfl, rfl⟩; simp only [List.length_nil]))
    go_ret
    exact ⟨rfl, HB3.out⟩
end Go.Proofs.Ytbmadhmcnjcdfaa
