/- The law CronPrints: the program's text of a spec is the reference's, and says the spec again. -/
import Derived.Test.YtbbleedepmcdfaaDoorCrpV
set_option linter.unusedSimpArgs false
set_option linter.unusedVariables false
namespace Go.Proofs.YtbbleedepmcdfaaDoor
open Go.ChangeShapes Go.WideShapes Go.ChangeAt Go.RowKit Go.Base Go.Cro Go.Civ

theorem printT_len (s : Sp) : (printT s).length ≤ 2000 := by
  have h : ∀ k, (fieldT s k).length ≤ 300 := fieldT_len s
  unfold printT
  split
  · rw [join_two, join_two, join_two, join_two, Lib.join_one]
    simp only [List.length_append, List.length_cons]
    have := h 0; have := h 1; have := h 2; have := h 3; have := h 4
    omega
  · simp
set_option maxRecDepth 100000 in
set_option maxHeartbeats 8000000 in
theorem law_prints (s : Sp) (hs : SpOk s) (w : World) (hT : Tabs w) :
    Calls Tryd.prog 4 #[spV s] w fun e w' => e = .returned (.bool true) ∧ Below w.heap.size w w' := by
  have HT := Lib.hid hT
  have HPr := Lib.hid (fun w h => print_any s hs w h)
  have HRp := Lib.hid (fun w => refPrint_any s hs w)
  have HMy := Lib.hid (fun w (h : Tabs w) => may_any s w h.1)
  have HRm := Lib.hid (fun w => refMay_any s hs w)
  have HLi := Lib.hid (fun w h => lives_any w h)
  have hl := printT_len s
  have HP0 : Hid (printT s ≠ [] → ¬ 256 < (printT s).length → ∀ w, ScTab w → Calls Tryd.prog 10 #[.string ⟨(printT s).toArray⟩] w fun e W' => e = .returned (.tuple #[spV s, .int .i64 0, .int .i64 0]) ∧ Below w.heap.size w W') :=
    Lib.hid (fun h h2 w hw => by have hb := print_back s hs h; rw [if_neg h2] at hb; exact parse_ok hb (by unfold maxLen; omega) w hw)
  have HP1 : Hid (printT s ≠ [] → 256 < (printT s).length → ∀ w, ScTab w → Calls Tryd.prog 10 #[.string ⟨(printT s).toArray⟩] w fun e W' => e = .returned (.tuple #[.agg #[.int .u64 0, .int .u64 0, .int .u64 0, .int .u64 0, .int .u64 0, .bool false, .bool false], .int .i64 3, .int .i64 0]) ∧ Below w.heap.size w W') :=
    Lib.hid (fun h h2 w hw => by have hb := print_back s hs h; rw [if_pos h2] at hb; exact parse_err hb (by unfold maxLen; omega) w hw)
  generalize printT s = T at *
  generalize mayB s = my at *
  clear hT hs
  obtain ⟨mi, ho, da, mo, we, ad, aw⟩ := s
  have HK := Lib.hid (fun (V : World) (h : Below (w.alloc (.cells #[.int .u64 mi, .int .u64 ho, .int .u64 da, .int .u64 mo, .int .u64 we, .bool ad, .bool aw] 24)).heap.size (w.alloc (.cells #[.int .u64 mi, .int .u64 ho, .int .u64 da, .int .u64 mo, .int .u64 we, .bool ad, .bool aw] 24)) V) => (cells_of_heap (kept_new h)).1)
  have HBA := Lib.hid (below_alloc w (.cells #[.int .u64 mi, .int .u64 ho, .int .u64 da, .int .u64 mo, .int .u64 we, .bool ad, .bool aw] 24))
  go_enter Tryd.func4, Tryd.ntmps4
  go_wp2_with (go_at_call 13; refine (HPr.out _ (HT.out.later (below_alloc _ _)).1).mono ?_; rintro e W1 ⟨rfl, hb⟩; have HB1 := Lib.hid hb; clear hb)
  have HK1 := Lib.hid (fun (V : World) (h : Below W1.heap.size W1 V) => HK.out V (HB1.out.trans (h.mono HB1.out.size)))
  have HBw : Hid (Below w.heap.size w W1) := Lib.hid (HBA.out.trans (HB1.out.mono HBA.out.size))
  have HT1 := Lib.hid (fun (V : World) (h : Below W1.heap.size W1 V) => HT.out.later (HBw.out.trans (h.mono HBw.out.size)))
  clear HK HB1 HPr
  refine wp_region_held_drew (S := (fun w' => (∀ i, w'.cell? ⟨w.heap.size, i, none⟩ = (#[.int .u64 mi, .int .u64 ho, .int .u64 da, .int .u64 mo, .int .u64 we, .bool ad, .bool aw] : Array Value)[i]?) ∧ Below W1.heap.size W1 w')) (by kernel_rfl) ⟨HK1.out _ (Below.refl _ _).drew, (Below.refl _ _).drew⟩ (fun hHeld => ?_)
  refine wpAnyH_ready (rs := [0]) (by kernel_rfl) (by simp) ?_
  refine AllReadyH.cons rfl (fun K hK => ?_) AllReadyH.nil
  go_simp
  go_at_call 12
  refine Calls.mono (by with_reducible exact HLi.out _ (HT1.out _ hHeld.2)) ?_
  rintro e v1 ⟨rfl, hb⟩
  have hb3 := hHeld.2.trans (hb.mono hHeld.2.size)
  clear hb
  go_wp2_with fail
  refine hK.out _ _ ⟨HK1.out _ hb3, hb3⟩ (fun hHeld2 => ?_)
  clear hK K hHeld
  have hHeld := hHeld2
  clear hHeld2
  try simp only [Act.put, List.setIfInBounds_toArray, List.set_cons_zero, List.set_cons_succ, List.getElem_toArray, List.getElem_cons_succ, List.getElem_cons_zero]
  refine wpAnyH_take (i := 1) (v := ?vv2) rfl (by kernel_rfl) (by kernel_rfl) (by kernel_rfl) (fun _ _ _ h => h) (Or.inl ⟨by rfl, ?hy2⟩) hHeld ?rr2
  case hy2 => (intro w' hSw; obtain ⟨g0, g1⟩ := hSw; go_simp; try with_reducible rfl)
  try simp only [Act.put, List.setIfInBounds_toArray, List.set_cons_zero, List.set_cons_succ, List.getElem_toArray, List.getElem_cons_succ, List.getElem_cons_zero]
  refine wpAnyH_take (i := 2) (v := ?vv3) rfl (by kernel_rfl) (by kernel_rfl) (by kernel_rfl) (fun _ _ _ h => h) (Or.inl ⟨by rfl, ?hy3⟩) hHeld ?rr3
  case hy3 => (intro w' hSw; obtain ⟨g0, g1⟩ := hSw; go_simp; try with_reducible rfl)
  try simp only [Act.put, List.setIfInBounds_toArray, List.set_cons_zero, List.set_cons_succ, List.getElem_toArray, List.getElem_cons_succ, List.getElem_cons_zero]
  refine wpAnyH_take (i := 3) (v := ?vv4) rfl (by kernel_rfl) (by kernel_rfl) (by kernel_rfl) (fun _ _ _ h => h) (Or.inl ⟨by rfl, ?hy4⟩) hHeld ?rr4
  case hy4 => (intro w' hSw; obtain ⟨g0, g1⟩ := hSw; go_simp; try with_reducible rfl)
  try simp only [Act.put, List.setIfInBounds_toArray, List.set_cons_zero, List.set_cons_succ, List.getElem_toArray, List.getElem_cons_succ, List.getElem_cons_zero]
  refine wpAnyH_take (i := 4) (v := ?vv5) rfl (by kernel_rfl) (by kernel_rfl) (by kernel_rfl) (fun _ _ _ h => h) (Or.inl ⟨by rfl, ?hy5⟩) hHeld ?rr5
  case hy5 => (intro w' hSw; obtain ⟨g0, g1⟩ := hSw; go_simp; try with_reducible rfl)
  try simp only [Act.put, List.setIfInBounds_toArray, List.set_cons_zero, List.set_cons_succ, List.getElem_toArray, List.getElem_cons_succ, List.getElem_cons_zero]
  refine wpAnyH_ready (rs := [5]) (by kernel_rfl) (by simp) ?_
  refine AllReadyH.cons rfl (fun K hK => ?_) AllReadyH.nil
  rw [if_pos (by rfl)]
  go_simp
  go_at_call 14
  refine Calls.mono (by with_reducible exact HRp.out _) ?_
  rintro e v2 ⟨rfl, hb⟩
  have hb3 := hHeld.2.trans (hb.mono hHeld.2.size)
  clear hb
  go_wp2_with fail
  refine hK.out _ _ ⟨HK1.out _ hb3, hb3⟩ (fun hHeld2 => ?_)
  clear hK K hHeld
  have hHeld := hHeld2
  clear hHeld2
  try simp only [Act.put, List.setIfInBounds_toArray, List.set_cons_zero, List.set_cons_succ, List.getElem_toArray, List.getElem_cons_succ, List.getElem_cons_zero]
  refine wpAnyH_take (i := 6) (v := ?vv7) rfl (by kernel_rfl) (by kernel_rfl) (by kernel_rfl) (fun _ _ _ h => h) (Or.inl ⟨by rfl, ?hy7⟩) hHeld ?rr7
  case hy7 => (intro w' hSw; obtain ⟨g0, g1⟩ := hSw; go_simp; try with_reducible rfl)
  try simp only [Act.put, List.setIfInBounds_toArray, List.set_cons_zero, List.set_cons_succ, List.getElem_toArray, List.getElem_cons_succ, List.getElem_cons_zero]
  refine wpAnyH_take (i := 7) (v := ?vv8) rfl (by kernel_rfl) (by kernel_rfl) (by kernel_rfl) (fun _ _ _ h => h) (Or.inl ⟨by rfl, ?hy8⟩) hHeld ?rr8
  case hy8 => (intro w' hSw; obtain ⟨g0, g1⟩ := hSw; go_simp; try with_reducible rfl)
  try simp only [Act.put, List.setIfInBounds_toArray, List.set_cons_zero, List.set_cons_succ, List.getElem_toArray, List.getElem_cons_succ, List.getElem_cons_zero]
  refine wpAnyH_take (i := 8) (v := ?vv9) rfl (by kernel_rfl) (by kernel_rfl) (by kernel_rfl) (fun _ _ _ h => h) (Or.inl ⟨by rfl, ?hy9⟩) hHeld ?rr9
  case hy9 => (intro w' hSw; obtain ⟨g0, g1⟩ := hSw; go_simp; try with_reducible rfl)
  try simp only [Act.put, List.setIfInBounds_toArray, List.set_cons_zero, List.set_cons_succ, List.getElem_toArray, List.getElem_cons_succ, List.getElem_cons_zero]
  refine wpAnyH_take (i := 9) (v := ?vv10) rfl (by kernel_rfl) (by kernel_rfl) (by kernel_rfl) (fun _ _ _ h => h) (Or.inl ⟨by rfl, ?hy10⟩) hHeld ?rr10
  case hy10 => (intro w' hSw; obtain ⟨g0, g1⟩ := hSw; go_simp; try with_reducible rfl)
  try simp only [Act.put, List.setIfInBounds_toArray, List.set_cons_zero, List.set_cons_succ, List.getElem_toArray, List.getElem_cons_succ, List.getElem_cons_zero]
  refine wpAnyH_take (i := 11) (v := ?vv11) rfl (by kernel_rfl) (by kernel_rfl) (by kernel_rfl) (fun _ _ _ h => h) (Or.inl ⟨by rfl, ?hy11⟩) hHeld ?rr11
  case hy11 => (intro w' hSw; obtain ⟨g0, g1⟩ := hSw; go_simp; try with_reducible rfl)
  try simp only [Act.put, List.setIfInBounds_toArray, List.set_cons_zero, List.set_cons_succ, List.getElem_toArray, List.getElem_cons_succ, List.getElem_cons_zero]
  refine wpAnyH_ready (rs := [10]) (by kernel_rfl) (by simp) ?_
  refine AllReadyH.cons rfl (fun K hK => ?_) AllReadyH.nil
  rw [if_pos (by rfl)]
  go_simp
  go_at_call 15
  refine Calls.mono (by with_reducible exact HMy.out _ (HT1.out _ hHeld.2)) ?_
  rintro e v3 ⟨rfl, hb⟩
  have hb3 := hHeld.2.trans (hb.mono hHeld.2.size)
  clear hb
  go_wp2_with fail
  refine hK.out _ _ ⟨HK1.out _ hb3, hb3⟩ (fun hHeld2 => ?_)
  clear hK K hHeld
  have hHeld := hHeld2
  clear hHeld2
  try simp only [Act.put, List.setIfInBounds_toArray, List.set_cons_zero, List.set_cons_succ, List.getElem_toArray, List.getElem_cons_succ, List.getElem_cons_zero]
  refine wpAnyH_ready (rs := [12]) (by kernel_rfl) (by simp) ?_
  refine AllReadyH.cons rfl (fun K hK => ?_) AllReadyH.nil
  rw [if_pos (by rfl)]
  go_simp
  go_at_call 16
  refine Calls.mono (by with_reducible exact HRm.out _) ?_
  rintro e v4 ⟨rfl, hb⟩
  have hb3 := hHeld.2.trans (hb.mono hHeld.2.size)
  clear hb
  go_wp2_with fail
  refine hK.out _ _ ⟨HK1.out _ hb3, hb3⟩ (fun hHeld2 => ?_)
  clear hK K hHeld
  have hHeld := hHeld2
  clear hHeld2
  try simp only [Act.put, List.setIfInBounds_toArray, List.set_cons_zero, List.set_cons_succ, List.getElem_toArray, List.getElem_cons_succ, List.getElem_cons_zero]
  refine wpAnyH_take (i := 13) (v := ?vv14) rfl (by kernel_rfl) (by kernel_rfl) (by kernel_rfl) (fun _ _ _ h => h) (Or.inl ⟨by rfl, ?hy14⟩) hHeld ?rr14
  case hy14 => (intro w' hSw; obtain ⟨g0, g1⟩ := hSw; go_simp; try with_reducible rfl)
  try simp only [Act.put, List.setIfInBounds_toArray, List.set_cons_zero, List.set_cons_succ, List.getElem_toArray, List.getElem_cons_succ, List.getElem_cons_zero]
  refine wpAnyH_take (i := 14) (v := ?vv15) rfl (by kernel_rfl) (by kernel_rfl) (by kernel_rfl) (fun _ _ _ h => h) (Or.inl ⟨by rfl, ?hy15⟩) hHeld ?rr15
  case hy15 => (intro w' hSw; obtain ⟨g0, g1⟩ := hSw; go_simp; try with_reducible rfl)
  try simp only [Act.put, List.setIfInBounds_toArray, List.set_cons_zero, List.set_cons_succ, List.getElem_toArray, List.getElem_cons_succ, List.getElem_cons_zero]
  have HBe := Lib.hid hHeld.2
  refine wpAnyH_done (by kernel_rfl) ?_ _
  clear hHeld
  have hc := HK1.out _ HBe.out
  have c0 := hc 0; have c1 := hc 1; have c2 := hc 2; have c3 := hc 3; have c4 := hc 4; have c5 := hc 5; have c6 := hc 6
  clear hc c0 c1 c2 c3 c4 c5 c6
  by_cases hE : T = []
  · subst hE
    go_wp2
    go_ret
    exact ⟨rfl, HBw.out.trans (HBe.out.mono HBw.out.size)⟩
  · have he : T.isEmpty = false := by cases T with
      | nil => exact absurd rfl hE
      | cons x xs => rfl
    by_cases h256 : 256 < T.length
    · have h256' : (256 : Int) < (T.length : Int) := by omega
      have HPA := Lib.hid (HP1.out hE h256)
      clear HP0 HP1 hE
      go_wp2_with (go_at_call 10; refine (HPA.out _ (HT1.out _ HBe.out).1).mono ?_; rintro e W3 ⟨rfl, hb⟩; have hb3 := HBe.out.trans (hb.mono HBe.out.size); have HB3 := Lib.hid (HBw.out.trans (hb3.mono HBw.out.size)); have hc := HK1.out _ hb3; have c0 := hc 0; have c1 := hc 1; have c2 := hc 2; have c3 := hc 3; have c4 := hc 4; have c5 := hc 5; have c6 := hc 6; have hz : w.heap.size < W3.heap.size := (World.block_lt_of_cell? _ _ c0); clear hb3 hc hb)
      all_goals (go_ret; exact ⟨rfl, HB3.out.alloc HB3.out.size _⟩)
    · have h256' : (T.length : Int) ≤ 256 := by omega
      have HPA := Lib.hid (HP0.out hE h256)
      clear HP0 HP1 hE
      go_wp2_with (go_at_call 10; refine (HPA.out _ (HT1.out _ HBe.out).1).mono ?_; rintro e W3 ⟨rfl, hb⟩; have hb3 := HBe.out.trans (hb.mono HBe.out.size); have HB3 := Lib.hid (HBw.out.trans (hb3.mono HBw.out.size)); have hc := HK1.out _ hb3; have c0 := hc 0; have c1 := hc 1; have c2 := hc 2; have c3 := hc 3; have c4 := hc 4; have c5 := hc 5; have c6 := hc 6; have hz : w.heap.size < W3.heap.size := (World.block_lt_of_cell? _ _ c0); clear hb3 hc hb)
      all_goals (go_ret; exact ⟨rfl, HB3.out.alloc HB3.out.size _⟩)
end Go.Proofs.YtbbleedepmcdfaaDoor
