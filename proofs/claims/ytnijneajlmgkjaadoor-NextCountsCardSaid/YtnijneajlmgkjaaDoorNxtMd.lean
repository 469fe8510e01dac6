/- Walks of package next: how many moments of a year are ahead of a date. -/
import Derived.Test.YtnijneajlmgkjaaDoorNxtMc
set_option linter.unusedSimpArgs false
set_option linter.unusedVariables false
namespace Go.Proofs.YtnijneajlmgkjaaDoor
open Go.ChangeShapes Go.WideShapes Go.ChangeAt Go.RowKit Go.Base Go.Civ Go.Nxt Go.Cro

/-- How many moments of a year are ahead of a date of it: m: its month, dd: its day. -/
def passedR (s : Sp) (H M : Nat) (y : Int) (k dd h mi : Nat) (sec : Int) : Nat :=
  (DB s (y * 12) k + pc (mdays s (y * 12 + ((k : Int) + 1) - 1) % 2 ^ dd)) * (pc H * pc M) + if (mdays s (y * 12 + ((k : Int) + 1) - 1)).testBit dd then todayR H M h mi sec else 0
theorem todayR_le (H M h mi : Nat) (sec : Int) : todayR H M h mi sec ≤ 4160 := by
  unfold todayR
  have h1 : pc (H % 2 ^ h) * pc M ≤ 64 * 64 := Nat.mul_le_mul (pc_le _) (pc_le _)
  have h2 := pc_le (M % 2 ^ (if 0 < sec then mi + 1 else mi))
  split <;> omega

set_option maxHeartbeats 4000000 in
set_option maxRecDepth 100000 in
theorem passed_any (s : Sp) (hs : SpOk s) (H M : Nat) (hM : s.mi = M) (hH : s.ho = H) (h1 : H < 18446744073709551616) (h2 : M < 18446744073709551616) (y : Int) (k dd h mi : Nat) (sec wk : Int) (hy1 : 1 ≤ y) (hy2 : y ≤ 9999) (hk : k < 12) (hdd : dd ≤ 62) (hh : h ≤ 23) (hmi : mi ≤ 59) (w : World) (hv : Vars w) :
    Calls Tryd.prog 31 #[spV s, dateV y ((k : Int) + 1) dd h mi sec wk] w fun e w' => e = .returned (.int .i64 (passedR s H M y k dd h mi sec : Nat)) ∧ Below w.heap.size w w' := by
  have HMd := Lib.hid (fun V hV => monthDays_any s hs (y * 12 + ((k : Int) + 1) - 1) (by omega) (by omega) V hV)
  have HDb := Lib.hid (fun V hV => daysBefore_any s hs y k hy1 hy2 (by omega) V hV)
  have hm64 := mdays_lt s (y * 12 + ((k : Int) + 1) - 1)
  have HBl := Lib.hid (fun V => nxtBelow_any (mdays s (y * 12 + ((k : Int) + 1) - 1)) dd hm64 (by omega) V)
  have HOn := Lib.hid (fun V => ones64_any (mdays s (y * 12 + ((k : Int) + 1) - 1) % 2 ^ dd) (Nat.lt_of_le_of_lt (Nat.mod_le _ _) hm64) V)
  have HTi := Lib.hid (fun V => times_any s H M hM hH h1 h2 V)
  have HTo := Lib.hid (fun V => today_any s H M hM hH h1 h2 y ((k : Int) + 1) dd h mi sec wk hh hmi V)
  have HHas := Lib.hid (fun V => nxtHas_any (mdays s (y * 12 + ((k : Int) + 1) - 1) : Int) (dd : Int) V (by omega) (by omega) (by omega) (by omega))
  rw [hasB_test _ dd hm64] at HHas
  have HV := Lib.hid (fun (w' : World) (hb : Below w.heap.size w w') => hv.later hb)
  have hl1 := DB_le s (y * 12) k
  have hl2 := pc_le (mdays s (y * 12 + ((k : Int) + 1) - 1) % 2 ^ dd)
  have hl3 := todayR_le H M h mi sec
  have hl4 : pc H * pc M ≤ 64 * 64 := Nat.mul_le_mul (pc_le _) (pc_le _)
  have HR : Hid (∀ b : Bool, (mdays s (y * 12 + ((k : Int) + 1) - 1)).testBit dd = b → passedR s H M y k dd h mi sec = (DB s (y * 12) k + pc (mdays s (y * 12 + ((k : Int) + 1) - 1) % 2 ^ dd)) * (pc H * pc M) + if b then todayR H M h mi sec else 0) := Lib.hid (fun b hb => by unfold passedR; rw [hb])
  generalize passedR s H M y k dd h mi sec = R at *
  generalize hte : (mdays s (y * 12 + ((k : Int) + 1) - 1)).testBit dd = tb at *
  have HRR := Lib.hid (HR.out tb rfl)
  clear HR hte hm64
  generalize pc (mdays s (y * 12 + ((k : Int) + 1) - 1) % 2 ^ dd) = pb at *
  generalize mdays s (y * 12 + ((k : Int) + 1) - 1) % 2 ^ dd = bl at *
  generalize mdays s (y * 12 + ((k : Int) + 1) - 1) = md at *
  generalize DB s (y * 12) k = db at *
  generalize pc H * pc M = tm at *
  generalize todayR H M h mi sec = td at *
  have hmul : 0 ≤ ((db : Int) + (pb : Int)) * (tm : Int) ∧ ((db : Int) + (pb : Int)) * (tm : Int) ≤ 832 * 4096 := ⟨Int.mul_nonneg (by omega) (by omega), Int.mul_le_mul (by omega) (by omega) (by omega) (by omega)⟩
  obtain ⟨m1, m2⟩ := hmul
  clear hv hs hM hH
  obtain ⟨smi, sho, sda, smo, swe, ad, aw⟩ := s
  simp only [spV] at HMd HDb HTi HTo ⊢
  have hS00 : ∀ V, Below w.heap.size w V → True := fun _ _ => trivial
  clear hS00
  cases tb
  · go_enter Tryd.func31, Tryd.ntmps31
    go_wp2_with (go_at_call 53; refine (HMd.out _ (HV.out _ ((below_alloc w _).alloc (by simp) _)).tab).mono ?_; rintro e w1 ⟨rfl, hb1⟩; have HB1 := Lib.hid (((below_alloc w _).alloc (by simp) _).trans (hb1.mono (by simp; omega))); have hsp := (hb1.block _ (by simp; omega)).trans (heap_old (.cells (dateC y ((k : Int) + 1) dd h mi sec wk) 43) (by simp) (heap_new w (.cells (specC smi sho sda smo swe ad aw) 24))); have hdt : w1.heap[w.heap.size + 1]? = some (.cells (dateC y ((k : Int) + 1) dd h mi sec wk) 43 (0, 0)) := (by
      have h8 := heap_new (w.alloc (.cells (specC smi sho sda smo swe ad aw) 24)) (.cells (dateC y ((k : Int) + 1) dd h mi sec wk) 43)
      rw [World.size_alloc] at h8
      exact (hb1.block _ (by simp)).trans h8); have HSp := Lib.hid hsp; have HDt := Lib.hid hdt; clear hb1 hsp hdt)
    have hS0 : (fun V : World => V.heap[w.heap.size]? = some (.cells (specC smi sho sda smo swe ad aw) 24 (0, 0)) ∧ V.heap[w.heap.size + 1]? = some (.cells (dateC y ((k : Int) + 1) dd h mi sec wk) 43 (0, 0))) w1.drew := ⟨HSp.out, HDt.out⟩
    have hwr : IntKind.i64.wrap ((db : Int) + (pb : Int)) = (db : Int) + (pb : Int) := by simp [IntKind.wrap, IntKind.signed, IntKind.bits]; omega
    refine wp_region_held_drew (S := (fun V : World => V.heap[w.heap.size]? = some (.cells (specC smi sho sda smo swe ad aw) 24 (0, 0)) ∧ V.heap[w.heap.size + 1]? = some (.cells (dateC y ((k : Int) + 1) dd h mi sec wk) 43 (0, 0)))) (by kernel_rfl) hS0 (fun hHeld => ?_)
    refine wpAnyH_take (i := 0) (v := (spV ⟨smi, sho, sda, smo, swe, ad, aw⟩)) rfl (by kernel_rfl) (by kernel_rfl) (by kernel_rfl) (fun _ _ _ h => h) (Or.inl ⟨by rfl, ?hy1⟩) hHeld ?rr1
    case hy1 => (intro w' hSw; have q1 := (cells_of_heap hSw.1).1; have q2 := (cells_of_heap hSw.2).1; go_simp; try with_reducible rfl)
    try simp only [Act.put, List.setIfInBounds_toArray, List.set_cons_zero, List.set_cons_succ, List.getElem_toArray, List.getElem_cons_succ, List.getElem_cons_zero]
    refine wpAnyH_take (i := 1) (v := (.pointer (some ⟨w.heap.size + 1, 0, none⟩))) rfl (by kernel_rfl) (by kernel_rfl) (by kernel_rfl) (fun _ _ _ h => h) (Or.inl ⟨by rfl, ?hy2⟩) hHeld ?rr2
    case hy2 => (intro w' hSw; have q1 := (cells_of_heap hSw.1).1; have q2 := (cells_of_heap hSw.2).1; go_simp; try with_reducible rfl)
    try simp only [Act.put, List.setIfInBounds_toArray, List.set_cons_zero, List.set_cons_succ, List.getElem_toArray, List.getElem_cons_succ, List.getElem_cons_zero]
    refine wpAnyH_take (i := 2) (v := (.int .i64 y)) rfl (by kernel_rfl) (by kernel_rfl) (by kernel_rfl) (fun _ _ _ h => h) (Or.inl ⟨by rfl, ?hy3⟩) hHeld ?rr3
    case hy3 => (intro w' hSw; have q1 := (cells_of_heap hSw.1).1; have q2 := (cells_of_heap hSw.2).1; go_simp; try with_reducible rfl)
    try simp only [Act.put, List.setIfInBounds_toArray, List.set_cons_zero, List.set_cons_succ, List.getElem_toArray, List.getElem_cons_succ, List.getElem_cons_zero]
    refine wpAnyH_take (i := 3) (v := (.pointer (some ⟨w.heap.size + 1, 1, none⟩))) rfl (by kernel_rfl) (by kernel_rfl) (by kernel_rfl) (fun _ _ _ h => h) (Or.inl ⟨by rfl, ?hy4⟩) hHeld ?rr4
    case hy4 => (intro w' hSw; have q1 := (cells_of_heap hSw.1).1; have q2 := (cells_of_heap hSw.2).1; go_simp; try with_reducible rfl)
    try simp only [Act.put, List.setIfInBounds_toArray, List.set_cons_zero, List.set_cons_succ, List.getElem_toArray, List.getElem_cons_succ, List.getElem_cons_zero]
    refine wpAnyH_take (i := 4) (v := (.int .i64 ((k : Int) + 1))) rfl (by kernel_rfl) (by kernel_rfl) (by kernel_rfl) (fun _ _ _ h => h) (Or.inl ⟨by rfl, ?hy5⟩) hHeld ?rr5
    case hy5 => (intro w' hSw; have q1 := (cells_of_heap hSw.1).1; have q2 := (cells_of_heap hSw.2).1; go_simp; try with_reducible rfl)
    try simp only [Act.put, List.setIfInBounds_toArray, List.set_cons_zero, List.set_cons_succ, List.getElem_toArray, List.getElem_cons_succ, List.getElem_cons_zero]
    refine wpAnyH_take (i := 6) (v := (.int .u64 md)) rfl (by kernel_rfl) (by kernel_rfl) (by kernel_rfl) (fun _ _ _ h => h) (Or.inl ⟨by rfl, ?hy6⟩) hHeld ?rr6
    case hy6 => (intro w' hSw; have q1 := (cells_of_heap hSw.1).1; have q2 := (cells_of_heap hSw.2).1; go_simp; try with_reducible rfl)
    try simp only [Act.put, List.setIfInBounds_toArray, List.set_cons_zero, List.set_cons_succ, List.getElem_toArray, List.getElem_cons_succ, List.getElem_cons_zero]
    refine wpAnyH_take (i := 7) (v := (.pointer (some ⟨w.heap.size + 1, 2, none⟩))) rfl (by kernel_rfl) (by kernel_rfl) (by kernel_rfl) (fun _ _ _ h => h) (Or.inl ⟨by rfl, ?hy7⟩) hHeld ?rr7
    case hy7 => (intro w' hSw; have q1 := (cells_of_heap hSw.1).1; have q2 := (cells_of_heap hSw.2).1; go_simp; try with_reducible rfl)
    try simp only [Act.put, List.setIfInBounds_toArray, List.set_cons_zero, List.set_cons_succ, List.getElem_toArray, List.getElem_cons_succ, List.getElem_cons_zero]
    refine wpAnyH_take (i := 8) (v := (.int .i64 dd)) rfl (by kernel_rfl) (by kernel_rfl) (by kernel_rfl) (fun _ _ _ h => h) (Or.inl ⟨by rfl, ?hy8⟩) hHeld ?rr8
    case hy8 => (intro w' hSw; have q1 := (cells_of_heap hSw.1).1; have q2 := (cells_of_heap hSw.2).1; go_simp; try with_reducible rfl)
    try simp only [Act.put, List.setIfInBounds_toArray, List.set_cons_zero, List.set_cons_succ, List.getElem_toArray, List.getElem_cons_succ, List.getElem_cons_zero]
    refine wpAnyH_ready (rs := [5]) (by kernel_rfl) (by simp) ?_
    refine AllReadyH.cons rfl (fun K hK => ?_) AllReadyH.nil
    try rw [if_pos (by rfl)]
    go_simp
    go_at_call 37
    refine Calls.mono (HDb.out _ (HV.out _ HB1.out.drew).tab) ?_
    rintro e w2 ⟨rfl, hb2⟩
    have hH2 := And.intro ((hb2.block _ (show w.heap.size < w1.heap.size from heap_lt HSp.out)).trans HSp.out) ((hb2.block _ (show w.heap.size + 1 < w1.heap.size from heap_lt HDt.out)).trans HDt.out)
    have HB2 := Lib.hid (HB1.out.drew.trans (hb2.mono (show w.heap.size ≤ w1.heap.size from HB1.out.size)))
    clear hb2
    go_wp2_with fail
    refine hK.out _ _ hH2 (fun hHeld2 => ?_)
    clear hK K hHeld
    have hHeld := hHeld2
    clear hHeld2
    try simp only [Act.put, List.setIfInBounds_toArray, List.set_cons_zero, List.set_cons_succ, List.getElem_toArray, List.getElem_cons_succ, List.getElem_cons_zero]
    refine wpAnyH_ready (rs := [9]) (by kernel_rfl) (by simp) ?_
    refine AllReadyH.cons rfl (fun K hK => ?_) AllReadyH.nil
    try rw [if_pos (by rfl)]
    go_simp
    go_at_call 46
    refine Calls.mono (HBl.out _) ?_
    rintro e w3 ⟨rfl, hw3⟩; rw [hw3]; clear hw3 w3
    go_wp2_with fail
    refine hK.out _ _ hH2 (fun hHeld2 => ?_)
    clear hK K hHeld
    have hHeld := hHeld2
    clear hHeld2
    try simp only [Act.put, List.setIfInBounds_toArray, List.set_cons_zero, List.set_cons_succ, List.getElem_toArray, List.getElem_cons_succ, List.getElem_cons_zero]
    refine wpAnyH_ready (rs := [10]) (by kernel_rfl) (by simp) ?_
    refine AllReadyH.cons rfl (fun K hK => ?_) AllReadyH.nil
    try rw [if_pos (by rfl)]
    go_simp
    go_at_call 52
    refine Calls.mono (HOn.out _) ?_
    rintro e w3 ⟨rfl, hw3⟩; rw [hw3]; clear hw3 w3
    go_wp2_with fail
    refine hK.out _ _ hH2 (fun hHeld2 => ?_)
    clear hK K hHeld
    have hHeld := hHeld2
    clear hHeld2
    try simp only [Act.put, List.setIfInBounds_toArray, List.set_cons_zero, List.set_cons_succ, List.getElem_toArray, List.getElem_cons_succ, List.getElem_cons_zero]
    refine wpAnyH_take (i := 11) (v := (.int .i64 ((db : Int) + (pb : Int)))) rfl (by kernel_rfl) (by kernel_rfl) (by kernel_rfl) (fun _ _ _ h => h) (Or.inl ⟨by rfl, ?hy9⟩) hHeld ?rr9
    case hy9 => (intro w' hSw; have q1 := (cells_of_heap hSw.1).1; have q2 := (cells_of_heap hSw.2).1; go_simp; try with_reducible rfl; try exact hwr)
    try simp only [Act.put, List.setIfInBounds_toArray, List.set_cons_zero, List.set_cons_succ, List.getElem_toArray, List.getElem_cons_succ, List.getElem_cons_zero]
    refine wpAnyH_take (i := 12) (v := (.int .i64 ((db : Int) + (pb : Int)))) rfl (by kernel_rfl) (by kernel_rfl) (by kernel_rfl) (fun _ _ _ h => h) (Or.inl ⟨by rfl, ?hy10⟩) hHeld ?rr10
    case hy10 => (intro w' hSw; have q1 := (cells_of_heap hSw.1).1; have q2 := (cells_of_heap hSw.2).1; go_simp; try with_reducible rfl)
    try simp only [Act.put, List.setIfInBounds_toArray, List.set_cons_zero, List.set_cons_succ, List.getElem_toArray, List.getElem_cons_succ, List.getElem_cons_zero]
    refine wpAnyH_done (by kernel_rfl) ?_ _
    clear hHeld
    have q2 := (cells_of_heap hH2.1).1
    have q3 := (cells_of_heap hH2.2).1
    go_wp2_with (first | (go_at_call 30; refine (HTi.out _).mono ?_; rintro e w5 ⟨rfl, hb5⟩; have q4 := (cells_of_heap ((hb5.block _ (heap_lt hH2.1)).trans hH2.1)).1; have q5 := (cells_of_heap ((hb5.block _ (heap_lt hH2.2)).trans hH2.2)).1; have HB5 := Lib.hid (HB2.out.trans (hb5.mono HB2.out.size)); clear hb5) | (go_at_call 54; refine (HHas.out _).mono ?_; rintro e w9 ⟨rfl, hw9⟩; rw [hw9]; clear hw9 w9) | (go_at_call 55; refine (HTo.out _).mono ?_; rintro e w6 ⟨rfl, hb6⟩; have HB6 := Lib.hid (HB5.out.trans (hb6.mono HB5.out.size)); clear hb6))
    go_ret
    first | exact ⟨ret_int (by rw [HRR.out]; simp), HB6.out⟩ | exact ⟨ret_int (by rw [HRR.out]; simp), HB5.out⟩
  · go_enter Tryd.func31, Tryd.ntmps31
    go_wp2_with (go_at_call 53; refine (HMd.out _ (HV.out _ ((below_alloc w _).alloc (by simp) _)).tab).mono ?_; rintro e w1 ⟨rfl, hb1⟩; have HB1 := Lib.hid (((below_alloc w _).alloc (by simp) _).trans (hb1.mono (by simp; omega))); have hsp := (hb1.block _ (by simp; omega)).trans (heap_old (.cells (dateC y ((k : Int) + 1) dd h mi sec wk) 43) (by simp) (heap_new w (.cells (specC smi sho sda smo swe ad aw) 24))); have hdt : w1.heap[w.heap.size + 1]? = some (.cells (dateC y ((k : Int) + 1) dd h mi sec wk) 43 (0, 0)) := (by
      have h8 := heap_new (w.alloc (.cells (specC smi sho sda smo swe ad aw) 24)) (.cells (dateC y ((k : Int) + 1) dd h mi sec wk) 43)
      rw [World.size_alloc] at h8
      exact (hb1.block _ (by simp)).trans h8); have HSp := Lib.hid hsp; have HDt := Lib.hid hdt; clear hb1 hsp hdt)
    have hS0 : (fun V : World => V.heap[w.heap.size]? = some (.cells (specC smi sho sda smo swe ad aw) 24 (0, 0)) ∧ V.heap[w.heap.size + 1]? = some (.cells (dateC y ((k : Int) + 1) dd h mi sec wk) 43 (0, 0))) w1.drew := ⟨HSp.out, HDt.out⟩
    have hwr : IntKind.i64.wrap ((db : Int) + (pb : Int)) = (db : Int) + (pb : Int) := by simp [IntKind.wrap, IntKind.signed, IntKind.bits]; omega
    refine wp_region_held_drew (S := (fun V : World => V.heap[w.heap.size]? = some (.cells (specC smi sho sda smo swe ad aw) 24 (0, 0)) ∧ V.heap[w.heap.size + 1]? = some (.cells (dateC y ((k : Int) + 1) dd h mi sec wk) 43 (0, 0)))) (by kernel_rfl) hS0 (fun hHeld => ?_)
    refine wpAnyH_take (i := 0) (v := (spV ⟨smi, sho, sda, smo, swe, ad, aw⟩)) rfl (by kernel_rfl) (by kernel_rfl) (by kernel_rfl) (fun _ _ _ h => h) (Or.inl ⟨by rfl, ?hy11⟩) hHeld ?rr11
    case hy11 => (intro w' hSw; have q1 := (cells_of_heap hSw.1).1; have q2 := (cells_of_heap hSw.2).1; go_simp; try with_reducible rfl)
    try simp only [Act.put, List.setIfInBounds_toArray, List.set_cons_zero, List.set_cons_succ, List.getElem_toArray, List.getElem_cons_succ, List.getElem_cons_zero]
    refine wpAnyH_take (i := 1) (v := (.pointer (some ⟨w.heap.size + 1, 0, none⟩))) rfl (by kernel_rfl) (by kernel_rfl) (by kernel_rfl) (fun _ _ _ h => h) (Or.inl ⟨by rfl, ?hy12⟩) hHeld ?rr12
    case hy12 => (intro w' hSw; have q1 := (cells_of_heap hSw.1).1; have q2 := (cells_of_heap hSw.2).1; go_simp; try with_reducible rfl)
    try simp only [Act.put, List.setIfInBounds_toArray, List.set_cons_zero, List.set_cons_succ, List.getElem_toArray, List.getElem_cons_succ, List.getElem_cons_zero]
    refine wpAnyH_take (i := 2) (v := (.int .i64 y)) rfl (by kernel_rfl) (by kernel_rfl) (by kernel_rfl) (fun _ _ _ h => h) (Or.inl ⟨by rfl, ?hy13⟩) hHeld ?rr13
    case hy13 => (intro w' hSw; have q1 := (cells_of_heap hSw.1).1; have q2 := (cells_of_heap hSw.2).1; go_simp; try with_reducible rfl)
    try simp only [Act.put, List.setIfInBounds_toArray, List.set_cons_zero, List.set_cons_succ, List.getElem_toArray, List.getElem_cons_succ, List.getElem_cons_zero]
    refine wpAnyH_take (i := 3) (v := (.pointer (some ⟨w.heap.size + 1, 1, none⟩))) rfl (by kernel_rfl) (by kernel_rfl) (by kernel_rfl) (fun _ _ _ h => h) (Or.inl ⟨by rfl, ?hy14⟩) hHeld ?rr14
    case hy14 => (intro w' hSw; have q1 := (cells_of_heap hSw.1).1; have q2 := (cells_of_heap hSw.2).1; go_simp; try with_reducible rfl)
    try simp only [Act.put, List.setIfInBounds_toArray, List.set_cons_zero, List.set_cons_succ, List.getElem_toArray, List.getElem_cons_succ, List.getElem_cons_zero]
    refine wpAnyH_take (i := 4) (v := (.int .i64 ((k : Int) + 1))) rfl (by kernel_rfl) (by kernel_rfl) (by kernel_rfl) (fun _ _ _ h => h) (Or.inl ⟨by rfl, ?hy15⟩) hHeld ?rr15
    case hy15 => (intro w' hSw; have q1 := (cells_of_heap hSw.1).1; have q2 := (cells_of_heap hSw.2).1; go_simp; try with_reducible rfl)
    try simp only [Act.put, List.setIfInBounds_toArray, List.set_cons_zero, List.set_cons_succ, List.getElem_toArray, List.getElem_cons_succ, List.getElem_cons_zero]
    refine wpAnyH_take (i := 6) (v := (.int .u64 md)) rfl (by kernel_rfl) (by kernel_rfl) (by kernel_rfl) (fun _ _ _ h => h) (Or.inl ⟨by rfl, ?hy16⟩) hHeld ?rr16
    case hy16 => (intro w' hSw; have q1 := (cells_of_heap hSw.1).1; have q2 := (cells_of_heap hSw.2).1; go_simp; try with_reducible rfl)
    try simp only [Act.put, List.setIfInBounds_toArray, List.set_cons_zero, List.set_cons_succ, List.getElem_toArray, List.getElem_cons_succ, List.getElem_cons_zero]
    refine wpAnyH_take (i := 7) (v := (.pointer (some ⟨w.heap.size + 1, 2, none⟩))) rfl (by kernel_rfl) (by kernel_rfl) (by kernel_rfl) (fun _ _ _ h => h) (Or.inl ⟨by rfl, ?hy17⟩) hHeld ?rr17
    case hy17 => (intro w' hSw; have q1 := (cells_of_heap hSw.1).1; have q2 := (cells_of_heap hSw.2).1; go_simp; try with_reducible rfl)
    try simp only [Act.put, List.setIfInBounds_toArray, List.set_cons_zero, List.set_cons_succ, List.getElem_toArray, List.getElem_cons_succ, List.getElem_cons_zero]
    refine wpAnyH_take (i := 8) (v := (.int .i64 dd)) rfl (by kernel_rfl) (by kernel_rfl) (by kernel_rfl) (fun _ _ _ h => h) (Or.inl ⟨by rfl, ?hy18⟩) hHeld ?rr18
    case hy18 => (intro w' hSw; have q1 := (cells_of_heap hSw.1).1; have q2 := (cells_of_heap hSw.2).1; go_simp; try with_reducible rfl)
    try simp only [Act.put, List.setIfInBounds_toArray, List.set_cons_zero, List.set_cons_succ, List.getElem_toArray, List.getElem_cons_succ, List.getElem_cons_zero]
    refine wpAnyH_ready (rs := [5]) (by kernel_rfl) (by simp) ?_
    refine AllReadyH.cons rfl (fun K hK => ?_) AllReadyH.nil
    try rw [if_pos (by rfl)]
    go_simp
    go_at_call 37
    refine Calls.mono (HDb.out _ (HV.out _ HB1.out.drew).tab) ?_
    rintro e w2 ⟨rfl, hb2⟩
    have hH2 := And.intro ((hb2.block _ (show w.heap.size < w1.heap.size from heap_lt HSp.out)).trans HSp.out) ((hb2.block _ (show w.heap.size + 1 < w1.heap.size from heap_lt HDt.out)).trans HDt.out)
    have HB2 := Lib.hid (HB1.out.drew.trans (hb2.mono (show w.heap.size ≤ w1.heap.size from HB1.out.size)))
    clear hb2
    go_wp2_with fail
    refine hK.out _ _ hH2 (fun hHeld2 => ?_)
    clear hK K hHeld
    have hHeld := hHeld2
    clear hHeld2
    try simp only [Act.put, List.setIfInBounds_toArray, List.set_cons_zero, List.set_cons_succ, List.getElem_toArray, List.getElem_cons_succ, List.getElem_cons_zero]
    refine wpAnyH_ready (rs := [9]) (by kernel_rfl) (by simp) ?_
    refine AllReadyH.cons rfl (fun K hK => ?_) AllReadyH.nil
    try rw [if_pos (by rfl)]
    go_simp
    go_at_call 46
    refine Calls.mono (HBl.out _) ?_
    rintro e w3 ⟨rfl, hw3⟩; rw [hw3]; clear hw3 w3
    go_wp2_with fail
    refine hK.out _ _ hH2 (fun hHeld2 => ?_)
    clear hK K hHeld
    have hHeld := hHeld2
    clear hHeld2
    try simp only [Act.put, List.setIfInBounds_toArray, List.set_cons_zero, List.set_cons_succ, List.getElem_toArray, List.getElem_cons_succ, List.getElem_cons_zero]
    refine wpAnyH_ready (rs := [10]) (by kernel_rfl) (by simp) ?_
    refine AllReadyH.cons rfl (fun K hK => ?_) AllReadyH.nil
    try rw [if_pos (by rfl)]
    go_simp
    go_at_call 52
    refine Calls.mono (HOn.out _) ?_
    rintro e w3 ⟨rfl, hw3⟩; rw [hw3]; clear hw3 w3
    go_wp2_with fail
    refine hK.out _ _ hH2 (fun hHeld2 => ?_)
    clear hK K hHeld
    have hHeld := hHeld2
    clear hHeld2
    try simp only [Act.put, List.setIfInBounds_toArray, List.set_cons_zero, List.set_cons_succ, List.getElem_toArray, List.getElem_cons_succ, List.getElem_cons_zero]
    refine wpAnyH_take (i := 11) (v := (.int .i64 ((db : Int) + (pb : Int)))) rfl (by kernel_rfl) (by kernel_rfl) (by kernel_rfl) (fun _ _ _ h => h) (Or.inl ⟨by rfl, ?hy19⟩) hHeld ?rr19
    case hy19 => (intro w' hSw; have q1 := (cells_of_heap hSw.1).1; have q2 := (cells_of_heap hSw.2).1; go_simp; try with_reducible rfl; try exact hwr)
    try simp only [Act.put, List.setIfInBounds_toArray, List.set_cons_zero, List.set_cons_succ, List.getElem_toArray, List.getElem_cons_succ, List.getElem_cons_zero]
    refine wpAnyH_take (i := 12) (v := (.int .i64 ((db : Int) + (pb : Int)))) rfl (by kernel_rfl) (by kernel_rfl) (by kernel_rfl) (fun _ _ _ h => h) (Or.inl ⟨by rfl, ?hy20⟩) hHeld ?rr20
    case hy20 => (intro w' hSw; have q1 := (cells_of_heap hSw.1).1; have q2 := (cells_of_heap hSw.2).1; go_simp; try with_reducible rfl)
    try simp only [Act.put, List.setIfInBounds_toArray, List.set_cons_zero, List.set_cons_succ, List.getElem_toArray, List.getElem_cons_succ, List.getElem_cons_zero]
    refine wpAnyH_done (by kernel_rfl) ?_ _
    clear hHeld
    have q2 := (cells_of_heap hH2.1).1
    have q3 := (cells_of_heap hH2.2).1
    go_wp2_with (first | (go_at_call 30; refine (HTi.out _).mono ?_; rintro e w5 ⟨rfl, hb5⟩; have q4 := (cells_of_heap ((hb5.block _ (heap_lt hH2.1)).trans hH2.1)).1; have q5 := (cells_of_heap ((hb5.block _ (heap_lt hH2.2)).trans hH2.2)).1; have HB5 := Lib.hid (HB2.out.trans (hb5.mono HB2.out.size)); clear hb5) | (go_at_call 54; refine (HHas.out _).mono ?_; rintro e w9 ⟨rfl, hw9⟩; rw [hw9]; clear hw9 w9) | (go_at_call 55; refine (HTo.out _).mono ?_; rintro e w6 ⟨rfl, hb6⟩; have HB6 := Lib.hid (HB5.out.trans (hb6.mono HB5.out.size)); clear hb6))
    go_ret
    first | exact ⟨ret_int (by rw [HRR.out]; simp), HB6.out⟩ | exact ⟨ret_int (by rw [HRR.out]; simp), HB5.out⟩
end Go.Proofs.YtnijneajlmgkjaaDoor
