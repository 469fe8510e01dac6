/- Walks of package next: Count. -/
import Derived.Test.YtnijneajlmgkjaaDoorNxtMd
set_option linter.unusedSimpArgs false
set_option linter.unusedVariables false
namespace Go.Proofs.YtnijneajlmgkjaaDoor
open Go.ChangeShapes Go.WideShapes Go.ChangeAt Go.RowKit Go.Base Go.Civ Go.Nxt Go.Cro

theorem count_no (s : Sp) (a b : Int) (h : mayB s = false ∨ bndB b ≤ bndB a) (w : World) (hv : Vars w) :
    Calls Tryd.prog 12 #[spV s, .int .i64 a, .int .i64 b] w fun e w' => e = .returned (.int .i64 0) ∧ Below w.heap.size w w' := by
  have HA := Lib.hid (fun V => bounded_any a V)
  have HB := Lib.hid (fun V => bounded_any b V)
  have HMy := Lib.hid (fun V hV => may_any s V hV)
  have HV := Lib.hid (fun (w' : World) (hb : Below w.heap.size w w') => hv.later hb)
  clear hv
  by_cases hm : mayB s = false
  · rw [hm] at HMy
    clear h hm
    generalize bndB a = a9 at *
    generalize bndB b = b9 at *
    obtain ⟨smi, sho, sda, smo, swe, ad, aw⟩ := s
    simp only [spV] at HMy ⊢
    have tA : True := trivial
    go_enter Tryd.func12, Tryd.ntmps12
    go_wp2_with (first | (clear tA; go_at_call 28; refine (HA.out _).mono ?_; rintro e w9 ⟨rfl, hw9⟩; rw [hw9]; clear hw9 w9) | (go_at_call 28; refine (HB.out _).mono ?_; rintro e w9 ⟨rfl, hw9⟩; rw [hw9]; clear hw9 w9) | (go_at_call 17; refine (HMy.out _ (HV.out _ (below_alloc w _)).sc).mono ?_; rintro e w1 ⟨rfl, hb1⟩; have HB1 := Lib.hid ((below_alloc w _).trans (hb1.mono (by simp))); clear hb1))
    go_ret
    exact ⟨rfl, HB1.out⟩
  · have hm' : mayB s = true := by cases h9 : mayB s; exact absurd h9 hm; rfl
    rw [hm'] at HMy
    have hle : bndB b ≤ bndB a := by rcases h with h | h; exact absurd h hm; exact h
    clear h hm hm'
    generalize bndB a = a9 at *
    generalize bndB b = b9 at *
    obtain ⟨smi, sho, sda, smo, swe, ad, aw⟩ := s
    simp only [spV] at HMy ⊢
    have tA : True := trivial
    go_enter Tryd.func12, Tryd.ntmps12
    go_wp2_with (first | (clear tA; go_at_call 28; refine (HA.out _).mono ?_; rintro e w9 ⟨rfl, hw9⟩; rw [hw9]; clear hw9 w9) | (go_at_call 28; refine (HB.out _).mono ?_; rintro e w9 ⟨rfl, hw9⟩; rw [hw9]; clear hw9 w9) | (go_at_call 17; refine (HMy.out _ (HV.out _ (below_alloc w _)).sc).mono ?_; rintro e w1 ⟨rfl, hb1⟩; have HB1 := Lib.hid ((below_alloc w _).trans (hb1.mono (by simp))); clear hb1))
    go_ret
    exact ⟨rfl, HB1.out⟩

/-- How many moments lie from one time on, ahead of another one. -/
def countR (s : Sp) (H M : Nat) (y1 : Int) (k1 d1 h1 m1 : Nat) (s1 : Int) (ny : Nat) (y2 : Int) (k2 d2 h2 m2 : Nat) (s2 : Int) : Int :=
  (DB s (y1 * 12) (12 * ny) : Int) * ((pc H * pc M : Nat) : Int) + (passedR s H M y2 k2 d2 h2 m2 s2 : Int) - (passedR s H M y1 k1 d1 h1 m1 s1 : Int)
theorem passedR_le (s : Sp) (H M : Nat) (y : Int) (k dd h mi : Nat) (sec : Int) (hk : k < 12) : passedR s H M y k dd h mi sec ≤ 832 * 4096 + 4160 := by
  unfold passedR
  have h1 := DB_le s (y * 12) k
  have h2 := pc_le (mdays s (y * 12 + ((k : Int) + 1) - 1) % 2 ^ dd)
  have h3 : pc H * pc M ≤ 64 * 64 := Nat.mul_le_mul (pc_le _) (pc_le _)
  have h4 : (DB s (y * 12) k + pc (mdays s (y * 12 + ((k : Int) + 1) - 1) % 2 ^ dd)) * (pc H * pc M) ≤ 832 * 4096 := Nat.mul_le_mul (by omega) h3
  have h5 := todayR_le H M h mi sec
  split <;> omega

set_option maxHeartbeats 4000000 in
set_option maxRecDepth 100000 in
theorem count_ok (s : Sp) (hs : SpOk s) (hm : mayB s = true) (H M : Nat) (hM : s.mi = M) (hH : s.ho = H) (u1 : H < 18446744073709551616) (u2 : M < 18446744073709551616) (a b : Int) (hlt : bndB a < bndB b)
    (n1 y1 : Int) (k1 d1 h1 m1 : Nat) (s1 : Int) (A1 : At (bndB a) n1 y1 k1 s1) (e1 : n1 + 719162 - ah y1 - cum y1 k1 + 1 = d1) (e2 : s1 / 3600 = h1) (e3 : s1 % 3600 / 60 = m1)
    (n2 : Int) (ny : Nat) (k2 d2 h2 m2 : Nat) (s2 : Int) (A2 : At (bndB b) n2 (y1 + ny) k2 s2) (f1 : n2 + 719162 - ah (y1 + ny) - cum (y1 + ny) k2 + 1 = d2) (f2 : s2 / 3600 = h2) (f3 : s2 % 3600 / 60 = m2) (w : World) (hv : Vars w) :
    Calls Tryd.prog 12 #[spV s, .int .i64 a, .int .i64 b] w fun e w' => e = .returned (.int .i64 (countR s H M y1 k1 d1 h1 m1 (s1 % 60) ny (y1 + ny) k2 d2 h2 m2 (s2 % 60))) ∧ Below w.heap.size w w' := by
  have g1 := at_date A1
  have g2 := at_date A2
  have hk1 := A1.k1
  have hk2 := A2.k1
  have hy1 := A1.y0
  have hy1' := A1.y1
  have hy2' := A2.y1
  have HA := Lib.hid (fun V => bounded_any a V)
  have HB := Lib.hid (fun V => bounded_any b V)
  have HMy := Lib.hid (fun V hV => may_any s V hV)
  have HV := Lib.hid (fun (w' : World) (hb : Below w.heap.size w w') => hv.later hb)
  have hO1 := fun V hV => of_at (bndB a) n1 y1 k1 s1 V hV A1
  have hO2 := fun V hV => of_at (bndB b) n2 (y1 + ny) k2 s2 V hV A2
  simp only [e1, e2, e3] at hO1
  simp only [f1, f2, f3] at hO2
  have HO1 := Lib.hid hO1
  have HO2 := Lib.hid hO2
  have HD := Lib.hid (fun V hV => daysOfYears_any s hs hm y1 ny hy1 hy2' V hV)
  have HT := Lib.hid (fun V => times_any s H M hM hH u1 u2 V)
  have HP1 := Lib.hid (fun V hV => passed_any s hs H M hM hH u1 u2 y1 k1 d1 h1 m1 (s1 % 60) (wd n1) hy1 hy1' hk1 (by omega) (by omega) (by omega) V hV)
  have HP2 := Lib.hid (fun V hV => passed_any s hs H M hM hH u1 u2 (y1 + ny) k2 d2 h2 m2 (s2 % 60) (wd n2) (by omega) hy2' hk2 (by omega) (by omega) (by omega) V hV)
  have l1 := DB_le s (y1 * 12) (12 * ny)
  have l2 : pc H * pc M ≤ 64 * 64 := Nat.mul_le_mul (pc_le _) (pc_le _)
  have l3 := passedR_le s H M y1 k1 d1 h1 m1 (s1 % 60) hk1
  have l4 := passedR_le s H M (y1 + ny) k2 d2 h2 m2 (s2 % 60) hk2
  have hR : countR s H M y1 k1 d1 h1 m1 (s1 % 60) ny (y1 + ny) k2 d2 h2 m2 (s2 % 60) = (DB s (y1 * 12) (12 * ny) : Int) * ((pc H * pc M : Nat) : Int) + (passedR s H M (y1 + ny) k2 d2 h2 m2 (s2 % 60) : Int) - (passedR s H M y1 k1 d1 h1 m1 (s1 % 60) : Int) := rfl
  rw [hR]
  rw [hm] at HMy
  generalize DB s (y1 * 12) (12 * ny) = D at *
  generalize pc H * pc M = T at *
  generalize passedR s H M y1 k1 d1 h1 m1 (s1 % 60) = P1 at *
  generalize passedR s H M (y1 + ny) k2 d2 h2 m2 (s2 % 60) = P2 at *
  have hny : ny ≤ 9998 := by omega
  have hmul : 0 ≤ (D : Int) * (T : Int) ∧ (D : Int) * (T : Int) ≤ 7678464 * 4096 := ⟨Int.mul_nonneg (by omega) (by omega), Int.mul_le_mul (by omega) (by omega) (by omega) (by omega)⟩
  obtain ⟨p1, p2⟩ := hmul
  clear hv hs hm hM hH A1 A2 e1 e2 e3 f1 f2 f3 hO1 hO2 g1 g2 hR u1 u2
  generalize bndB a = a9 at *
  generalize bndB b = b9 at *
  generalize wd n1 = v1 at *
  generalize wd n2 = v2 at *
  generalize s1 % 60 = c1 at *
  generalize s2 % 60 = c2 at *
  generalize y1 + (ny : Int) = y2 at *
  obtain ⟨smi, sho, sda, smo, swe, ad, aw⟩ := s
  simp only [spV] at HMy HD HT HP1 HP2 ⊢
  have tA : True := trivial
  have tB : True := trivial
  go_enter Tryd.func12, Tryd.ntmps12
  go_wp2_with (first | (clear tA; go_at_call 28; refine (HA.out _).mono ?_; rintro e w9 ⟨rfl, hw9⟩; rw [hw9]; clear hw9 w9) | (go_at_call 28; refine (HB.out _).mono ?_; rintro e w9 ⟨rfl, hw9⟩; rw [hw9]; clear hw9 w9) | (go_at_call 17; refine (HMy.out _ (HV.out _ (below_alloc w _)).sc).mono ?_; rintro e w1 ⟨rfl, hb1⟩; have HB1 := Lib.hid ((below_alloc w _).trans (hb1.mono (by simp))); have hsp := (hb1.block _ (by simp)).trans (heap_new w _); have HSp := Lib.hid hsp; clear hb1 hsp) | (clear tB; go_at_call 25; refine (HO1.out _ (HV.out _ HB1.out).tab).mono ?_; rintro e w2 ⟨rfl, hb2⟩; have HB2 := Lib.hid (HB1.out.trans (hb2.mono HB1.out.size)); have hsp := (hb2.block _ (heap_lt HSp.out)).trans HSp.out; have HSp2 := Lib.hid hsp; clear hb2 hsp) | (go_at_call 25; refine (HO2.out _ (HV.out _ (HB2.out.alloc HB2.out.size _)).tab).mono ?_; rintro e w3 ⟨rfl, hb3⟩; have HB3 := Lib.hid ((HB2.out.alloc HB2.out.size _).trans (hb3.mono (by simp; have := HB2.out.size; omega))); have hsp := (hb3.block _ (by simp; have := heap_lt HSp2.out; omega)).trans (heap_old _ (heap_lt HSp2.out) HSp2.out); have hd1 := (hb3.block _ (by simp)).trans (heap_new w2 _); have HSp3 := Lib.hid hsp; have HD1 := Lib.hid hd1; clear hb3 hsp hd1))
  refine at_world (C := fun V => Code.wp _ _ _ _ V) (P := fun V => Below w.heap.size w V ∧ V.heap[w.heap.size]? = some (.cells (specC smi sho sda smo swe ad aw) 24 (0, 0)) ∧ V.heap[w2.heap.size]? = some (.cells (dateC y1 ((k1 : Int) + 1) d1 h1 m1 c1 v1) 43 (0, 0)) ∧ V.heap[w3.heap.size]? = some (.cells (dateC y2 ((k2 : Int) + 1) d2 h2 m2 c2 v2) 43 (0, 0)))
    ⟨HB3.out.alloc HB3.out.size _, heap_old _ (heap_lt HSp3.out) HSp3.out, heap_old _ (heap_lt HD1.out) HD1.out, heap_new w3 _⟩ (fun V hV => ?_)
  obtain ⟨hB4, hS4⟩ := hV
  have HB4 := Lib.hid hB4
  have hwr1 : IntKind.i64.wrap ((D : Int) * (T : Int)) = (D : Int) * (T : Int) := by simp [IntKind.wrap, IntKind.signed, IntKind.bits]; omega
  have hwr2 : IntKind.i64.wrap ((D : Int) * (T : Int) + (P2 : Int)) = (D : Int) * (T : Int) + (P2 : Int) := by simp [IntKind.wrap, IntKind.signed, IntKind.bits]; omega
  have hwr3 : IntKind.i64.wrap ((D : Int) * (T : Int) + (P2 : Int) - (P1 : Int)) = (D : Int) * (T : Int) + (P2 : Int) - (P1 : Int) := by simp [IntKind.wrap, IntKind.signed, IntKind.bits]; omega
  have hS0 : (fun V : World => V.heap[w.heap.size]? = some (.cells (specC smi sho sda smo swe ad aw) 24 (0, 0)) ∧ V.heap[w2.heap.size]? = some (.cells (dateC y1 ((k1 : Int) + 1) d1 h1 m1 c1 v1) 43 (0, 0)) ∧ V.heap[w3.heap.size]? = some (.cells (dateC y2 ((k2 : Int) + 1) d2 h2 m2 c2 v2) 43 (0, 0))) V.drew := hS4
  refine wp_region_held_drew (S := (fun V : World => V.heap[w.heap.size]? = some (.cells (specC smi sho sda smo swe ad aw) 24 (0, 0)) ∧ V.heap[w2.heap.size]? = some (.cells (dateC y1 ((k1 : Int) + 1) d1 h1 m1 c1 v1) 43 (0, 0)) ∧ V.heap[w3.heap.size]? = some (.cells (dateC y2 ((k2 : Int) + 1) d2 h2 m2 c2 v2) 43 (0, 0)))) (by kernel_rfl) hS0 (fun hHeld => ?_)
  refine wpAnyH_take (i := 0) (v := (spV ⟨smi, sho, sda, smo, swe, ad, aw⟩)) rfl (by kernel_rfl) (by kernel_rfl) (by kernel_rfl) (fun _ _ _ h => h) (Or.inl ⟨by rfl, ?hy1⟩) hHeld ?rr1
  case hy1 => (intro w' hSw; have q1 := (cells_of_heap hSw.1).1; have q2 := (cells_of_heap hSw.2.1).1; have q3 := (cells_of_heap hSw.2.2).1; go_simp; try with_reducible rfl)
  try simp only [Act.put, List.setIfInBounds_toArray, List.set_cons_zero, List.set_cons_succ, List.getElem_toArray, List.getElem_cons_succ, List.getElem_cons_zero]
  refine wpAnyH_take (i := 1) (v := (.pointer (some ⟨w2.heap.size, 0, none⟩))) rfl (by kernel_rfl) (by kernel_rfl) (by kernel_rfl) (fun _ _ _ h => h) (Or.inl ⟨by rfl, ?hy2⟩) hHeld ?rr2
  case hy2 => (intro w' hSw; have q1 := (cells_of_heap hSw.1).1; have q2 := (cells_of_heap hSw.2.1).1; have q3 := (cells_of_heap hSw.2.2).1; go_simp; try with_reducible rfl)
  try simp only [Act.put, List.setIfInBounds_toArray, List.set_cons_zero, List.set_cons_succ, List.getElem_toArray, List.getElem_cons_succ, List.getElem_cons_zero]
  refine wpAnyH_take (i := 2) (v := (.int .i64 y1)) rfl (by kernel_rfl) (by kernel_rfl) (by kernel_rfl) (fun _ _ _ h => h) (Or.inl ⟨by rfl, ?hy3⟩) hHeld ?rr3
  case hy3 => (intro w' hSw; have q1 := (cells_of_heap hSw.1).1; have q2 := (cells_of_heap hSw.2.1).1; have q3 := (cells_of_heap hSw.2.2).1; go_simp; try with_reducible rfl)
  try simp only [Act.put, List.setIfInBounds_toArray, List.set_cons_zero, List.set_cons_succ, List.getElem_toArray, List.getElem_cons_succ, List.getElem_cons_zero]
  refine wpAnyH_take (i := 3) (v := (.pointer (some ⟨w3.heap.size, 0, none⟩))) rfl (by kernel_rfl) (by kernel_rfl) (by kernel_rfl) (fun _ _ _ h => h) (Or.inl ⟨by rfl, ?hy4⟩) hHeld ?rr4
  case hy4 => (intro w' hSw; have q1 := (cells_of_heap hSw.1).1; have q2 := (cells_of_heap hSw.2.1).1; have q3 := (cells_of_heap hSw.2.2).1; go_simp; try with_reducible rfl)
  try simp only [Act.put, List.setIfInBounds_toArray, List.set_cons_zero, List.set_cons_succ, List.getElem_toArray, List.getElem_cons_succ, List.getElem_cons_zero]
  refine wpAnyH_take (i := 4) (v := (.int .i64 y2)) rfl (by kernel_rfl) (by kernel_rfl) (by kernel_rfl) (fun _ _ _ h => h) (Or.inl ⟨by rfl, ?hy5⟩) hHeld ?rr5
  case hy5 => (intro w' hSw; have q1 := (cells_of_heap hSw.1).1; have q2 := (cells_of_heap hSw.2.1).1; have q3 := (cells_of_heap hSw.2.2).1; go_simp; try with_reducible rfl)
  try simp only [Act.put, List.setIfInBounds_toArray, List.set_cons_zero, List.set_cons_succ, List.getElem_toArray, List.getElem_cons_succ, List.getElem_cons_zero]
  refine wpAnyH_take (i := 6) (v := (spV ⟨smi, sho, sda, smo, swe, ad, aw⟩)) rfl (by kernel_rfl) (by kernel_rfl) (by kernel_rfl) (fun _ _ _ h => h) (Or.inl ⟨by rfl, ?hy6⟩) hHeld ?rr6
  case hy6 => (intro w' hSw; have q1 := (cells_of_heap hSw.1).1; have q2 := (cells_of_heap hSw.2.1).1; have q3 := (cells_of_heap hSw.2.2).1; go_simp; try with_reducible rfl)
  try simp only [Act.put, List.setIfInBounds_toArray, List.set_cons_zero, List.set_cons_succ, List.getElem_toArray, List.getElem_cons_succ, List.getElem_cons_zero]
  refine wpAnyH_take (i := 9) (v := (spV ⟨smi, sho, sda, smo, swe, ad, aw⟩)) rfl (by kernel_rfl) (by kernel_rfl) (by kernel_rfl) (fun _ _ _ h => h) (Or.inl ⟨by rfl, ?hy7⟩) hHeld ?rr7
  case hy7 => (intro w' hSw; have q1 := (cells_of_heap hSw.1).1; have q2 := (cells_of_heap hSw.2.1).1; have q3 := (cells_of_heap hSw.2.2).1; go_simp; try with_reducible rfl)
  try simp only [Act.put, List.setIfInBounds_toArray, List.set_cons_zero, List.set_cons_succ, List.getElem_toArray, List.getElem_cons_succ, List.getElem_cons_zero]
  refine wpAnyH_take (i := 10) (v := (dateV y2 ((k2 : Int) + 1) d2 h2 m2 c2 v2)) rfl (by kernel_rfl) (by kernel_rfl) (by kernel_rfl) (fun _ _ _ h => h) (Or.inl ⟨by rfl, ?hy8⟩) hHeld ?rr8
  case hy8 => (intro w' hSw; have q1 := (cells_of_heap hSw.1).1; have q2 := (cells_of_heap hSw.2.1).1; have q3 := (cells_of_heap hSw.2.2).1; go_simp; try with_reducible rfl)
  try simp only [Act.put, List.setIfInBounds_toArray, List.set_cons_zero, List.set_cons_succ, List.getElem_toArray, List.getElem_cons_succ, List.getElem_cons_zero]
  refine wpAnyH_take (i := 13) (v := (spV ⟨smi, sho, sda, smo, swe, ad, aw⟩)) rfl (by kernel_rfl) (by kernel_rfl) (by kernel_rfl) (fun _ _ _ h => h) (Or.inl ⟨by rfl, ?hy9⟩) hHeld ?rr9
  case hy9 => (intro w' hSw; have q1 := (cells_of_heap hSw.1).1; have q2 := (cells_of_heap hSw.2.1).1; have q3 := (cells_of_heap hSw.2.2).1; go_simp; try with_reducible rfl)
  try simp only [Act.put, List.setIfInBounds_toArray, List.set_cons_zero, List.set_cons_succ, List.getElem_toArray, List.getElem_cons_succ, List.getElem_cons_zero]
  refine wpAnyH_take (i := 14) (v := (dateV y1 ((k1 : Int) + 1) d1 h1 m1 c1 v1)) rfl (by kernel_rfl) (by kernel_rfl) (by kernel_rfl) (fun _ _ _ h => h) (Or.inl ⟨by rfl, ?hy10⟩) hHeld ?rr10
  case hy10 => (intro w' hSw; have q1 := (cells_of_heap hSw.1).1; have q2 := (cells_of_heap hSw.2.1).1; have q3 := (cells_of_heap hSw.2.2).1; go_simp; try with_reducible rfl)
  try simp only [Act.put, List.setIfInBounds_toArray, List.set_cons_zero, List.set_cons_succ, List.getElem_toArray, List.getElem_cons_succ, List.getElem_cons_zero]
  refine wpAnyH_ready (rs := [5]) (by kernel_rfl) (by simp) ?_
  refine AllReadyH.cons rfl (fun K hK => ?_) AllReadyH.nil
  try rw [if_pos (by rfl)]
  go_simp
  go_at_call 29
  refine Calls.mono (HD.out _ (HV.out _ HB4.out.drew)) ?_
  rintro e w5 ⟨rfl, hb⟩
  have hS5 := And.intro ((hb.block _ (show w.heap.size < _ from heap_lt hS4.1)).trans hS4.1) (And.intro ((hb.block _ (show w2.heap.size < _ from heap_lt hS4.2.1)).trans hS4.2.1) ((hb.block _ (show w3.heap.size < _ from heap_lt hS4.2.2)).trans hS4.2.2))
  have HB5 := Lib.hid (HB4.out.drew.trans (hb.mono (show w.heap.size ≤ _ from HB4.out.drew.size)))
  clear hb
  go_wp2_with fail
  refine hK.out _ _ hS5 (fun hHeld2 => ?_)
  clear hK K hHeld
  have hHeld := hHeld2
  clear hHeld2
  try simp only [Act.put, List.setIfInBounds_toArray, List.set_cons_zero, List.set_cons_succ, List.getElem_toArray, List.getElem_cons_succ, List.getElem_cons_zero]
  refine wpAnyH_ready (rs := [7]) (by kernel_rfl) (by simp) ?_
  refine AllReadyH.cons rfl (fun K hK => ?_) AllReadyH.nil
  try rw [if_pos (by rfl)]
  go_simp
  go_at_call 30
  refine Calls.mono (HT.out _) ?_
  rintro e w6 ⟨rfl, hb⟩
  have hS6 := And.intro ((hb.block _ (show w.heap.size < _ from heap_lt hS5.1)).trans hS5.1) (And.intro ((hb.block _ (show w2.heap.size < _ from heap_lt hS5.2.1)).trans hS5.2.1) ((hb.block _ (show w3.heap.size < _ from heap_lt hS5.2.2)).trans hS5.2.2))
  have HB6 := Lib.hid (HB5.out.trans (hb.mono (show w.heap.size ≤ _ from HB5.out.size)))
  clear hb
  go_wp2_with fail
  refine hK.out _ _ hS6 (fun hHeld2 => ?_)
  clear hK K hHeld
  have hHeld := hHeld2
  clear hHeld2
  try simp only [Act.put, List.setIfInBounds_toArray, List.set_cons_zero, List.set_cons_succ, List.getElem_toArray, List.getElem_cons_succ, List.getElem_cons_zero]
  refine wpAnyH_take (i := 8) (v := (.int .i64 ((D : Int) * (T : Int)))) rfl (by kernel_rfl) (by kernel_rfl) (by kernel_rfl) (fun _ _ _ h => h) (Or.inl ⟨by rfl, ?hy11⟩) hHeld ?rr11
  case hy11 => (intro w' hSw; have q1 := (cells_of_heap hSw.1).1; have q2 := (cells_of_heap hSw.2.1).1; have q3 := (cells_of_heap hSw.2.2).1; go_simp; try with_reducible rfl; try exact hwr1)
  try simp only [Act.put, List.setIfInBounds_toArray, List.set_cons_zero, List.set_cons_succ, List.getElem_toArray, List.getElem_cons_succ, List.getElem_cons_zero]
  refine wpAnyH_ready (rs := [11]) (by kernel_rfl) (by simp) ?_
  refine AllReadyH.cons rfl (fun K hK => ?_) AllReadyH.nil
  try rw [if_pos (by rfl)]
  go_simp
  go_at_call 31
  refine Calls.mono (HP2.out _ (HV.out _ HB6.out)) ?_
  rintro e w7 ⟨rfl, hb⟩
  have hS7 := And.intro ((hb.block _ (show w.heap.size < _ from heap_lt hS6.1)).trans hS6.1) (And.intro ((hb.block _ (show w2.heap.size < _ from heap_lt hS6.2.1)).trans hS6.2.1) ((hb.block _ (show w3.heap.size < _ from heap_lt hS6.2.2)).trans hS6.2.2))
  have HB7 := Lib.hid (HB6.out.trans (hb.mono (show w.heap.size ≤ _ from HB6.out.size)))
  clear hb
  go_wp2_with fail
  refine hK.out _ _ hS7 (fun hHeld2 => ?_)
  clear hK K hHeld
  have hHeld := hHeld2
  clear hHeld2
  try simp only [Act.put, List.setIfInBounds_toArray, List.set_cons_zero, List.set_cons_succ, List.getElem_toArray, List.getElem_cons_succ, List.getElem_cons_zero]
  refine wpAnyH_take (i := 12) (v := (.int .i64 ((D : Int) * (T : Int) + (P2 : Int)))) rfl (by kernel_rfl) (by kernel_rfl) (by kernel_rfl) (fun _ _ _ h => h) (Or.inl ⟨by rfl, ?hy12⟩) hHeld ?rr12
  case hy12 => (intro w' hSw; have q1 := (cells_of_heap hSw.1).1; have q2 := (cells_of_heap hSw.2.1).1; have q3 := (cells_of_heap hSw.2.2).1; go_simp; try with_reducible rfl; try exact hwr2)
  try simp only [Act.put, List.setIfInBounds_toArray, List.set_cons_zero, List.set_cons_succ, List.getElem_toArray, List.getElem_cons_succ, List.getElem_cons_zero]
  refine wpAnyH_ready (rs := [15]) (by kernel_rfl) (by simp) ?_
  refine AllReadyH.cons rfl (fun K hK => ?_) AllReadyH.nil
  try rw [if_pos (by rfl)]
  go_simp
  go_at_call 31
  refine Calls.mono (HP1.out _ (HV.out _ HB7.out)) ?_
  rintro e w8 ⟨rfl, hb⟩
  have hS8 := And.intro ((hb.block _ (show w.heap.size < _ from heap_lt hS7.1)).trans hS7.1) (And.intro ((hb.block _ (show w2.heap.size < _ from heap_lt hS7.2.1)).trans hS7.2.1) ((hb.block _ (show w3.heap.size < _ from heap_lt hS7.2.2)).trans hS7.2.2))
  have HB8 := Lib.hid (HB7.out.trans (hb.mono (show w.heap.size ≤ _ from HB7.out.size)))
  clear hb
  go_wp2_with fail
  refine hK.out _ _ hS8 (fun hHeld2 => ?_)
  clear hK K hHeld
  have hHeld := hHeld2
  clear hHeld2
  try simp only [Act.put, List.setIfInBounds_toArray, List.set_cons_zero, List.set_cons_succ, List.getElem_toArray, List.getElem_cons_succ, List.getElem_cons_zero]
  refine wpAnyH_take (i := 16) (v := (.int .i64 ((D : Int) * (T : Int) + (P2 : Int) - (P1 : Int)))) rfl (by kernel_rfl) (by kernel_rfl) (by kernel_rfl) (fun _ _ _ h => h) (Or.inl ⟨by rfl, ?hy13⟩) hHeld ?rr13
  case hy13 => (intro w' hSw; have q1 := (cells_of_heap hSw.1).1; have q2 := (cells_of_heap hSw.2.1).1; have q3 := (cells_of_heap hSw.2.2).1; go_simp; try with_reducible rfl; try exact hwr3)
  try simp only [Act.put, List.setIfInBounds_toArray, List.set_cons_zero, List.set_cons_succ, List.getElem_toArray, List.getElem_cons_succ, List.getElem_cons_zero]
  refine wpAnyH_take (i := 17) (v := (.int .i64 ((D : Int) * (T : Int) + (P2 : Int) - (P1 : Int)))) rfl (by kernel_rfl) (by kernel_rfl) (by kernel_rfl) (fun _ _ _ h => h) (Or.inl ⟨by rfl, ?hy14⟩) hHeld ?rr14
  case hy14 => (intro w' hSw; have q1 := (cells_of_heap hSw.1).1; have q2 := (cells_of_heap hSw.2.1).1; have q3 := (cells_of_heap hSw.2.2).1; go_simp; try with_reducible rfl)
  try simp only [Act.put, List.setIfInBounds_toArray, List.set_cons_zero, List.set_cons_succ, List.getElem_toArray, List.getElem_cons_succ, List.getElem_cons_zero]
  refine wpAnyH_done (by kernel_rfl) ?_ _
  clear hHeld
  go_wp2
  go_ret
  exact ⟨rfl, HB8.out⟩
end Go.Proofs.YtnijneajlmgkjaaDoor
