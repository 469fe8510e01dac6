/- Walks of package plan: jitters, waves of a place, may, the hosts. -/
import Derived.Test.YtnikhhbnbeljeaaGreatDoorPlnE
import Derived.IntWalk
set_option linter.unusedSimpArgs false
set_option linter.unusedVariables false
namespace Go.Proofs.YtnikhhbnbeljeaaGreatDoor.PL
open Go.ChangeShapes Go.WideShapes Go.ChangeAt Go.RowKit Go.Base Go.Lab Go.Civ Go.Wire

theorem mayJ_true {j : Jb} (h : mayJ j = true) : wordB j.name = true ∧ (0 ≤ j.jit ∧ j.jit ≤ 86400) ∧ (60 ≤ j.dea ∧ j.dea ≤ 604800 ∧ j.jit < j.dea) ∧ (0 ≤ j.wav ∧ j.wav ≤ 65536) := by
  unfold mayJ at h
  simp only [Bool.and_eq_true, wthB_iff] at h
  obtain ⟨⟨⟨⟨⟨⟨⟨⟨h1, h2⟩, h3⟩, h4⟩, h5⟩, h6⟩, h7⟩, h8⟩, h9⟩ := h
  exact ⟨h1, h4, by omega, h6⟩
set_option maxHeartbeats 4000000 in
theorem jitter_any (j : Jb) (h : Int) (hh : I64 h) (hn : j.name.length ≤ maxLen) (hj : 0 ≤ j.jit ∧ j.jit ≤ 86400) (w : World) (hP : Pow w) :
    Calls Tryz.prog 80 #[jobV j, .int .i64 h] w fun e w' => e = .returned (.int .i64 (jitN j h)) ∧ Below w.heap.size w w' := by
  have HH := Lib.hid (fun V (hV : Pow V) => itoa_any h hh V hV)
  have HL := Lib.hid (And.intro hn (itoT_len hh))
  have HR : Hid (jitN j h = MI.spr (j.jit + 1) [j.name, itoT h]) := Lib.hid rfl
  have HP := Lib.hid hP
  rw [HR.out]
  clear HR hn hP hh
  obtain ⟨nm, sp, sa, sel, sc, jit, wav, fai, par, dea, mis, bnd⟩ := j
  simp only [jobV, jobC] at *
  generalize itoT h = t2 at *
  obtain ⟨j1, j2⟩ := hj
  have hwj : IntKind.i64.wrap (jit + 1) = jit + 1 := IntWalk.i64_in _ (by omega)
  have hle : jit + 1 ≤ 9223372036854775807 := by omega
  go_enter Tryz.func80, Tryz.ntmps80
  go_wp2
  refine at_world (C := fun V => Code.wp _ _ _ _ V) (P := fun V => Below w.heap.size w V ∧ V.cell? ⟨w.heap.size, 0, none⟩ = some (.string ⟨nm.toArray⟩) ∧ V.cell? ⟨w.heap.size, 9, none⟩ = some (.int .i64 jit)) ⟨below_alloc _ _, by rw [cell_new]; rfl, by rw [cell_new]; rfl⟩ (fun W hW => ?_)
  obtain ⟨hB, hcell, hcell9⟩ := hW
  have hP2 := HP.out.later hB
  have HB := Lib.hid hB
  have hzw : W.heap.size ≤ W.heap.size := Nat.le_refl _
  have HP2 := Lib.hid hP2
  clear hB hP2
  go_region_held3 (fun w' => Below W.heap.size W w' ∧ w'.cell? ⟨w.heap.size, 0, none⟩ = some (.string ⟨nm.toArray⟩) ∧ w'.cell? ⟨w.heap.size, 9, none⟩ = some (.int .i64 jit)) (((try dsimp only); exact And.intro (by first | assumption | exact Below.refl _ _ | go_grown) (And.intro (cell_later (by first | assumption | exact Below.refl _ _ | go_grown) hcell) (cell_later (by first | assumption | exact Below.refl _ _ | go_grown) hcell9)))) ((first | (go_at_call 86; refine Calls.mono (by with_reducible exact HH.out _ (HP2.out.later (‹Below W.heap.size W _ ∧ _›).1)) ?_; rintro e w4 ⟨rfl, hb⟩; have hS4 : Below W.heap.size W w4 := (‹Below W.heap.size W _ ∧ _›).1.trans (hb.mono (‹Below W.heap.size W _ ∧ _›).1.size); clear hb; have hz4 := hS4.size) | (go_at_call 142; refine (MI.spread_any _ _ [nm, t2] _ _ hle (strs_two _ _ _ _ HL.out.1 HL.out.2) (by simp [maxLen])).mono ?_; rintro e w5 ⟨rfl, rfl⟩)))
  all_goals
    go_wp2
    go_ret
    exact ⟨rfl, HB.out.trans (Below.mono (by go_grown) HB.out.size)⟩
/-- A wave of a place. -/
def wvN (wav : Int) (p : Nat) : Int := if wav = 0 then 0 else (p : Int) / wav
theorem waveOf_any (j : Jb) (p : Nat) (hp : p ≤ 1000000) (hj : 0 ≤ j.wav ∧ j.wav ≤ 65536) (w : World) :
    Calls Tryz.prog 81 #[jobV j, .int .i64 (p : Int)] w fun e w' => e = .returned (.int .i64 (wvN j.wav p)) ∧ Below w.heap.size w w' := by
  obtain ⟨nm, sp, sa, sel, sc, jit, wav, fai, par, dea, mis, bnd⟩ := j
  simp only [jobV, jobC] at *
  obtain ⟨j1, j2⟩ := hj
  have hp' : (p : Int) ≤ 1000000 := by omega
  by_cases h0 : wav = 0
  · have H : Hid (wvN wav p = 0) := Lib.hid (by unfold wvN; rw [if_pos h0])
    rw [H.out]
    have h1 : (wav == 0) = true := by simpa using h0
    clear h0 H
    go_enter Tryz.func81, Tryz.ntmps81
    go_wp2
    go_ret
    exact ⟨rfl, below_alloc _ _⟩
  · have H : Hid (wvN wav p = (p : Int) / wav) := Lib.hid (by unfold wvN; rw [if_neg h0])
    rw [H.out]
    have h1 : (wav == 0) = false := by simpa using h0
    have h2 : 1 ≤ wav := by omega
    have hd1 : 0 ≤ (p : Int) / wav := Int.ediv_nonneg (by omega) (by omega)
    have hd2 : (p : Int) / wav ≤ 1000000 := Int.le_trans (Int.ediv_le_self _ (by omega)) hp'
    clear h0 H
    go_enter Tryz.func81, Tryz.ntmps81
    go_wp2
    go_ret
    exact ⟨rfl, below_alloc _ _⟩
/-- May there be an occurrence? -/
def occOk (j : Jb) (ver occ : Int) : Bool := mayJ j && decide (1 ≤ ver) && decide (ver ≤ 2147483647) && occB occ && timeB (occ + j.dea)
set_option maxHeartbeats 4000000 in
theorem planMay_any (j : Jb) (ver occ : Int) (w : World) (hj : j.Ok w) (hv : I64 ver) (ho : I64 occ) (hT : Tb w) :
    Calls Tryz.prog 77 #[jobV j, .int .i64 ver, .int .i64 occ] w fun e w' => e = .returned (.bool (occOk j ver occ)) ∧ Below w.heap.size w w' := by
  have HO : Hid (occOk j ver occ = (mayJ j && decide (1 ≤ ver) && decide (ver ≤ 2147483647) && occB occ && timeB (occ + j.dea))) := Lib.hid rfl
  generalize occOk j ver occ = R at *
  have HJ := Lib.hid (fun V (hV : Below w.heap.size w V) => may_any j V (hj.later hV) (hT.sc.later hV))
  have HT := Lib.hid hT
  have HM : Hid (mayJ j = true → 60 ≤ j.dea ∧ j.dea ≤ 604800) := Lib.hid (fun h => ⟨(mayJ_true h).2.2.1.1, (mayJ_true h).2.2.1.2.1⟩)
  have HI := Lib.hid (fun V hV => isMoment_any occ V hV ho)
  have HX : Hid (occB occ = true → -62135596800 ≤ occ ∧ occ ≤ 253402300799) := Lib.hid (fun h => by unfold occB timeB at h; simp only [Bool.and_eq_true, decide_eq_true_eq] at h; exact h.1)
  obtain ⟨v1, v2⟩ := hv
  obtain ⟨o1, o2⟩ := ho
  clear hT hj
  generalize mayJ j = q1 at *
  generalize occB occ = q2 at *
  obtain ⟨nm, sp, sa, sel, sc, jit, wav, fai, par, dea, mis, bnd⟩ := j
  obtain ⟨mi, ho, da, mo, we, ad, aw⟩ := sp
  simp only [jobV, jobC] at *
  cases q1
  · go_enter Tryz.func77, Tryz.ntmps77
    go_wp2_with (first | (go_at_call 17; refine (HJ.out _ (below_alloc w _)).mono ?_; rintro e w1 ⟨rfl, hb1⟩; have hr1 := row_below hb1 (by simp) (heap_new w (.cells #[.string ⟨nm.toArray⟩, .int .u64 mi, .int .u64 ho, .int .u64 da, .int .u64 mo, .int .u64 we, .bool ad, .bool aw, .slice sa sel.length sc, .int .i64 jit, .int .i64 wav, .int .i64 fai, .int .i64 par, .int .i64 dea, .int .i64 mis, .int .i64 bnd] 27)); obtain ⟨c1, _⟩ := cells_of_heap hr1; have HR1 := Lib.hid hr1; have HB1 := Lib.hid ((below_alloc w _).trans (hb1.mono (by simp))); clear hb1 hr1) | (go_at_call 137; refine (HI.out _ (HT.out.len.later HB1.out)).mono ?_; rintro e w2 ⟨rfl, hb2⟩; have hr2 := row_below hb2 (heap_lt HR1.out) HR1.out; obtain ⟨c2, _⟩ := cells_of_heap hr2; have HB2 := Lib.hid (HB1.out.trans (hb2.mono HB1.out.size)); clear hb2 hr2) | (go_at_call 138; refine (isTime_any _ _ (HT.out.len.later HB2.out)).mono ?_; rintro e w3 ⟨rfl, hb3⟩; have HB3 := Lib.hid (HB2.out.trans (hb3.mono HB2.out.size)); clear hb3))
    go_ret
    exact ⟨ret_bool (by rw [HO.out]; simp [*]), HB1.out⟩
  · have HM2 := HM.out rfl
    obtain ⟨m1, m2⟩ := HM2
    by_cases e1 : 1 ≤ ver
    · by_cases e2 : ver ≤ 2147483647
      · cases q2
        · go_enter Tryz.func77, Tryz.ntmps77
          go_wp2_with (first | (go_at_call 17; refine (HJ.out _ (below_alloc w _)).mono ?_; rintro e w1 ⟨rfl, hb1⟩; have hr1 := row_below hb1 (by simp) (heap_new w (.cells #[.string ⟨nm.toArray⟩, .int .u64 mi, .int .u64 ho, .int .u64 da, .int .u64 mo, .int .u64 we, .bool ad, .bool aw, .slice sa sel.length sc, .int .i64 jit, .int .i64 wav, .int .i64 fai, .int .i64 par, .int .i64 dea, .int .i64 mis, .int .i64 bnd] 27)); obtain ⟨c1, _⟩ := cells_of_heap hr1; have HR1 := Lib.hid hr1; have HB1 := Lib.hid ((below_alloc w _).trans (hb1.mono (by simp))); clear hb1 hr1) | (go_at_call 137; refine (HI.out _ (HT.out.len.later HB1.out)).mono ?_; rintro e w2 ⟨rfl, hb2⟩; have hr2 := row_below hb2 (heap_lt HR1.out) HR1.out; obtain ⟨c2, _⟩ := cells_of_heap hr2; have HB2 := Lib.hid (HB1.out.trans (hb2.mono HB1.out.size)); clear hb2 hr2) | (go_at_call 138; refine (isTime_any _ _ (HT.out.len.later HB2.out)).mono ?_; rintro e w3 ⟨rfl, hb3⟩; have HB3 := Lib.hid (HB2.out.trans (hb3.mono HB2.out.size)); clear hb3))
          go_ret
          exact ⟨ret_bool (by rw [HO.out]; simp [*]), HB2.out⟩
        · have HX2 := HX.out rfl
          obtain ⟨x1, x2⟩ := HX2
          go_enter Tryz.func77, Tryz.ntmps77
          go_wp2_with (first | (go_at_call 17; refine (HJ.out _ (below_alloc w _)).mono ?_; rintro e w1 ⟨rfl, hb1⟩; have hr1 := row_below hb1 (by simp) (heap_new w (.cells #[.string ⟨nm.toArray⟩, .int .u64 mi, .int .u64 ho, .int .u64 da, .int .u64 mo, .int .u64 we, .bool ad, .bool aw, .slice sa sel.length sc, .int .i64 jit, .int .i64 wav, .int .i64 fai, .int .i64 par, .int .i64 dea, .int .i64 mis, .int .i64 bnd] 27)); obtain ⟨c1, _⟩ := cells_of_heap hr1; have HR1 := Lib.hid hr1; have HB1 := Lib.hid ((below_alloc w _).trans (hb1.mono (by simp))); clear hb1 hr1) | (go_at_call 137; refine (HI.out _ (HT.out.len.later HB1.out)).mono ?_; rintro e w2 ⟨rfl, hb2⟩; have hr2 := row_below hb2 (heap_lt HR1.out) HR1.out; obtain ⟨c2, _⟩ := cells_of_heap hr2; have HB2 := Lib.hid (HB1.out.trans (hb2.mono HB1.out.size)); clear hb2 hr2) | (go_at_call 138; refine (isTime_any _ _ (HT.out.len.later HB2.out)).mono ?_; rintro e w3 ⟨rfl, hb3⟩; have HB3 := Lib.hid (HB2.out.trans (hb3.mono HB2.out.size)); clear hb3))
          go_ret
          exact ⟨ret_bool (by rw [HO.out]; simp [*]), HB3.out⟩
      · go_enter Tryz.func77, Tryz.ntmps77
        go_wp2_with (first | (go_at_call 17; refine (HJ.out _ (below_alloc w _)).mono ?_; rintro e w1 ⟨rfl, hb1⟩; have hr1 := row_below hb1 (by simp) (heap_new w (.cells #[.string ⟨nm.toArray⟩, .int .u64 mi, .int .u64 ho, .int .u64 da, .int .u64 mo, .int .u64 we, .bool ad, .bool aw, .slice sa sel.length sc, .int .i64 jit, .int .i64 wav, .int .i64 fai, .int .i64 par, .int .i64 dea, .int .i64 mis, .int .i64 bnd] 27)); obtain ⟨c1, _⟩ := cells_of_heap hr1; have HR1 := Lib.hid hr1; have HB1 := Lib.hid ((below_alloc w _).trans (hb1.mono (by simp))); clear hb1 hr1) | (go_at_call 137; refine (HI.out _ (HT.out.len.later HB1.out)).mono ?_; rintro e w2 ⟨rfl, hb2⟩; have hr2 := row_below hb2 (heap_lt HR1.out) HR1.out; obtain ⟨c2, _⟩ := cells_of_heap hr2; have HB2 := Lib.hid (HB1.out.trans (hb2.mono HB1.out.size)); clear hb2 hr2) | (go_at_call 138; refine (isTime_any _ _ (HT.out.len.later HB2.out)).mono ?_; rintro e w3 ⟨rfl, hb3⟩; have HB3 := Lib.hid (HB2.out.trans (hb3.mono HB2.out.size)); clear hb3))
        go_ret
        exact ⟨ret_bool (by rw [HO.out, show decide (ver ≤ 2147483647) = false from decide_eq_false (by omega)]; simp), HB1.out⟩
    · go_enter Tryz.func77, Tryz.ntmps77
      go_wp2_with (first | (go_at_call 17; refine (HJ.out _ (below_alloc w _)).mono ?_; rintro e w1 ⟨rfl, hb1⟩; have hr1 := row_below hb1 (by simp) (heap_new w (.cells #[.string ⟨nm.toArray⟩, .int .u64 mi, .int .u64 ho, .int .u64 da, .int .u64 mo, .int .u64 we, .bool ad, .bool aw, .slice sa sel.length sc, .int .i64 jit, .int .i64 wav, .int .i64 fai, .int .i64 par, .int .i64 dea, .int .i64 mis, .int .i64 bnd] 27)); obtain ⟨c1, _⟩ := cells_of_heap hr1; have HR1 := Lib.hid hr1; have HB1 := Lib.hid ((below_alloc w _).trans (hb1.mono (by simp))); clear hb1 hr1) | (go_at_call 137; refine (HI.out _ (HT.out.len.later HB1.out)).mono ?_; rintro e w2 ⟨rfl, hb2⟩; have hr2 := row_below hb2 (heap_lt HR1.out) HR1.out; obtain ⟨c2, _⟩ := cells_of_heap hr2; have HB2 := Lib.hid (HB1.out.trans (hb2.mono HB1.out.size)); clear hb2 hr2) | (go_at_call 138; refine (isTime_any _ _ (HT.out.len.later HB2.out)).mono ?_; rintro e w3 ⟨rfl, hb3⟩; have HB3 := Lib.hid (HB2.out.trans (hb3.mono HB2.out.size)); clear hb3))
      go_ret
      exact ⟨ret_bool (by rw [HO.out, show decide (1 ≤ ver) = false from decide_eq_false (by omega)]; simp), HB1.out⟩
/-- The hosts rise, and may each have a run. -/
def hostsOk (nm : Bytes) (occ : Int) (hs : List Int) : Bool := hs.all (fun h => keyB ⟨nm, occ, h⟩) && decide (hs.Pairwise (· < ·))
theorem rise_snoc {hs : List Int} {k : Nat} (hk : k < hs.length) (h : (hs.take k).Pairwise (· < ·)) (h2 : ∀ h0 : 0 < k, hs[k - 1]'(by omega) < hs[k]) : (hs.take (k + 1)).Pairwise (· < ·) := by
  rw [List.take_succ_eq_append_getElem hk, List.pairwise_append]
  refine ⟨h, List.pairwise_singleton _ _, fun a ha b hb => ?_⟩
  rw [List.mem_singleton] at hb
  subst hb
  obtain ⟨i, hi, rfl⟩ := List.mem_iff_getElem.1 ha
  have hi' : i < k := by simp at hi; omega
  rw [List.getElem_take]
  have hl := h2 (by omega)
  by_cases e : i = k - 1
  · subst e; exact hl
  · have := (List.pairwise_iff_getElem.1 h) i (k - 1) hi (by simp; omega) (by omega)
    rw [List.getElem_take, List.getElem_take] at this
    omega
theorem rise_no {hs : List Int} {k : Nat} (hk : k < hs.length) (h0 : 0 < k) (h : hs[k] ≤ hs[k - 1]'(by omega)) : ¬ hs.Pairwise (· < ·) := fun hp => by
  have := (List.pairwise_iff_getElem.1 hp) (k - 1) k (by omega) hk (by omega)
  omega
end Go.Proofs.YtnikhhbnbeljeaaGreatDoor.PL
