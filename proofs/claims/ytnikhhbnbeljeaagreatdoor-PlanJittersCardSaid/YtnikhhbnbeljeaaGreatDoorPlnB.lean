/- Walk of package job: May. -/
import Derived.Test.YtnikhhbnbeljeaaGreatDoorPlnA
import Derived.Test.YtnikhhbnbeljeaaGreatDoorLabB
import Derived.Test.YtnikhhbnbeljeaaGreatDoorSmA
set_option linter.unusedSimpArgs false
set_option linter.unusedVariables false
namespace Go.Proofs.YtnikhhbnbeljeaaGreatDoor.PL
open Go.ChangeShapes Go.WideShapes Go.ChangeAt Go.RowKit Go.Base Go.Lab Go.Civ

/-- May it be a job? -/
def mayJ (j : Jb) : Bool :=
  wordB j.name && specB j.sp && selB j.sel && wthB j.jit 0 86400 && wthB j.dea (max 60 (j.jit + 1)) 604800 && wthB j.wav 0 65536 && wthB j.par 0 65536 && wthB j.fai 0 100 &&
    (if j.mis = 3 then wthB j.bnd 1 100 else wthB j.mis 1 2 && (j.bnd == 0))
set_option maxHeartbeats 4000000 in
set_option maxRecDepth 20000 in
theorem may_any (j : Jb) (w : World) (hj : j.Ok w) (hT : ScTab w) :
    Calls Tryz.prog 17 #[jobV j] w fun e w' => e = .returned (.bool (mayJ j)) ∧ Below w.heap.size w w' := by
  have HM : Hid (mayJ j = (wordB j.name && specB j.sp && selB j.sel && wthB j.jit 0 86400 && wthB j.dea (max 60 (j.jit + 1)) 604800 && wthB j.wav 0 65536 && wthB j.par 0 65536 && wthB j.fai 0 100 && (if j.mis = 3 then wthB j.bnd 1 100 else wthB j.mis 1 2 && (j.bnd == 0)))) := Lib.hid rfl
  generalize mayJ j = R at *
  have HW := Lib.hid (fun w => LB.word_l j.name hj.nm w)
  have HS := Lib.hid (fun w => maySpec_any j.sp hj.sp w)
  have HL := Lib.hid (fun w => maySelect_any j.sa j.sel j.sc w)
  have HC := Lib.hid (And.intro hj.cl hj.cm)
  have HT := Lib.hid hT
  obtain ⟨j1, j2⟩ := hj.jit
  clear hj hT
  obtain ⟨nm, sp, sa, sel, sc, jit, wav, fai, par, dea, mis, bnd⟩ := j
  obtain ⟨mi, ho, da, mo, we, ad, aw⟩ := sp
  simp only [jobV, jobC] at *
  generalize wordB nm = q1 at *
  generalize specB ⟨mi, ho, da, mo, we, ad, aw⟩ = q2 at *
  generalize selB sel = q3 at *
  cases q1
  · go_enter Tryz.func17, Tryz.ntmps17
    go_wp2_with (first | (go_at_call 51; refine (HW.out _).mono ?_; rintro e wx ⟨rfl, rfl⟩) | (go_at_call 52; refine (HS.out _ (HT.out.later (below_alloc w _))).mono ?_; rintro e w1 ⟨rfl, hb1⟩; have hr1 := row_below hb1 (by simp) (heap_new w (.cells #[.string ⟨nm.toArray⟩, .int .u64 mi, .int .u64 ho, .int .u64 da, .int .u64 mo, .int .u64 we, .bool ad, .bool aw, .slice sa sel.length sc, .int .i64 jit, .int .i64 wav, .int .i64 fai, .int .i64 par, .int .i64 dea, .int .i64 mis, .int .i64 bnd] 27)); obtain ⟨c1, _⟩ := cells_of_heap hr1; have HR1 := Lib.hid hr1; have HB1 := Lib.hid ((below_alloc w _).trans (hb1.mono (by simp))); clear hb1 hr1) | (go_at_call 53; refine (HL.out _ (HC.out.1.later HB1.out) HC.out.2).mono ?_; rintro e w2 ⟨rfl, hb2⟩; have hr2 := row_below hb2 (heap_lt HR1.out) HR1.out; obtain ⟨c2, _⟩ := cells_of_heap hr2; have HB2 := Lib.hid (HB1.out.trans (hb2.mono HB1.out.size)); clear hb2 hr2) | (go_at_call 54; refine (within_any _ _ _ _).mono ?_; rintro e w' ⟨rfl, rfl⟩))
    go_ret
    exact ⟨ret_bool (by rw [HM.out]; simp [*]), below_alloc _ _⟩
  · skip
    cases q2
    · go_enter Tryz.func17, Tryz.ntmps17
      go_wp2_with (first | (go_at_call 51; refine (HW.out _).mono ?_; rintro e wx ⟨rfl, rfl⟩) | (go_at_call 52; refine (HS.out _ (HT.out.later (below_alloc w _))).mono ?_; rintro e w1 ⟨rfl, hb1⟩; have hr1 := row_below hb1 (by simp) (heap_new w (.cells #[.string ⟨nm.toArray⟩, .int .u64 mi, .int .u64 ho, .int .u64 da, .int .u64 mo, .int .u64 we, .bool ad, .bool aw, .slice sa sel.length sc, .int .i64 jit, .int .i64 wav, .int .i64 fai, .int .i64 par, .int .i64 dea, .int .i64 mis, .int .i64 bnd] 27)); obtain ⟨c1, _⟩ := cells_of_heap hr1; have HR1 := Lib.hid hr1; have HB1 := Lib.hid ((below_alloc w _).trans (hb1.mono (by simp))); clear hb1 hr1) | (go_at_call 53; refine (HL.out _ (HC.out.1.later HB1.out) HC.out.2).mono ?_; rintro e w2 ⟨rfl, hb2⟩; have hr2 := row_below hb2 (heap_lt HR1.out) HR1.out; obtain ⟨c2, _⟩ := cells_of_heap hr2; have HB2 := Lib.hid (HB1.out.trans (hb2.mono HB1.out.size)); clear hb2 hr2) | (go_at_call 54; refine (within_any _ _ _ _).mono ?_; rintro e w' ⟨rfl, rfl⟩))
      go_ret
      exact ⟨ret_bool (by rw [HM.out]; simp [*]), HB1.out⟩
    · skip
      cases q3
      · go_enter Tryz.func17, Tryz.ntmps17
        go_wp2_with (first | (go_at_call 51; refine (HW.out _).mono ?_; rintro e wx ⟨rfl, rfl⟩) | (go_at_call 52; refine (HS.out _ (HT.out.later (below_alloc w _))).mono ?_; rintro e w1 ⟨rfl, hb1⟩; have hr1 := row_below hb1 (by simp) (heap_new w (.cells #[.string ⟨nm.toArray⟩, .int .u64 mi, .int .u64 ho, .int .u64 da, .int .u64 mo, .int .u64 we, .bool ad, .bool aw, .slice sa sel.length sc, .int .i64 jit, .int .i64 wav, .int .i64 fai, .int .i64 par, .int .i64 dea, .int .i64 mis, .int .i64 bnd] 27)); obtain ⟨c1, _⟩ := cells_of_heap hr1; have HR1 := Lib.hid hr1; have HB1 := Lib.hid ((below_alloc w _).trans (hb1.mono (by simp))); clear hb1 hr1) | (go_at_call 53; refine (HL.out _ (HC.out.1.later HB1.out) HC.out.2).mono ?_; rintro e w2 ⟨rfl, hb2⟩; have hr2 := row_below hb2 (heap_lt HR1.out) HR1.out; obtain ⟨c2, _⟩ := cells_of_heap hr2; have HB2 := Lib.hid (HB1.out.trans (hb2.mono HB1.out.size)); clear hb2 hr2) | (go_at_call 54; refine (within_any _ _ _ _).mono ?_; rintro e w' ⟨rfl, rfl⟩))
        go_ret
        exact ⟨ret_bool (by rw [HM.out]; simp [*]), HB2.out⟩
      · skip
        cases h4 : wthB jit 0 86400
        · go_enter Tryz.func17, Tryz.ntmps17
          go_wp2_with (first | (go_at_call 51; refine (HW.out _).mono ?_; rintro e wx ⟨rfl, rfl⟩) | (go_at_call 52; refine (HS.out _ (HT.out.later (below_alloc w _))).mono ?_; rintro e w1 ⟨rfl, hb1⟩; have hr1 := row_below hb1 (by simp) (heap_new w (.cells #[.string ⟨nm.toArray⟩, .int .u64 mi, .int .u64 ho, .int .u64 da, .int .u64 mo, .int .u64 we, .bool ad, .bool aw, .slice sa sel.length sc, .int .i64 jit, .int .i64 wav, .int .i64 fai, .int .i64 par, .int .i64 dea, .int .i64 mis, .int .i64 bnd] 27)); obtain ⟨c1, _⟩ := cells_of_heap hr1; have HR1 := Lib.hid hr1; have HB1 := Lib.hid ((below_alloc w _).trans (hb1.mono (by simp))); clear hb1 hr1) | (go_at_call 53; refine (HL.out _ (HC.out.1.later HB1.out) HC.out.2).mono ?_; rintro e w2 ⟨rfl, hb2⟩; have hr2 := row_below hb2 (heap_lt HR1.out) HR1.out; obtain ⟨c2, _⟩ := cells_of_heap hr2; have HB2 := Lib.hid (HB1.out.trans (hb2.mono HB1.out.size)); clear hb2 hr2) | (go_at_call 54; refine (within_any _ _ _ _).mono ?_; rintro e w' ⟨rfl, rfl⟩))
          go_ret
          exact ⟨ret_bool (by rw [HM.out]; simp [*]), HB2.out⟩
        · skip
          have b4 := wthB_iff.1 h4; obtain ⟨b4a, b4b⟩ := b4
          cases h5 : wthB dea (max 60 (jit + 1)) 604800
          · go_enter Tryz.func17, Tryz.ntmps17
            go_wp2_with (first | (go_at_call 51; refine (HW.out _).mono ?_; rintro e wx ⟨rfl, rfl⟩) | (go_at_call 52; refine (HS.out _ (HT.out.later (below_alloc w _))).mono ?_; rintro e w1 ⟨rfl, hb1⟩; have hr1 := row_below hb1 (by simp) (heap_new w (.cells #[.string ⟨nm.toArray⟩, .int .u64 mi, .int .u64 ho, .int .u64 da, .int .u64 mo, .int .u64 we, .bool ad, .bool aw, .slice sa sel.length sc, .int .i64 jit, .int .i64 wav, .int .i64 fai, .int .i64 par, .int .i64 dea, .int .i64 mis, .int .i64 bnd] 27)); obtain ⟨c1, _⟩ := cells_of_heap hr1; have HR1 := Lib.hid hr1; have HB1 := Lib.hid ((below_alloc w _).trans (hb1.mono (by simp))); clear hb1 hr1) | (go_at_call 53; refine (HL.out _ (HC.out.1.later HB1.out) HC.out.2).mono ?_; rintro e w2 ⟨rfl, hb2⟩; have hr2 := row_below hb2 (heap_lt HR1.out) HR1.out; obtain ⟨c2, _⟩ := cells_of_heap hr2; have HB2 := Lib.hid (HB1.out.trans (hb2.mono HB1.out.size)); clear hb2 hr2) | (go_at_call 54; refine (within_any _ _ _ _).mono ?_; rintro e w' ⟨rfl, rfl⟩))
            go_ret
            exact ⟨ret_bool (by rw [HM.out]; simp [*]), HB2.out⟩
          · skip
            cases h6 : wthB wav 0 65536
            · go_enter Tryz.func17, Tryz.ntmps17
              go_wp2_with (first | (go_at_call 51; refine (HW.out _).mono ?_; rintro e wx ⟨rfl, rfl⟩) | (go_at_call 52; refine (HS.out _ (HT.out.later (below_alloc w _))).mono ?_; rintro e w1 ⟨rfl, hb1⟩; have hr1 := row_below hb1 (by simp) (heap_new w (.cells #[.string ⟨nm.toArray⟩, .int .u64 mi, .int .u64 ho, .int .u64 da, .int .u64 mo, .int .u64 we, .bool ad, .bool aw, .slice sa sel.length sc, .int .i64 jit, .int .i64 wav, .int .i64 fai, .int .i64 par, .int .i64 dea, .int .i64 mis, .int .i64 bnd] 27)); obtain ⟨c1, _⟩ := cells_of_heap hr1; have HR1 := Lib.hid hr1; have HB1 := Lib.hid ((below_alloc w _).trans (hb1.mono (by simp))); clear hb1 hr1) | (go_at_call 53; refine (HL.out _ (HC.out.1.later HB1.out) HC.out.2).mono ?_; rintro e w2 ⟨rfl, hb2⟩; have hr2 := row_below hb2 (heap_lt HR1.out) HR1.out; obtain ⟨c2, _⟩ := cells_of_heap hr2; have HB2 := Lib.hid (HB1.out.trans (hb2.mono HB1.out.size)); clear hb2 hr2) | (go_at_call 54; refine (within_any _ _ _ _).mono ?_; rintro e w' ⟨rfl, rfl⟩))
              go_ret
              exact ⟨ret_bool (by rw [HM.out]; simp [*]), HB2.out⟩
            · skip
              cases h7 : wthB par 0 65536
              · go_enter Tryz.func17, Tryz.ntmps17
                go_wp2_with (first | (go_at_call 51; refine (HW.out _).mono ?_; rintro e wx ⟨rfl, rfl⟩) | (go_at_call 52; refine (HS.out _ (HT.out.later (below_alloc w _))).mono ?_; rintro e w1 ⟨rfl, hb1⟩; have hr1 := row_below hb1 (by simp) (heap_new w (.cells #[.string ⟨nm.toArray⟩, .int .u64 mi, .int .u64 ho, .int .u64 da, .int .u64 mo, .int .u64 we, .bool ad, .bool aw, .slice sa sel.length sc, .int .i64 jit, .int .i64 wav, .int .i64 fai, .int .i64 par, .int .i64 dea, .int .i64 mis, .int .i64 bnd] 27)); obtain ⟨c1, _⟩ := cells_of_heap hr1; have HR1 := Lib.hid hr1; have HB1 := Lib.hid ((below_alloc w _).trans (hb1.mono (by simp))); clear hb1 hr1) | (go_at_call 53; refine (HL.out _ (HC.out.1.later HB1.out) HC.out.2).mono ?_; rintro e w2 ⟨rfl, hb2⟩; have hr2 := row_below hb2 (heap_lt HR1.out) HR1.out; obtain ⟨c2, _⟩ := cells_of_heap hr2; have HB2 := Lib.hid (HB1.out.trans (hb2.mono HB1.out.size)); clear hb2 hr2) | (go_at_call 54; refine (within_any _ _ _ _).mono ?_; rintro e w' ⟨rfl, rfl⟩))
                go_ret
                exact ⟨ret_bool (by rw [HM.out]; simp [*]), HB2.out⟩
              · skip
                cases h8 : wthB fai 0 100
                · go_enter Tryz.func17, Tryz.ntmps17
                  go_wp2_with (first | (go_at_call 51; refine (HW.out _).mono ?_; rintro e wx ⟨rfl, rfl⟩) | (go_at_call 52; refine (HS.out _ (HT.out.later (below_alloc w _))).mono ?_; rintro e w1 ⟨rfl, hb1⟩; have hr1 := row_below hb1 (by simp) (heap_new w (.cells #[.string ⟨nm.toArray⟩, .int .u64 mi, .int .u64 ho, .int .u64 da, .int .u64 mo, .int .u64 we, .bool ad, .bool aw, .slice sa sel.length sc, .int .i64 jit, .int .i64 wav, .int .i64 fai, .int .i64 par, .int .i64 dea, .int .i64 mis, .int .i64 bnd] 27)); obtain ⟨c1, _⟩ := cells_of_heap hr1; have HR1 := Lib.hid hr1; have HB1 := Lib.hid ((below_alloc w _).trans (hb1.mono (by simp))); clear hb1 hr1) | (go_at_call 53; refine (HL.out _ (HC.out.1.later HB1.out) HC.out.2).mono ?_; rintro e w2 ⟨rfl, hb2⟩; have hr2 := row_below hb2 (heap_lt HR1.out) HR1.out; obtain ⟨c2, _⟩ := cells_of_heap hr2; have HB2 := Lib.hid (HB1.out.trans (hb2.mono HB1.out.size)); clear hb2 hr2) | (go_at_call 54; refine (within_any _ _ _ _).mono ?_; rintro e w' ⟨rfl, rfl⟩))
                  go_ret
                  exact ⟨ret_bool (by rw [HM.out]; simp [*]), HB2.out⟩
                · skip
                  by_cases hm : mis = 3
                  · have hm1 : (mis == 3) = true := by simpa using hm
                    have HQ := Lib.hid hm
                    clear hm
                    go_enter Tryz.func17, Tryz.ntmps17
                    go_wp2_with (first | (go_at_call 51; refine (HW.out _).mono ?_; rintro e wx ⟨rfl, rfl⟩) | (go_at_call 52; refine (HS.out _ (HT.out.later (below_alloc w _))).mono ?_; rintro e w1 ⟨rfl, hb1⟩; have hr1 := row_below hb1 (by simp) (heap_new w (.cells #[.string ⟨nm.toArray⟩, .int .u64 mi, .int .u64 ho, .int .u64 da, .int .u64 mo, .int .u64 we, .bool ad, .bool aw, .slice sa sel.length sc, .int .i64 jit, .int .i64 wav, .int .i64 fai, .int .i64 par, .int .i64 dea, .int .i64 mis, .int .i64 bnd] 27)); obtain ⟨c1, _⟩ := cells_of_heap hr1; have HR1 := Lib.hid hr1; have HB1 := Lib.hid ((below_alloc w _).trans (hb1.mono (by simp))); clear hb1 hr1) | (go_at_call 53; refine (HL.out _ (HC.out.1.later HB1.out) HC.out.2).mono ?_; rintro e w2 ⟨rfl, hb2⟩; have hr2 := row_below hb2 (heap_lt HR1.out) HR1.out; obtain ⟨c2, _⟩ := cells_of_heap hr2; have HB2 := Lib.hid (HB1.out.trans (hb2.mono HB1.out.size)); clear hb2 hr2) | (go_at_call 54; refine (within_any _ _ _ _).mono ?_; rintro e w' ⟨rfl, rfl⟩))
                    go_ret
                    exact ⟨ret_bool (by rw [HM.out, if_pos HQ.out]; simp [*]), HB2.out⟩
                  · have hm1 : (mis == 3) = false := by simpa using hm
                    cases h9 : wthB mis 1 2
                    · go_enter Tryz.func17, Tryz.ntmps17
                      go_wp2_with (first | (go_at_call 51; refine (HW.out _).mono ?_; rintro e wx ⟨rfl, rfl⟩) | (go_at_call 52; refine (HS.out _ (HT.out.later (below_alloc w _))).mono ?_; rintro e w1 ⟨rfl, hb1⟩; have hr1 := row_below hb1 (by simp) (heap_new w (.cells #[.string ⟨nm.toArray⟩, .int .u64 mi, .int .u64 ho, .int .u64 da, .int .u64 mo, .int .u64 we, .bool ad, .bool aw, .slice sa sel.length sc, .int .i64 jit, .int .i64 wav, .int .i64 fai, .int .i64 par, .int .i64 dea, .int .i64 mis, .int .i64 bnd] 27)); obtain ⟨c1, _⟩ := cells_of_heap hr1; have HR1 := Lib.hid hr1; have HB1 := Lib.hid ((below_alloc w _).trans (hb1.mono (by simp))); clear hb1 hr1) | (go_at_call 53; refine (HL.out _ (HC.out.1.later HB1.out) HC.out.2).mono ?_; rintro e w2 ⟨rfl, hb2⟩; have hr2 := row_below hb2 (heap_lt HR1.out) HR1.out; obtain ⟨c2, _⟩ := cells_of_heap hr2; have HB2 := Lib.hid (HB1.out.trans (hb2.mono HB1.out.size)); clear hb2 hr2) | (go_at_call 54; refine (within_any _ _ _ _).mono ?_; rintro e w' ⟨rfl, rfl⟩))
                      go_ret
                      exact ⟨ret_bool (by rw [HM.out]; simp [*]), HB2.out⟩
                    · go_enter Tryz.func17, Tryz.ntmps17
                      go_wp2_with (first | (go_at_call 51; refine (HW.out _).mono ?_; rintro e wx ⟨rfl, rfl⟩) | (go_at_call 52; refine (HS.out _ (HT.out.later (below_alloc w _))).mono ?_; rintro e w1 ⟨rfl, hb1⟩; have hr1 := row_below hb1 (by simp) (heap_new w (.cells #[.string ⟨nm.toArray⟩, .int .u64 mi, .int .u64 ho, .int .u64 da, .int .u64 mo, .int .u64 we, .bool ad, .bool aw, .slice sa sel.length sc, .int .i64 jit, .int .i64 wav, .int .i64 fai, .int .i64 par, .int .i64 dea, .int .i64 mis, .int .i64 bnd] 27)); obtain ⟨c1, _⟩ := cells_of_heap hr1; have HR1 := Lib.hid hr1; have HB1 := Lib.hid ((below_alloc w _).trans (hb1.mono (by simp))); clear hb1 hr1) | (go_at_call 53; refine (HL.out _ (HC.out.1.later HB1.out) HC.out.2).mono ?_; rintro e w2 ⟨rfl, hb2⟩; have hr2 := row_below hb2 (heap_lt HR1.out) HR1.out; obtain ⟨c2, _⟩ := cells_of_heap hr2; have HB2 := Lib.hid (HB1.out.trans (hb2.mono HB1.out.size)); clear hb2 hr2) | (go_at_call 54; refine (within_any _ _ _ _).mono ?_; rintro e w' ⟨rfl, rfl⟩))
                      go_ret
                      exact ⟨ret_bool (by rw [HM.out]; simp [*]), HB2.out⟩
end Go.Proofs.YtnikhhbnbeljeaaGreatDoor.PL
