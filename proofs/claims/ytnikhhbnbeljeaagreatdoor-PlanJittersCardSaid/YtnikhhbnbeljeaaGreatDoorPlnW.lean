/- Walk of the law PlanJitters. -/
import Derived.Test.YtnikhhbnbeljeaaGreatDoorPlnS
set_option linter.unusedSimpArgs false
set_option linter.unusedVariables false
namespace Go.Proofs.YtnikhhbnbeljeaaGreatDoor.PL
open Go.ChangeShapes Go.WideShapes Go.ChangeAt Go.RowKit Go.Base Go.Lab Go.Wire

def jitP (j : Jb) (h : Int) : Int := if mayJ j then jitN j h else 0
theorem jitP_bd (j : Jb) (h : Int) : 0 ≤ jitP j h ∧ (0 ≤ j.jit → jitP j h ≤ j.jit) ∧ jitP j h ≤ 86400 := by
  unfold jitP
  cases hm : mayJ j
  · simp
  · have h2 := (mayJ_true hm).2.1
    have := MI.spr_bd (j.jit + 1) [j.name, itoT h] (by omega)
    simp only [if_true]
    unfold jitN; omega
set_option maxHeartbeats 4000000 in
theorem jitterP_any (j : Jb) (h : Int) (w : World) (hj : j.Ok w) (hh : I64 h) (hT : Tb w) :
    Calls Tryz.prog 36 #[jobV j, .int .i64 h] w fun e w' => e = .returned (.int .i64 (jitP j h)) ∧ Below w.heap.size w w' := by
  have HM := Lib.hid (fun V (hV : Below w.heap.size w V) => may_any j V (hj.later hV) (hT.sc.later hV))
  cases hm : mayJ j
  · have HP : Hid (jitP j h = 0) := Lib.hid (by unfold jitP; rw [hm]; rfl)
    rw [HP.out]
    rw [hm] at HM
    clear hj hh hT hm HP
    obtain ⟨nm, sp, sa, sel, sc, jit, wav, fai, par, dea, mis, bnd⟩ := j
    obtain ⟨mi, hO, da, mo, we, ad, aw⟩ := sp
    simp only [jobV, jobC] at *
    go_enter Tryz.func36, Tryz.ntmps36
    go_wp2_with (go_at_call 17; refine (HM.out _ (below_alloc w _)).mono ?_; rintro e w1 ⟨rfl, hb⟩; have HB1 := Lib.hid ((below_alloc w _).trans (hb.mono (by simp))); clear hb)
    go_ret
    exact ⟨rfl, HB1.out⟩
  · have HP : Hid (jitP j h = jitN j h) := Lib.hid (by unfold jitP; rw [hm]; rfl)
    rw [HP.out]
    have HJ := Lib.hid (fun V (hV : Below w.heap.size w V) => jitter_any j h hh hj.nm (mayJ_true hm).2.1 V (hT.pow.later hV))
    rw [hm] at HM
    generalize jitN j h = jn at *
    clear hj hh hT hm HP
    obtain ⟨nm, sp, sa, sel, sc, jit, wav, fai, par, dea, mis, bnd⟩ := j
    obtain ⟨mi, hO, da, mo, we, ad, aw⟩ := sp
    simp only [jobV, jobC] at *
    go_enter Tryz.func36, Tryz.ntmps36
    go_wp2_with (first | (go_at_call 17; refine (HM.out _ (below_alloc w _)).mono ?_; rintro e w1 ⟨rfl, hb⟩; have hr1 := row_below hb (by simp) (heap_new w (.cells #[.string ⟨nm.toArray⟩, .int .u64 mi, .int .u64 hO, .int .u64 da, .int .u64 mo, .int .u64 we, .bool ad, .bool aw, .slice sa sel.length sc, .int .i64 jit, .int .i64 wav, .int .i64 fai, .int .i64 par, .int .i64 dea, .int .i64 mis, .int .i64 bnd] 27)); obtain ⟨c1, _⟩ := cells_of_heap hr1; have HB1 := Lib.hid ((below_alloc w _).trans (hb.mono (by simp))); clear hb hr1) | (go_at_call 80; refine (HJ.out _ HB1.out).mono ?_; rintro e w2 ⟨rfl, hb⟩; have HB2 := Lib.hid (HB1.out.trans (hb.mono HB1.out.size)); clear hb))
    go_ret
    exact ⟨rfl, HB2.out⟩
theorem runs_single (j : Jb) (occ h : Int) (ho : occB occ = true) (hd : mayJ j = true → timeB (occ + j.dea) = true) : runsR j 1 occ [h] = if mayJ j && hostB h then .ok [h] else .error 1 := by
  unfold runsR
  cases hm : mayJ j
  · have : occOk j 1 occ = false := by unfold occOk; rw [hm]; rfl
    rw [this]; rfl
  · have h1 : occOk j 1 occ = true := by unfold occOk; rw [hm, ho, hd hm]; rfl
    have h2 : hostsOk j.name occ [h] = hostB h := by
      unfold hostsOk
      simp only [List.all_cons, List.all_nil]
      unfold keyB
      rw [(mayJ_true hm).1, ho]
      simp
    rw [h1, h2]
    cases hostB h
    · rfl
    · rfl
theorem nums_one (w : World) (t : TypeId) (h : Int) (hh : I64 h) : Nums (w.alloc (.cells #[.int .i64 h] t)) (some ⟨w.heap.size, 0, none⟩) [h] := fun i hi => by
  match i, hi with
  | 0, _ => exact ⟨_, 0, rfl, by rw [Nat.zero_add, cell_new]; rfl, hh.1, hh.2⟩
def OnePost (ok : Bool) (a : Int) (w : World) (e : Ending) (w' : World) : Prop :=
  (ok = false → e = .returned (.tuple #[.slice none 0 0, .int .i64 1])) ∧ (ok = true → ∃ g, e = .returned (.tuple #[.slice (some ⟨g, 0, none⟩) 1 1, .int .i64 0]) ∧ w'.cell? ⟨g, 4, none⟩ = some (.int .i64 a)) ∧ Below w.heap.size w w'
theorem runs_one (j : Jb) (occ h : Int) (g : Nat) (w : World) (hj : j.Ok w) (hi : I64 occ) (hN : Nums w (some ⟨g, 0, none⟩) [h]) (hT : Tb w) (ho : occB occ = true) (hd : mayJ j = true → timeB (occ + j.dea) = true) :
    Calls Tryz.prog 32 #[jobV j, .int .i64 1, .int .i64 occ, .slice (some ⟨g, 0, none⟩) 1 1] w (OnePost (mayJ j && hostB h) (occ + jitP j h) w) := by
  refine (runs_any j 1 occ (some ⟨g, 0, none⟩) [h] 1 w hj ⟨by decide, by decide⟩ hi hN (by simp [maxLen]) hT).mono (fun e w' hp => ?_)
  obtain ⟨h1, h2, hb⟩ := hp
  have hr := runs_single j occ h ho hd
  refine ⟨fun hq => ?_, fun hq => ?_, hb⟩
  · rw [hq] at hr
    exact h1 1 hr
  · rw [hq] at hr
    obtain ⟨g', he, hra, _⟩ := h2 [h] hr
    have hm : mayJ j = true := by
      cases hm : mayJ j
      · rw [hm] at hq; cases hq
      · rfl
    refine ⟨g', he, ?_⟩
    have := hra 0 (by simp) 4 _ rfl
    rw [show jitP j h = jitN j h by unfold jitP; rw [hm]; rfl]
    exact this
theorem dea_time {j : Jb} {occ : Int} (h1 : -62135596800 ≤ occ) (h2 : occ ≤ 1000000) (h : mayJ j = true) : timeB (occ + j.dea) = true := by
  have := (mayJ_true h).2.2.1
  unfold timeB
  exact decide_eq_true (by omega)
set_option maxHeartbeats 8000000 in
set_option maxRecDepth 20000 in
theorem law_jitters (j : Jb) (h : Int) (w : World) (hj : j.Ok w) (hh : I64 h) (hT : Tb w) :
    Calls Tryz.prog 13 #[jobV j, .int .i64 h] w fun e w' => e = .returned (.bool true) ∧ Below w.heap.size w w' := by
  have HJ := Lib.hid (fun V (hV : Below w.heap.size w V) => jitterP_any j h V (hj.later hV) hh (hT.later hV))
  have HL := Lib.hid (fun V hV => lives_any V hV)
  have HT := Lib.hid hT
  have HR := Lib.hid (fun occ V g (hV : Below w.heap.size w V) (hN : Nums V (some ⟨g, 0, none⟩) [h]) (hi : I64 occ) (ho : occB occ = true) (hd : mayJ j = true → timeB (occ + j.dea) = true) => runs_one j occ h g V (hj.later hV) hi hN (hT.later hV) ho hd)
  have HR1 := Lib.hid (fun V g hV hN => HR.out 600 V g hV hN ⟨by decide, by decide⟩ (by decide +kernel) (fun hm => dea_time (by decide) (by decide) hm))
  have HR2 := Lib.hid (fun V g hV hN => HR.out 1200 V g hV hN ⟨by decide, by decide⟩ (by decide +kernel) (fun hm => dea_time (by decide) (by decide) hm))
  have HN1 := Lib.hid (fun V t => nums_one V t h hh)
  obtain ⟨n0, n1, n2⟩ := jitP_bd j h
  have hji := hj.jit
  obtain ⟨ji1, ji2⟩ := hji
  clear HR hj hh hT
  generalize jitP j h = n at *
  generalize (mayJ j && hostB h) = q at *
  obtain ⟨nm, sp, sa, sel, sc, jit, wav, fai, par, dea, mis, bnd⟩ := j
  obtain ⟨mi, hO, da, mo, we, ad, aw⟩ := sp
  simp only [jobV, jobC] at *
  have hnn : ¬ n < 0 := by omega
  cases q
  · by_cases hjn : 0 ≤ jit
    · as_aux_lemma =>
      have hnj : ¬ jit < n := by have := n1 hjn; omega
      clear n1
      go_enter Tryz.func13, Tryz.ntmps13
      go_wp2_with (first | (go_at_call 36; refine (HJ.out _ (below_alloc w _)).mono ?_; rintro e w1 ⟨rfl, hb⟩; have hr1 := row_below hb (by simp) (heap_new w (.cells #[.string ⟨nm.toArray⟩, .int .u64 mi, .int .u64 hO, .int .u64 da, .int .u64 mo, .int .u64 we, .bool ad, .bool aw, .slice sa sel.length sc, .int .i64 jit, .int .i64 wav, .int .i64 fai, .int .i64 par, .int .i64 dea, .int .i64 mis, .int .i64 bnd] 27)); obtain ⟨c1, _⟩ := cells_of_heap hr1; have HR1r := Lib.hid hr1; have HB1 := Lib.hid ((below_alloc w _).trans (hb.mono (by simp))); clear hb hr1) | (go_at_call 34; refine (HL.out _ (HT.out.later HB1.out)).mono ?_; rintro e w2 ⟨rfl, hb⟩; have hr2 := row_below hb (heap_lt HR1r.out) HR1r.out; obtain ⟨c2, _⟩ := cells_of_heap hr2; have HR2r := Lib.hid hr2; have HB2 := Lib.hid (HB1.out.trans (hb.mono HB1.out.size)); clear hb hr2))
      refine (HR1.out _ _ (HB2.out.alloc HB2.out.size _) (HN1.out _ _)).mono ?_
      intro e w3 hp
      have he := hp.1 (by first | rfl | trivial)
      subst he
      have hb := hp.2.2
      have hr := row_below hb (Nat.lt_trans (heap_lt HR2r.out) (by simp)) (heap_old _ (heap_lt HR2r.out) HR2r.out)
      obtain ⟨c3, _⟩ := cells_of_heap hr
      have HR3r := Lib.hid hr
      have HB3 := Lib.hid ((HB2.out.alloc HB2.out.size _).trans (hb.mono (HB2.out.alloc HB2.out.size _).size))
      clear hb hr hp
      go_wp2_with fail
      refine (HR2.out _ _ (HB3.out.alloc HB3.out.size _) (HN1.out _ _)).mono ?_
      intro e w4 hp
      have he := hp.1 (by first | rfl | trivial)
      subst he
      have hb := hp.2.2
      have hr := row_below hb (Nat.lt_trans (heap_lt HR3r.out) (by simp)) (heap_old _ (heap_lt HR3r.out) HR3r.out)
      obtain ⟨c4, _⟩ := cells_of_heap hr
      have HR4r := Lib.hid hr
      have HB4 := Lib.hid ((HB3.out.alloc HB3.out.size _).trans (hb.mono (HB3.out.alloc HB3.out.size _).size))
      clear hb hr hp
      go_wp2
      go_ret
      exact ⟨rfl, HB4.out⟩
    · as_aux_lemma =>
      have hjj : jit < 0 := by omega
      clear n1
      go_enter Tryz.func13, Tryz.ntmps13
      go_wp2_with (first | (go_at_call 36; refine (HJ.out _ (below_alloc w _)).mono ?_; rintro e w1 ⟨rfl, hb⟩; have hr1 := row_below hb (by simp) (heap_new w (.cells #[.string ⟨nm.toArray⟩, .int .u64 mi, .int .u64 hO, .int .u64 da, .int .u64 mo, .int .u64 we, .bool ad, .bool aw, .slice sa sel.length sc, .int .i64 jit, .int .i64 wav, .int .i64 fai, .int .i64 par, .int .i64 dea, .int .i64 mis, .int .i64 bnd] 27)); obtain ⟨c1, _⟩ := cells_of_heap hr1; have HR1r := Lib.hid hr1; have HB1 := Lib.hid ((below_alloc w _).trans (hb.mono (by simp))); clear hb hr1) | (go_at_call 34; refine (HL.out _ (HT.out.later HB1.out)).mono ?_; rintro e w2 ⟨rfl, hb⟩; have hr2 := row_below hb (heap_lt HR1r.out) HR1r.out; obtain ⟨c2, _⟩ := cells_of_heap hr2; have HR2r := Lib.hid hr2; have HB2 := Lib.hid (HB1.out.trans (hb.mono HB1.out.size)); clear hb hr2))
      refine (HR1.out _ _ (HB2.out.alloc HB2.out.size _) (HN1.out _ _)).mono ?_
      intro e w3 hp
      have he := hp.1 (by first | rfl | trivial)
      subst he
      have hb := hp.2.2
      have hr := row_below hb (Nat.lt_trans (heap_lt HR2r.out) (by simp)) (heap_old _ (heap_lt HR2r.out) HR2r.out)
      obtain ⟨c3, _⟩ := cells_of_heap hr
      have HR3r := Lib.hid hr
      have HB3 := Lib.hid ((HB2.out.alloc HB2.out.size _).trans (hb.mono (HB2.out.alloc HB2.out.size _).size))
      clear hb hr hp
      go_wp2_with fail
      refine (HR2.out _ _ (HB3.out.alloc HB3.out.size _) (HN1.out _ _)).mono ?_
      intro e w4 hp
      have he := hp.1 (by first | rfl | trivial)
      subst he
      have hb := hp.2.2
      have hr := row_below hb (Nat.lt_trans (heap_lt HR3r.out) (by simp)) (heap_old _ (heap_lt HR3r.out) HR3r.out)
      obtain ⟨c4, _⟩ := cells_of_heap hr
      have HR4r := Lib.hid hr
      have HB4 := Lib.hid ((HB3.out.alloc HB3.out.size _).trans (hb.mono (HB3.out.alloc HB3.out.size _).size))
      clear hb hr hp
      go_wp2
      go_ret
      exact ⟨rfl, HB4.out⟩
  · by_cases hjn : 0 ≤ jit
    · as_aux_lemma =>
      have hnj : ¬ jit < n := by have := n1 hjn; omega
      clear n1
      go_enter Tryz.func13, Tryz.ntmps13
      go_wp2_with (first | (go_at_call 36; refine (HJ.out _ (below_alloc w _)).mono ?_; rintro e w1 ⟨rfl, hb⟩; have hr1 := row_below hb (by simp) (heap_new w (.cells #[.string ⟨nm.toArray⟩, .int .u64 mi, .int .u64 hO, .int .u64 da, .int .u64 mo, .int .u64 we, .bool ad, .bool aw, .slice sa sel.length sc, .int .i64 jit, .int .i64 wav, .int .i64 fai, .int .i64 par, .int .i64 dea, .int .i64 mis, .int .i64 bnd] 27)); obtain ⟨c1, _⟩ := cells_of_heap hr1; have HR1r := Lib.hid hr1; have HB1 := Lib.hid ((below_alloc w _).trans (hb.mono (by simp))); clear hb hr1) | (go_at_call 34; refine (HL.out _ (HT.out.later HB1.out)).mono ?_; rintro e w2 ⟨rfl, hb⟩; have hr2 := row_below hb (heap_lt HR1r.out) HR1r.out; obtain ⟨c2, _⟩ := cells_of_heap hr2; have HR2r := Lib.hid hr2; have HB2 := Lib.hid (HB1.out.trans (hb.mono HB1.out.size)); clear hb hr2))
      refine (HR1.out _ _ (HB2.out.alloc HB2.out.size _) (HN1.out _ _)).mono ?_
      intro e w3 hp
      obtain ⟨ggw3, he, cgw3⟩ := hp.2.1 (by first | rfl | trivial)
      subst he
      have hb := hp.2.2
      have hr := row_below hb (Nat.lt_trans (heap_lt HR2r.out) (by simp)) (heap_old _ (heap_lt HR2r.out) HR2r.out)
      obtain ⟨c3, _⟩ := cells_of_heap hr
      have HR3r := Lib.hid hr
      have HB3 := Lib.hid ((HB2.out.alloc HB2.out.size _).trans (hb.mono (HB2.out.alloc HB2.out.size _).size))
      clear hb hr hp
      go_wp2_with fail
      refine (HR2.out _ _ (HB3.out.alloc HB3.out.size _) (HN1.out _ _)).mono ?_
      intro e w4 hp
      obtain ⟨ggw4, he, cgw4⟩ := hp.2.1 (by first | rfl | trivial)
      subst he
      have hb := hp.2.2
      have cg3b := cell_later hb (cell_later (below_alloc w3 _) cgw3)
      have hr := row_below hb (Nat.lt_trans (heap_lt HR3r.out) (by simp)) (heap_old _ (heap_lt HR3r.out) HR3r.out)
      obtain ⟨c4, _⟩ := cells_of_heap hr
      have HR4r := Lib.hid hr
      have HB4 := Lib.hid ((HB3.out.alloc HB3.out.size _).trans (hb.mono (HB3.out.alloc HB3.out.size _).size))
      clear hb hr hp
      go_wp2
      go_ret
      exact ⟨rfl, HB4.out⟩
    · as_aux_lemma =>
      have hjj : jit < 0 := by omega
      clear n1
      go_enter Tryz.func13, Tryz.ntmps13
      go_wp2_with (first | (go_at_call 36; refine (HJ.out _ (below_alloc w _)).mono ?_; rintro e w1 ⟨rfl, hb⟩; have hr1 := row_below hb (by simp) (heap_new w (.cells #[.string ⟨nm.toArray⟩, .int .u64 mi, .int .u64 hO, .int .u64 da, .int .u64 mo, .int .u64 we, .bool ad, .bool aw, .slice sa sel.length sc, .int .i64 jit, .int .i64 wav, .int .i64 fai, .int .i64 par, .int .i64 dea, .int .i64 mis, .int .i64 bnd] 27)); obtain ⟨c1, _⟩ := cells_of_heap hr1; have HR1r := Lib.hid hr1; have HB1 := Lib.hid ((below_alloc w _).trans (hb.mono (by simp))); clear hb hr1) | (go_at_call 34; refine (HL.out _ (HT.out.later HB1.out)).mono ?_; rintro e w2 ⟨rfl, hb⟩; have hr2 := row_below hb (heap_lt HR1r.out) HR1r.out; obtain ⟨c2, _⟩ := cells_of_heap hr2; have HR2r := Lib.hid hr2; have HB2 := Lib.hid (HB1.out.trans (hb.mono HB1.out.size)); clear hb hr2))
      refine (HR1.out _ _ (HB2.out.alloc HB2.out.size _) (HN1.out _ _)).mono ?_
      intro e w3 hp
      obtain ⟨ggw3, he, cgw3⟩ := hp.2.1 (by first | rfl | trivial)
      subst he
      have hb := hp.2.2
      have hr := row_below hb (Nat.lt_trans (heap_lt HR2r.out) (by simp)) (heap_old _ (heap_lt HR2r.out) HR2r.out)
      obtain ⟨c3, _⟩ := cells_of_heap hr
      have HR3r := Lib.hid hr
      have HB3 := Lib.hid ((HB2.out.alloc HB2.out.size _).trans (hb.mono (HB2.out.alloc HB2.out.size _).size))
      clear hb hr hp
      go_wp2_with fail
      refine (HR2.out _ _ (HB3.out.alloc HB3.out.size _) (HN1.out _ _)).mono ?_
      intro e w4 hp
      obtain ⟨ggw4, he, cgw4⟩ := hp.2.1 (by first | rfl | trivial)
      subst he
      have hb := hp.2.2
      have cg3b := cell_later hb (cell_later (below_alloc w3 _) cgw3)
      have hr := row_below hb (Nat.lt_trans (heap_lt HR3r.out) (by simp)) (heap_old _ (heap_lt HR3r.out) HR3r.out)
      obtain ⟨c4, _⟩ := cells_of_heap hr
      have HR4r := Lib.hid hr
      have HB4 := Lib.hid ((HB3.out.alloc HB3.out.size _).trans (hb.mono (HB3.out.alloc HB3.out.size _).size))
      clear hb hr hp
      go_wp2
      go_ret
      exact ⟨rfl, HB4.out⟩
end Go.Proofs.YtnikhhbnbeljeaaGreatDoor.PL
