/- Walk of package plan: Runs. -/
import Derived.Test.YtnikhhbnbeljeaaGreatDoorPlnK
set_option linter.unusedSimpArgs false
set_option linter.unusedVariables false
namespace Go.Proofs.YtnikhhbnbeljeaaGreatDoor.PL
open Go.ChangeShapes Go.WideShapes Go.ChangeAt Go.RowKit Go.Base Go.Lab Go.Civ Go.Wire

/-- A run, as the cells that it has. -/
def runL (nm : Bytes) (occ h ver at_ un wv : Int) : List Value := [.string ⟨nm.toArray⟩, .int .i64 occ, .int .i64 h, .int .i64 ver, .int .i64 at_, .int .i64 un, .int .i64 wv]
/-- The runs of an occurrence, by the hosts in order. -/
def runF (j : Jb) (ver occ : Int) (l : List Int) : Nat → List Value := fun i => runL j.name occ (l.getD i 0) ver (occ + jitN j (l.getD i 0)) (occ + j.dea) (wvN j.wav i)
/-- The hosts in order, or the error. -/
def runsR (j : Jb) (ver occ : Int) (hs : List Int) : Except Int (List Int) :=
  if (occOk j ver occ && hostsOk j.name occ hs) = false then .error 1 else if 4096 < hs.length then .error 3 else .ok (ordH (rankN j.name occ) hs)
/-- Runs in a block. -/
def RunsAt (w : World) (g n : Nat) (F : Nat → List Value) : Prop := ∀ i, i < n → w.rangeAt g (i * 7) (F i)
theorem RunsAt.later {w w' : World} {g n : Nat} {F : Nat → List Value} (h : RunsAt w g n F) (hb : Below w.heap.size w w') : RunsAt w' g n F := fun i hi j v hv => cell_later hb (h i hi j v hv)
def RunsMain (n : Nat) (F : Nat → List Value) (w : World) (e : Ending) (w' : World) : Prop :=
  ∃ g, e = .returned (.tuple #[.slice (some ⟨g, 0, none⟩) n n, .int .i64 0]) ∧ RunsAt w' g n F ∧ w.heap.size ≤ g ∧ Below w.heap.size w w'
theorem hosts_rise {nm : Bytes} {occ : Int} {hs : List Int} (h : hostsOk nm occ hs = true) : hs.Pairwise (· < ·) := by
  unfold hostsOk at h
  simp only [Bool.and_eq_true, decide_eq_true_eq] at h
  exact h.2
theorem occ_ok {j : Jb} {ver occ : Int} (h : occOk j ver occ = true) : mayJ j = true ∧ -62135596800 ≤ occ ∧ occ ≤ 253402300799 := by
  unfold occOk at h
  simp only [Bool.and_eq_true] at h
  have h2 := h.1.2
  unfold occB timeB at h2
  simp only [Bool.and_eq_true, decide_eq_true_eq] at h2
  exact ⟨h.1.1.1.1, h2.1⟩
set_option maxHeartbeats 16000000 in
set_option maxRecDepth 20000 in
theorem runs_main (j : Jb) (ver occ : Int) (A : Option Addr) (hs : List Int) (c : Nat) (w : World) (hj : j.Ok w) (hv : I64 ver) (ho : I64 occ) (hN : Nums w A hs) (hle : hs.length ≤ 4096) (hT : Tb w)
    (hq1 : occOk j ver occ = true) (hq2 : hostsOk j.name occ hs = true) :
    Calls Tryz.prog 32 #[jobV j, .int .i64 ver, .int .i64 occ, .slice A hs.length c] w (RunsMain hs.length (runF j ver occ (ordH (rankN j.name occ) hs)) w) := by
  have hm : hs.length ≤ maxLen := by unfold maxLen; omega
  obtain ⟨hmj, o1, o2⟩ := occ_ok hq1
  have HMay := Lib.hid (fun V (hV : Below w.heap.size w V) => planMay_any j ver occ V (hj.later hV) hv ho (hT.later hV))
  have HHo := Lib.hid (fun V (hV : Below w.heap.size w V) => mayHosts_any j occ A hs c V hj.nm (hN.later hV) hm)
  have HIn := Lib.hid (fun V (hV : Below w.heap.size w V) => (inOrder_any j occ A hs c V hj.nm ho (hN.later hV) hle (hosts_rise hq2) (hT.pow.later hV)).mono (fun e w' (h : InPost V (rkL (rankN j.name occ) hs) e w') => (show ∃ g, e = .returned (.slice (some ⟨g, 0, none⟩) hs.length hs.length) ∧ Ranks w' g (rkL (rankN j.name occ) hs) ∧ V.heap.size ≤ g ∧ Below V.heap.size V w' from by
    obtain ⟨g, he, h⟩ := h
    exact ⟨g, by rw [he, show (rkL (rankN j.name occ) hs).length = hs.length by unfold rkL; rw [List.length_map, ordH_len]], h⟩)))
  have HJi := Lib.hid (fun (x : Int) (hx : I64 x) V (hV : Pow V) => jitter_any j x hx hj.nm (mayJ_true hmj).2.1 V hV)
  have HWa := Lib.hid (fun (k : Nat) (hk : k ≤ 1000000) V => waveOf_any j k hk (mayJ_true hmj).2.2.2 V)
  have HP := Lib.hid hT.pow
  have HJs : Hid (∀ x, 0 ≤ jitN j x ∧ jitN j x ≤ 86400) := Lib.hid (fun x => by
    have h2 := (mayJ_true hmj).2.1
    have := MI.spr_bd (j.jit + 1) [j.name, itoT x] (by omega)
    unfold jitN; omega)
  have HRF : Hid (∀ i, runF j ver occ (ordH (rankN j.name occ) hs) i = runL j.name occ ((ordH (rankN j.name occ) hs).getD i 0) ver (occ + jitN j ((ordH (rankN j.name occ) hs).getD i 0)) (occ + j.dea) (wvN j.wav i)) := Lib.hid (fun i => rfl)
  obtain ⟨⟨jt0, jt1⟩, ⟨dd0, dd1, dd2⟩, ⟨wv0, wv1⟩⟩ := (mayJ_true hmj).2
  have HRL : Hid (rkL (rankN j.name occ) hs = (ordH (rankN j.name occ) hs).map fun h => (h, rankN j.name occ h)) := Lib.hid rfl
  have HLl : Hid ((ordH (rankN j.name occ) hs).length = hs.length) := Lib.hid (ordH_len _ _)
  have HX : Hid (∀ k (h : k < (rkL (rankN j.name occ) hs).length), (rkL (rankN j.name occ) hs)[k].1 = (ordH (rankN j.name occ) hs).getD k 0) := Lib.hid (fun k h => by
    have h2 : k < (ordH (rankN j.name occ) hs).length := by have := h; unfold rkL at this; rwa [List.length_map] at this
    rw [List.getD_eq_getElem?_getD, List.getElem?_eq_getElem h2]
    simp [rkL])
  have HRLn : Hid ((rkL (rankN j.name occ) hs).length = hs.length) := Lib.hid (by rw [HRL.out, List.length_map, HLl.out])
  have HLI : Hid (∀ i (h : i < (ordH (rankN j.name occ) hs).length), I64 (ordH (rankN j.name occ) hs)[i]) := Lib.hid (fun i hi => by
    have hmem : (ordH (rankN j.name occ) hs)[i] ∈ hs := (ordH_perm (rankN j.name occ) hs).subset (List.getElem_mem hi)
    obtain ⟨k, hk, e⟩ := List.mem_iff_getElem.1 hmem
    obtain ⟨_, _, _, _, l1, l2⟩ := hN k hk
    rw [← e]; exact ⟨l1, l2⟩)
  rw [hq1] at HMay
  rw [hq2] at HHo
  generalize runF j ver occ (ordH (rankN j.name occ) hs) = F at *
  generalize rkL (rankN j.name occ) hs = RK at *
  generalize ordH (rankN j.name occ) hs = L at *
  generalize rankN j.name occ = rf at *
  generalize jitN j = JN at *
  have hle' : (hs.length : Int) ≤ 4096 := by omega
  obtain ⟨i0, hinfo, hz0, hz1, hz2⟩ := info_parts (P := Tryz.prog) (e := 68) (z := .agg #[.string ⟨#[]⟩, .int .i64 0, .int .i64 0, .int .i64 0, .int .i64 0, .int .i64 0, .int .i64 0]) (size := 7) (bytes := 64) (by kernel_rfl)
  have hinfR : (Tryz.prog.info? 68).map (·.size) = some (#[(.int .i64 0 : Value), .int .i64 0, .int .i64 0, .int .i64 0, .int .i64 0, .int .i64 0, .int .i64 0] : Array Value).size := by kernel_rfl
  obtain ⟨v1, v2⟩ := hv
  clear hj ho hN hm hT hq1 hq2 hmj
  obtain ⟨nm, sp, sa, sel, sc, jit, wav, fai, par, dea, mis, bnd⟩ := j
  obtain ⟨mi, hO, da, mo, we, ad, aw⟩ := sp
  simp only [jobV, jobC] at *
  go_enter Tryz.func32, Tryz.ntmps32
  go_wp2_with (first | (go_at_call 77; refine (HMay.out _ (below_alloc w _)).mono ?_; rintro e w1 ⟨rfl, hb1⟩; have hr1 := row_below hb1 (by simp) (heap_new w (.cells #[.string ⟨nm.toArray⟩, .int .u64 mi, .int .u64 hO, .int .u64 da, .int .u64 mo, .int .u64 we, .bool ad, .bool aw, .slice sa sel.length sc, .int .i64 jit, .int .i64 wav, .int .i64 fai, .int .i64 par, .int .i64 dea, .int .i64 mis, .int .i64 bnd] 27)); obtain ⟨c1, _⟩ := cells_of_heap hr1; have HR1 := Lib.hid hr1; have HB1 := Lib.hid ((below_alloc w _).trans (hb1.mono (by simp))); clear hb1 hr1) | (go_at_call 78; refine (HHo.out _ HB1.out).mono ?_; rintro e w2 ⟨rfl, hb2⟩; have hr2 := row_below hb2 (heap_lt HR1.out) HR1.out; obtain ⟨c2, _⟩ := cells_of_heap hr2; have HR2 := Lib.hid hr2; have HB2 := Lib.hid (HB1.out.trans (hb2.mono HB1.out.size)); clear hb2 hr2) | (refine wpList_make_full (o := ⟨some 30, _, _, _, _, _⟩) _ (by rfl) (.tmp 29) (.tmp 29) 57 (by rfl) w.heap.size 68 i0 (.agg #[.string ⟨#[]⟩, .int .i64 0, .int .i64 0, .int .i64 0, .int .i64 0, .int .i64 0, .int .i64 0]) 7 Tryz.underlying57 hinfo hz0 hz1 .i64 .i64 _ _ hs.length (by rfl) (by rfl) (by rfl) (by rfl) (by rw [hz2]; omega) (by unfold maxLen; omega) HB2.out.size ?_; intro w3 hown hgrow; have HE3 := Lib.hid (Elems.of_own F hown); have hb3 := below_of_grown hgrow; have hr3 := row_below hb3 (heap_lt HR2.out) HR2.out; obtain ⟨c3, _⟩ := cells_of_heap hr3; have HR3 := Lib.hid hr3; have HB3 := Lib.hid (HB2.out.trans (hb3.mono HB2.out.size)); clear hown hgrow hb3 hr3) | (go_at_call 79; refine (HIn.out _ HB3.out).mono ?_; rintro e w4 ⟨gr, rfl, hrk, hgr, hb4⟩; have hr4 := row_below hb4 (heap_lt HR3.out) HR3.out; have HRow0 := Lib.hid hr4; have HE0 := Lib.hid (HE3.out.later hb4); have HRk0 := Lib.hid hrk; have HB0 := Lib.hid (HB3.out.trans (hb4.mono HB3.out.size)); have HG0 := Lib.hid (And.intro hgr hb4.size); clear hb4 hr4 hrk hgr))
  have HGr : Hid (w.heap.size < w2.heap.size) := Lib.hid (heap_lt HR2.out)
  have HGg : Hid (w2.heap.size < gr) := Lib.hid (by have h1 := HE3.out.lt; have h2 := HG0.out.1; omega)
  clear HR1 HB1 HR2 HB2 HE3 HR3 HB3 HMay HHo HIn c1 c2 c3
  generalize w2.heap.size = g at *
  go_loopw [11, 12, 36] (fun _ _ i wr => ∃ k : Nat, k ≤ hs.length ∧ i = .int .i64 (k : Int) ∧ Hid (Elems 7 68 wr g hs.length k F) ∧ Hid (Ranks wr gr RK) ∧ Hid (Below w.heap.size w wr) ∧ Hid (wr.heap[w.heap.size]? = some (.cells #[.string ⟨nm.toArray⟩, .int .u64 mi, .int .u64 hO, .int .u64 da, .int .u64 mo, .int .u64 we, .bool ad, .bool aw, .slice sa sel.length sc, .int .i64 jit, .int .i64 wav, .int .i64 fai, .int .i64 par, .int .i64 dea, .int .i64 mis, .int .i64 bnd] 27 (0, 0)))) (fun _ _ i _ => hs.length - (intOf i).toNat)
  case atStart => exact ⟨0, Nat.zero_le _, rfl, HE0, HRk0, HB0, HRow0⟩
  case round =>
    obtain ⟨k, hk, rfl, HE, HRk, HB, HRow⟩ := hrel
    clear HE0 HRk0 HB0 HRow0 HG0
    by_cases hlt : k < hs.length
    · have hlt' : (k : Int) < (hs.length : Int) := by omega
      have hk0 : (0 : Int) ≤ (k : Int) := by omega
      have hkR : k < RK.length := by rw [HRLn.out]; exact hlt
      obtain ⟨r0, r1⟩ := HRk.out k hkR
      rw [HX.out k hkR] at r0
      have hxI : I64 (L.getD k 0) := by
        have h2 : k < L.length := by rw [HLl.out]; exact hlt
        rw [List.getD_eq_getElem?_getD, List.getElem?_eq_getElem h2]
        exact HLI.out k h2
      have HFk := Lib.hid (HRF.out k)
      have HJ := Lib.hid (HJi.out (L.getD k 0) hxI)
      obtain ⟨jn0, jn1⟩ := HJs.out (L.getD k 0)
      have HWv := Lib.hid (HWa.out k (by omega))
      generalize RK[k].2 = rr at *
      generalize L.getD k 0 = x at *
      generalize JN x = jn at *
      generalize wvN wav k = wv at *
      have hw1 : IntKind.i64.wrap (occ + jn) = occ + jn := IntWalk.i64_in _ (by omega)
      have hw2 : IntKind.i64.wrap (occ + dea) = occ + dea := IntWalk.i64_in _ (by omega)
      have hglt := HE.out.lt
      clear hkR hxI
      go_wp2
      refine at_world (C := fun V => Code.wp _ _ _ _ V) (P := fun V => Below wr.heap.size wr V ∧ V.cell? ⟨wr.heap.size, 0, none⟩ = some (.int .i64 x)) ⟨by go_grown, by go_simp⟩ (fun W hW => ?_)
      obtain ⟨hWb, hWx⟩ := hW
      have HBW : Hid (Below w.heap.size w W) := Lib.hid (HB.out.trans (hWb.mono HB.out.size))
      have HEW := Lib.hid (HE.out.later hWb)
      have HRkW := Lib.hid (HRk.out.later hWb)
      have HRowW := Lib.hid (row_below hWb (heap_lt HRow.out) HRow.out)
      have HSt : Hid (∀ V, Below W.heap.size W V → (∀ i, V.cell? ⟨w.heap.size, i, none⟩ = (#[.string ⟨nm.toArray⟩, .int .u64 mi, .int .u64 hO, .int .u64 da, .int .u64 mo, .int .u64 we, .bool ad, .bool aw, .slice sa sel.length sc, .int .i64 jit, .int .i64 wav, .int .i64 fai, .int .i64 par, .int .i64 dea, .int .i64 mis, .int .i64 bnd] : Array Value)[i]?) ∧ V.cell? ⟨wr.heap.size, 0, none⟩ = some (.int .i64 x)) := Lib.hid (fun V hV => ⟨(cells_of_heap (row_below hV (heap_lt HRowW.out) HRowW.out)).1, cell_later hV hWx⟩)
      have HSt2 : Hid (∀ V, Below W.heap.size W V → ∀ vs, (∀ i, (V.setCells g (k * 7) vs).cell? ⟨w.heap.size, i, none⟩ = (#[.string ⟨nm.toArray⟩, .int .u64 mi, .int .u64 hO, .int .u64 da, .int .u64 mo, .int .u64 we, .bool ad, .bool aw, .slice sa sel.length sc, .int .i64 jit, .int .i64 wav, .int .i64 fai, .int .i64 par, .int .i64 dea, .int .i64 mis, .int .i64 bnd] : Array Value)[i]?) ∧ (V.setCells g (k * 7) vs).cell? ⟨wr.heap.size, 0, none⟩ = some (.int .i64 x)) := Lib.hid (fun V hV vs => by
        have h1 := HSt.out V hV
        have hgw := HGr.out
        refine ⟨fun i => ?_, ?_⟩
        · rw [World.cell?_setCells_out g vs (k * 7) V _ (fun h _ => absurd h (show w.heap.size ≠ g by omega))]; exact h1.1 i
        · rw [World.cell?_setCells_out g vs (k * 7) V _ (fun h _ => absurd h (show wr.heap.size ≠ g by omega))]; exact h1.2)
      clear HE HRk HB HRow hWb hWx r0 r1
      have HSJ : Hid (∀ V : World, ((∀ i, V.cell? ⟨w.heap.size, i, none⟩ = (#[.string ⟨nm.toArray⟩, .int .u64 mi, .int .u64 hO, .int .u64 da, .int .u64 mo, .int .u64 we, .bool ad, .bool aw, .slice sa sel.length sc, .int .i64 jit, .int .i64 wav, .int .i64 fai, .int .i64 par, .int .i64 dea, .int .i64 mis, .int .i64 bnd] : Array Value)[i]?) ∧ V.cell? ⟨wr.heap.size, 0, none⟩ = some (.int .i64 x)) → V.rangeAt w.heap.size 0 [.string ⟨nm.toArray⟩, .int .u64 mi, .int .u64 hO, .int .u64 da, .int .u64 mo, .int .u64 we, .bool ad, .bool aw, .slice sa sel.length sc, .int .i64 jit, .int .i64 wav, .int .i64 fai, .int .i64 par, .int .i64 dea, .int .i64 mis, .int .i64 bnd]) := Lib.hid (fun V hV i v hv => by
        rw [Nat.zero_add, hV.1 i]
        simpa using hv)
      have HinfJ : Hid ((Tryz.prog.info? 27).map (·.size) = some 16) := Lib.hid (by kernel_rfl)
      refine wp_region_held_drew (S := (fun V => (∀ i, V.cell? ⟨w.heap.size, i, none⟩ = (#[.string ⟨nm.toArray⟩, .int .u64 mi, .int .u64 hO, .int .u64 da, .int .u64 mo, .int .u64 we, .bool ad, .bool aw, .slice sa sel.length sc, .int .i64 jit, .int .i64 wav, .int .i64 fai, .int .i64 par, .int .i64 dea, .int .i64 mis, .int .i64 bnd] : Array Value)[i]?) ∧ V.cell? ⟨wr.heap.size, 0, none⟩ = some (.int .i64 x))) (by kernel_rfl) (HSt.out _ (Below.refl _ _).drew) (fun hHeld => ?_)
      refine wpAnyH_take (i := 0) (v := ?vv1) rfl (by kernel_rfl) (by kernel_rfl) (by kernel_rfl) (fun _ _ _ h => h) (Or.inl ⟨by rfl, ?hy1⟩) hHeld ?rr1
      case hy1 => (intro w' hSw; obtain ⟨s0, s1⟩ := hSw; go_simp; try with_reducible rfl)
      try simp only [Act.put, List.setIfInBounds_toArray, List.set_cons_zero, List.set_cons_succ, List.getElem_toArray, List.getElem_cons_succ, List.getElem_cons_zero]
      refine wpAnyH_take (i := 1) (v := ?vv2) rfl (by kernel_rfl) (by kernel_rfl) (by kernel_rfl) (fun _ _ _ h => h) (Or.inl ⟨by rfl, ?hy2⟩) hHeld ?rr2
      case hy2 => (intro w' hSw; obtain ⟨s0, s1⟩ := hSw; go_simp; try with_reducible rfl)
      try simp only [Act.put, List.setIfInBounds_toArray, List.set_cons_zero, List.set_cons_succ, List.getElem_toArray, List.getElem_cons_succ, List.getElem_cons_zero]
      refine wpAnyH_take (i := 2) (v := ?vv3) rfl (by kernel_rfl) (by kernel_rfl) (by kernel_rfl) (fun _ _ _ h => h) (Or.inl ⟨by rfl, ?hy3⟩) hHeld ?rr3
      case hy3 => (intro w' hSw; obtain ⟨s0, s1⟩ := hSw; go_simp; try with_reducible rfl)
      try simp only [Act.put, List.setIfInBounds_toArray, List.set_cons_zero, List.set_cons_succ, List.getElem_toArray, List.getElem_cons_succ, List.getElem_cons_zero]
      refine wpAnyH_take (i := 3) (v := ?vv4) rfl (by kernel_rfl) (by kernel_rfl) (by kernel_rfl) (fun _ _ _ h => h) (Or.inl ⟨by rfl, ?hy4⟩) hHeld ?rr4
      case hy4 => (intro w' hSw; obtain ⟨s0, s1⟩ := hSw; go_simp; try with_reducible rfl)
      try simp only [Act.put, List.setIfInBounds_toArray, List.set_cons_zero, List.set_cons_succ, List.getElem_toArray, List.getElem_cons_succ, List.getElem_cons_zero]
      refine wpAnyH_take (i := 4) (v := ?vv5) rfl (by kernel_rfl) (by kernel_rfl) (by kernel_rfl) (fun _ _ _ h => h) (Or.inl ⟨by rfl, ?hy5⟩) hHeld ?rr5
      case hy5 => (intro w' hSw; obtain ⟨s0, s1⟩ := hSw; go_simp; try with_reducible rfl)
      try simp only [Act.put, List.setIfInBounds_toArray, List.set_cons_zero, List.set_cons_succ, List.getElem_toArray, List.getElem_cons_succ, List.getElem_cons_zero]
      refine wpAnyH_take (i := 5) (v := ?vv6) rfl (by kernel_rfl) (by kernel_rfl) (by kernel_rfl) (fun _ _ _ h => h) (Or.inl ⟨by rfl, ?hy6⟩) hHeld ?rr6
      case hy6 => (intro w' hSw; obtain ⟨s0, s1⟩ := hSw; go_simp; try with_reducible rfl)
      try simp only [Act.put, List.setIfInBounds_toArray, List.set_cons_zero, List.set_cons_succ, List.getElem_toArray, List.getElem_cons_succ, List.getElem_cons_zero]
      refine wpAnyH_take (i := 6) (v := ?vv7) rfl (by kernel_rfl) (by kernel_rfl) (by kernel_rfl) (fun _ _ _ h => h) (Or.inl ⟨by rfl, ?hy7⟩) hHeld ?rr7
      case hy7 => (intro w' hSw; obtain ⟨s0, s1⟩ := hSw; go_simp; try with_reducible rfl)
      try simp only [Act.put, List.setIfInBounds_toArray, List.set_cons_zero, List.set_cons_succ, List.getElem_toArray, List.getElem_cons_succ, List.getElem_cons_zero]
      refine wpAnyH_take (i := 7) (v := ?vv8) rfl (by kernel_rfl) (by kernel_rfl) (by kernel_rfl) (fun _ _ _ h => h) (Or.inl ⟨by rfl, ?hy8⟩) hHeld ?rr8
      case hy8 => (intro w' hSw; obtain ⟨s0, s1⟩ := hSw; go_simp; try with_reducible rfl)
      try simp only [Act.put, List.setIfInBounds_toArray, List.set_cons_zero, List.set_cons_succ, List.getElem_toArray, List.getElem_cons_succ, List.getElem_cons_zero]
      refine wpAnyH_take (i := 8) (v := ?vv9) rfl (by kernel_rfl) (by kernel_rfl) (by kernel_rfl) (fun _ _ _ h => h) (Or.inl ⟨by rfl, ?hy9⟩) hHeld ?rr9
      case hy9 => (intro w' hSw; obtain ⟨s0, s1⟩ := hSw; go_simp; try with_reducible rfl)
      try simp only [Act.put, List.setIfInBounds_toArray, List.set_cons_zero, List.set_cons_succ, List.getElem_toArray, List.getElem_cons_succ, List.getElem_cons_zero]
      refine wpAnyH_take (i := 9) (v := ?vv10) rfl (by kernel_rfl) (by kernel_rfl) (by kernel_rfl) (fun _ _ _ h => h) (Or.inl ⟨by rfl, ?hy10⟩) hHeld ?rr10
      case hy10 => (intro w' hSw; obtain ⟨s0, s1⟩ := hSw; go_simp; try with_reducible rfl)
      try simp only [Act.put, List.setIfInBounds_toArray, List.set_cons_zero, List.set_cons_succ, List.getElem_toArray, List.getElem_cons_succ, List.getElem_cons_zero]
      refine wpAnyH_take (i := 10) (v := .agg #[.string ⟨nm.toArray⟩, .int .u64 mi, .int .u64 hO, .int .u64 da, .int .u64 mo, .int .u64 we, .bool ad, .bool aw, .slice sa sel.length sc, .int .i64 jit, .int .i64 wav, .int .i64 fai, .int .i64 par, .int .i64 dea, .int .i64 mis, .int .i64 bnd]) rfl (by kernel_rfl) (by kernel_rfl) (by kernel_rfl) (fun _ _ _ h => h) (yieldsIf_load_mid (by rfl) 27 (.tmp 4) rfl w.heap.size 0 rfl [.string ⟨nm.toArray⟩, .int .u64 mi, .int .u64 hO, .int .u64 da, .int .u64 mo, .int .u64 we, .bool ad, .bool aw, .slice sa sel.length sc, .int .i64 jit, .int .i64 wav, .int .i64 fai, .int .i64 par, .int .i64 dea, .int .i64 mis, .int .i64 bnd] _ HSJ.out Tryz.underlying27 rfl HinfJ.out) hHeld ?rr11
      try simp only [Act.put, List.setIfInBounds_toArray, List.set_cons_zero, List.set_cons_succ, List.getElem_toArray, List.getElem_cons_succ, List.getElem_cons_zero]
      refine wpAnyH_take (i := 11) (v := ?vv12) rfl (by kernel_rfl) (by kernel_rfl) (by kernel_rfl) (fun _ _ _ h => h) (Or.inl ⟨by rfl, ?hy12⟩) hHeld ?rr12
      case hy12 => (intro w' hSw; obtain ⟨s0, s1⟩ := hSw; go_simp; try with_reducible rfl)
      try simp only [Act.put, List.setIfInBounds_toArray, List.set_cons_zero, List.set_cons_succ, List.getElem_toArray, List.getElem_cons_succ, List.getElem_cons_zero]
      refine wpAnyH_take (i := 12) (v := ?vv13) rfl (by kernel_rfl) (by kernel_rfl) (by kernel_rfl) (fun _ _ _ h => h) (Or.inl ⟨by rfl, ?hy13⟩) hHeld ?rr13
      case hy13 => (intro w' hSw; obtain ⟨s0, s1⟩ := hSw; go_simp; try with_reducible rfl)
      try simp only [Act.put, List.setIfInBounds_toArray, List.set_cons_zero, List.set_cons_succ, List.getElem_toArray, List.getElem_cons_succ, List.getElem_cons_zero]
      refine wpAnyH_take (i := 15) (v := ?vv14) rfl (by kernel_rfl) (by kernel_rfl) (by kernel_rfl) (fun _ _ _ h => h) (Or.inl ⟨by rfl, ?hy14⟩) hHeld ?rr14
      case hy14 => (intro w' hSw; obtain ⟨s0, s1⟩ := hSw; go_simp; try with_reducible rfl)
      try simp only [Act.put, List.setIfInBounds_toArray, List.set_cons_zero, List.set_cons_succ, List.getElem_toArray, List.getElem_cons_succ, List.getElem_cons_zero]
      refine wpAnyH_take (i := 16) (v := ?vv15) rfl (by kernel_rfl) (by kernel_rfl) (by kernel_rfl) (fun _ _ _ h => h) (Or.inl ⟨by rfl, ?hy15⟩) hHeld ?rr15
      case hy15 => (intro w' hSw; obtain ⟨s0, s1⟩ := hSw; go_simp; try with_reducible rfl)
      try simp only [Act.put, List.setIfInBounds_toArray, List.set_cons_zero, List.set_cons_succ, List.getElem_toArray, List.getElem_cons_succ, List.getElem_cons_zero]
      refine wpAnyH_take (i := 17) (v := ?vv16) rfl (by kernel_rfl) (by kernel_rfl) (by kernel_rfl) (fun _ _ _ h => h) (Or.inl ⟨by rfl, ?hy16⟩) hHeld ?rr16
      case hy16 => (intro w' hSw; obtain ⟨s0, s1⟩ := hSw; go_simp; try with_reducible rfl)
      try simp only [Act.put, List.setIfInBounds_toArray, List.set_cons_zero, List.set_cons_succ, List.getElem_toArray, List.getElem_cons_succ, List.getElem_cons_zero]
      refine wpAnyH_take (i := 18) (v := ?vv17) rfl (by kernel_rfl) (by kernel_rfl) (by kernel_rfl) (fun _ _ _ h => h) (Or.inl ⟨by rfl, ?hy17⟩) hHeld ?rr17
      case hy17 => (intro w' hSw; obtain ⟨s0, s1⟩ := hSw; go_simp; try with_reducible rfl)
      try simp only [Act.put, List.setIfInBounds_toArray, List.set_cons_zero, List.set_cons_succ, List.getElem_toArray, List.getElem_cons_succ, List.getElem_cons_zero]
      refine wpAnyH_take (i := 19) (v := .agg #[.string ⟨nm.toArray⟩, .int .u64 mi, .int .u64 hO, .int .u64 da, .int .u64 mo, .int .u64 we, .bool ad, .bool aw, .slice sa sel.length sc, .int .i64 jit, .int .i64 wav, .int .i64 fai, .int .i64 par, .int .i64 dea, .int .i64 mis, .int .i64 bnd]) rfl (by kernel_rfl) (by kernel_rfl) (by kernel_rfl) (fun _ _ _ h => h) (yieldsIf_load_mid (by rfl) 27 (.tmp 4) rfl w.heap.size 0 rfl [.string ⟨nm.toArray⟩, .int .u64 mi, .int .u64 hO, .int .u64 da, .int .u64 mo, .int .u64 we, .bool ad, .bool aw, .slice sa sel.length sc, .int .i64 jit, .int .i64 wav, .int .i64 fai, .int .i64 par, .int .i64 dea, .int .i64 mis, .int .i64 bnd] _ HSJ.out Tryz.underlying27 rfl HinfJ.out) hHeld ?rr18
      try simp only [Act.put, List.setIfInBounds_toArray, List.set_cons_zero, List.set_cons_succ, List.getElem_toArray, List.getElem_cons_succ, List.getElem_cons_zero]
      refine wpAnyH_take (i := 20) (v := ?vv19) rfl (by kernel_rfl) (by kernel_rfl) (by kernel_rfl) (fun _ _ _ h => h) (Or.inl ⟨by rfl, ?hy19⟩) hHeld ?rr19
      case hy19 => (intro w' hSw; obtain ⟨s0, s1⟩ := hSw; go_simp; try with_reducible rfl)
      try simp only [Act.put, List.setIfInBounds_toArray, List.set_cons_zero, List.set_cons_succ, List.getElem_toArray, List.getElem_cons_succ, List.getElem_cons_zero]
      refine wpAnyH_ready (rs := [13]) (by kernel_rfl) (by simp) ?_
      refine AllReadyH.cons rfl (fun K hK => ?_) AllReadyH.nil
      try rw [if_pos (by rfl)]
      go_simp
      go_at_call 80
      refine Calls.mono (by with_reducible exact HJ.out _ (HP.out.later (HBW.out.trans ((Below.refl _ _).drew.mono HBW.out.size)))) ?_
      rintro e w3 ⟨rfl, hb⟩
      have HB3 : Hid (Below W.heap.size W w3) := Lib.hid ((Below.refl W.heap.size W).drew.trans hb)
      clear hb
      go_wp2_with fail
      refine hK.out _ _ (HSt.out _ HB3.out) (fun hHeld2 => ?_)
      clear hK K hHeld
      have hHeld := hHeld2
      clear hHeld2
      try simp only [Act.put, List.setIfInBounds_toArray, List.set_cons_zero, List.set_cons_succ, List.getElem_toArray, List.getElem_cons_succ, List.getElem_cons_zero]
      refine wpAnyH_take (i := 14) (v := ?vv20) rfl (by kernel_rfl) (by kernel_rfl) (by kernel_rfl) (fun _ _ _ h => h) (Or.inl ⟨by rfl, ?hy20⟩) hHeld ?rr20
      case hy20 => (intro w' hSw; obtain ⟨s0, s1⟩ := hSw; go_simp; try with_reducible rfl)
      try simp only [Act.put, List.setIfInBounds_toArray, List.set_cons_zero, List.set_cons_succ, List.getElem_toArray, List.getElem_cons_succ, List.getElem_cons_zero]
      refine wpAnyH_ready (rs := [21]) (by kernel_rfl) (by simp) ?_
      refine AllReadyH.cons rfl (fun K hK => ?_) AllReadyH.nil
      try rw [if_pos (by rfl)]
      go_simp
      go_at_call 81
      refine Calls.mono (by with_reducible exact HWv.out _) ?_
      rintro e w4 ⟨rfl, hb⟩
      have HB4 : Hid (Below W.heap.size W w4) := Lib.hid (HB3.out.trans (hb.mono HB3.out.size))
      clear hb
      go_wp2_with fail
      refine hK.out _ _ (HSt.out _ HB4.out) (fun hHeld2 => ?_)
      clear hK K hHeld
      have hHeld := hHeld2
      clear hHeld2
      try simp only [Act.put, List.setIfInBounds_toArray, List.set_cons_zero, List.set_cons_succ, List.getElem_toArray, List.getElem_cons_succ, List.getElem_cons_zero]
      refine wpAnyH_take (i := 22) (v := ?vv21) rfl (by kernel_rfl) (by kernel_rfl) (by kernel_rfl) (fun _ _ _ h => h) (Or.inl ⟨by rfl, ?hy21⟩) hHeld ?rr21
      case hy21 => (intro w' hSw; obtain ⟨s0, s1⟩ := hSw; go_simp; try with_reducible rfl)
      try simp only [Act.put, List.setIfInBounds_toArray, List.set_cons_zero, List.set_cons_succ, List.getElem_toArray, List.getElem_cons_succ, List.getElem_cons_zero]
      refine wpAnyH_take (i := 23) (v := ?vv22) rfl (by kernel_rfl) (by kernel_rfl) (by kernel_rfl) (fun _ _ _ h => h) (Or.inl ⟨by rfl, ?hy22⟩) hHeld ?rr22
      case hy22 => (intro w' hSw; obtain ⟨s0, s1⟩ := hSw; go_simp; try with_reducible rfl)
      try simp only [Act.put, List.setIfInBounds_toArray, List.set_cons_zero, List.set_cons_succ, List.getElem_toArray, List.getElem_cons_succ, List.getElem_cons_zero]
      refine wpAnyH_ready (rs := [24]) (by kernel_rfl) (by simp) ?_
      refine AllReadyH.cons rfl (fun K hK => ?_) AllReadyH.nil
      try rw [if_pos (by rfl)]
      refine wp_store_mid 68 (.tmp 64) (.tmp 63) rfl g (k * 7) #[.string ⟨nm.toArray⟩, .int .i64 occ, .int .i64 x, .int .i64 ver, .int .i64 (occ + jn), .int .i64 (occ + dea), .int .i64 wv] rfl rfl ((HEW.out.later HB4.out).there hlt) hinfR (by rw [← Array.all_toList]; rfl) ?_
      refine hK.out _ _ (HSt2.out _ HB4.out [.string ⟨nm.toArray⟩, .int .i64 occ, .int .i64 x, .int .i64 ver, .int .i64 (occ + jn), .int .i64 (occ + dea), .int .i64 wv]) (fun hHeld2 => ?_)
      clear hK K hHeld
      have hHeld := hHeld2
      clear hHeld2
      try simp only [Act.put, List.setIfInBounds_toArray, List.set_cons_zero, List.set_cons_succ, List.getElem_toArray, List.getElem_cons_succ, List.getElem_cons_zero]
      refine wpAnyH_done (by kernel_rfl) ?_ _
      clear hHeld
      have HE5 := Lib.hid ((HEW.out.later HB4.out).put hlt [.string ⟨nm.toArray⟩, .int .i64 occ, .int .i64 x, .int .i64 ver, .int .i64 (occ + jn), .int .i64 (occ + dea), .int .i64 wv] rfl HFk.out)
      have HM5 := Lib.hid (setCells_moved g [.string ⟨nm.toArray⟩, .int .i64 occ, .int .i64 x, .int .i64 ver, .int .i64 (occ + jn), .int .i64 (occ + dea), .int .i64 wv] (k * 7) w4)
      have HB5 : Hid (Below w.heap.size w (w4.setCells g (k * 7) [.string ⟨nm.toArray⟩, .int .i64 occ, .int .i64 x, .int .i64 ver, .int .i64 (occ + jn), .int .i64 (occ + dea), .int .i64 wv])) := Lib.hid ((HBW.out.trans (HB4.out.mono HBW.out.size)).trans (HM5.out.below (fun j _ h => by have := HGr.out; omega) (HBW.out.trans (HB4.out.mono HBW.out.size)).size))
      have HRow5 := Lib.hid (HM5.out.heap (row_below HB4.out (heap_lt HRowW.out) HRowW.out) (by have := HGr.out; omega))
      have HRk5 : Hid (Ranks (w4.setCells g (k * 7) [.string ⟨nm.toArray⟩, .int .i64 occ, .int .i64 x, .int .i64 ver, .int .i64 (occ + jn), .int .i64 (occ + dea), .int .i64 wv]) gr RK) := Lib.hid (by
        have h := HRkW.out.later HB4.out
        have hne : ¬ gr = g := by have := HGg.out; omega
        exact fun i hi => ⟨HM5.out.cell (h i hi).1 hne, HM5.out.cell (h i hi).2 hne⟩)
      go_wp2
      go_roundw
      case rel => exact ⟨k + 1, by omega, by go_num, HE5, HRk5, HB5, HRow5⟩
      case measure => simp [intOf]; omega
    · obtain rfl : k = hs.length := by omega
      clear hlt hk
      go_wp2
      go_ret2
      exact ⟨g, rfl, HE.out.el, by have := HGr.out; omega, HB.out⟩
end Go.Proofs.YtnikhhbnbeljeaaGreatDoor.PL
