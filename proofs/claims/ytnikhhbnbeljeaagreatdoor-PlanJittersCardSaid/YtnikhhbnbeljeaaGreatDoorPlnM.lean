/- Walk of package plan: Runs, whatever comes in. -/
import Derived.Test.YtnikhhbnbeljeaaGreatDoorPlnL
set_option linter.unusedSimpArgs false
set_option linter.unusedVariables false
namespace Go.Proofs.YtnikhhbnbeljeaaGreatDoor.PL
open Go.ChangeShapes Go.WideShapes Go.ChangeAt Go.RowKit Go.Base Go.Lab Go.Civ Go.Wire

theorem runs_err (j : Jb) (ver occ : Int) (A : Option Addr) (hs : List Int) (c : Nat) (w : World) (hj : j.Ok w) (hv : I64 ver) (ho : I64 occ) (hT : Tb w)
    (hq1 : occOk j ver occ = false) :
    Calls Tryz.prog 32 #[jobV j, .int .i64 ver, .int .i64 occ, .slice A hs.length c] w fun e w' => e = .returned (.tuple #[.slice none 0 0, .int .i64 1]) ∧ Below w.heap.size w w' := by
  have HMay := Lib.hid (fun V (hV : Below w.heap.size w V) => planMay_any j ver occ V (hj.later hV) hv ho (hT.later hV))
  rw [hq1] at HMay
  clear hj hv ho hT hq1
  obtain ⟨nm, sp, sa, sel, sc, jit, wav, fai, par, dea, mis, bnd⟩ := j
  obtain ⟨mi, hO, da, mo, we, ad, aw⟩ := sp
  simp only [jobV, jobC] at *
  go_enter Tryz.func32, Tryz.ntmps32
  go_wp2_with (go_at_call 77; refine (HMay.out _ (below_alloc w _)).mono ?_; rintro e w1 ⟨rfl, hb1⟩; have HB1 := Lib.hid ((below_alloc w _).trans (hb1.mono (by simp))); clear hb1)
  go_ret2
  exact ⟨rfl, HB1.out⟩
theorem runs_err2 (j : Jb) (ver occ : Int) (A : Option Addr) (hs : List Int) (c : Nat) (w : World) (hj : j.Ok w) (hv : I64 ver) (ho : I64 occ) (hN : Nums w A hs) (hm : hs.length ≤ maxLen) (hT : Tb w)
    (hq1 : occOk j ver occ = true) (hq2 : hostsOk j.name occ hs = false) :
    Calls Tryz.prog 32 #[jobV j, .int .i64 ver, .int .i64 occ, .slice A hs.length c] w fun e w' => e = .returned (.tuple #[.slice none 0 0, .int .i64 1]) ∧ Below w.heap.size w w' := by
  have HMay := Lib.hid (fun V (hV : Below w.heap.size w V) => planMay_any j ver occ V (hj.later hV) hv ho (hT.later hV))
  have HHo := Lib.hid (fun V (hV : Below w.heap.size w V) => mayHosts_any j occ A hs c V hj.nm (hN.later hV) hm)
  have hm' : (hs.length : Int) ≤ 9223372036854775807 := by unfold maxLen at hm; omega
  rw [hq1] at HMay
  rw [hq2] at HHo
  clear hj hv ho hT hq1 hq2 hN hm
  obtain ⟨nm, sp, sa, sel, sc, jit, wav, fai, par, dea, mis, bnd⟩ := j
  obtain ⟨mi, hO, da, mo, we, ad, aw⟩ := sp
  simp only [jobV, jobC] at *
  go_enter Tryz.func32, Tryz.ntmps32
  go_wp2_with (first | (go_at_call 77; refine (HMay.out _ (below_alloc w _)).mono ?_; rintro e w1 ⟨rfl, hb1⟩; have hr1 := row_below hb1 (by simp) (heap_new w (.cells #[.string ⟨nm.toArray⟩, .int .u64 mi, .int .u64 hO, .int .u64 da, .int .u64 mo, .int .u64 we, .bool ad, .bool aw, .slice sa sel.length sc, .int .i64 jit, .int .i64 wav, .int .i64 fai, .int .i64 par, .int .i64 dea, .int .i64 mis, .int .i64 bnd] 27)); obtain ⟨c1, _⟩ := cells_of_heap hr1; have HR1 := Lib.hid hr1; have HB1 := Lib.hid ((below_alloc w _).trans (hb1.mono (by simp))); clear hb1 hr1) | (go_at_call 78; refine (HHo.out _ HB1.out).mono ?_; rintro e w2 ⟨rfl, hb2⟩; have HB2 := Lib.hid (HB1.out.trans (hb2.mono HB1.out.size)); clear hb2))
  go_ret2
  exact ⟨rfl, HB2.out⟩
theorem runs_long (j : Jb) (ver occ : Int) (A : Option Addr) (hs : List Int) (c : Nat) (w : World) (hj : j.Ok w) (hv : I64 ver) (ho : I64 occ) (hN : Nums w A hs) (hm : hs.length ≤ maxLen) (hT : Tb w)
    (hq1 : occOk j ver occ = true) (hq2 : hostsOk j.name occ hs = true) (hbig : 4096 < hs.length) :
    Calls Tryz.prog 32 #[jobV j, .int .i64 ver, .int .i64 occ, .slice A hs.length c] w fun e w' => e = .returned (.tuple #[.slice none 0 0, .int .i64 3]) ∧ Below w.heap.size w w' := by
  have HMay := Lib.hid (fun V (hV : Below w.heap.size w V) => planMay_any j ver occ V (hj.later hV) hv ho (hT.later hV))
  have HHo := Lib.hid (fun V (hV : Below w.heap.size w V) => mayHosts_any j occ A hs c V hj.nm (hN.later hV) hm)
  have hm' : (hs.length : Int) ≤ 9223372036854775807 := by unfold maxLen at hm; omega
  have hbig2 : (4096 : Int) < (hs.length : Int) := by omega
  clear hbig
  rw [hq1] at HMay
  rw [hq2] at HHo
  clear hj hv ho hT hq1 hq2 hN hm
  obtain ⟨nm, sp, sa, sel, sc, jit, wav, fai, par, dea, mis, bnd⟩ := j
  obtain ⟨mi, hO, da, mo, we, ad, aw⟩ := sp
  simp only [jobV, jobC] at *
  go_enter Tryz.func32, Tryz.ntmps32
  go_wp2_with (first | (go_at_call 77; refine (HMay.out _ (below_alloc w _)).mono ?_; rintro e w1 ⟨rfl, hb1⟩; have hr1 := row_below hb1 (by simp) (heap_new w (.cells #[.string ⟨nm.toArray⟩, .int .u64 mi, .int .u64 hO, .int .u64 da, .int .u64 mo, .int .u64 we, .bool ad, .bool aw, .slice sa sel.length sc, .int .i64 jit, .int .i64 wav, .int .i64 fai, .int .i64 par, .int .i64 dea, .int .i64 mis, .int .i64 bnd] 27)); obtain ⟨c1, _⟩ := cells_of_heap hr1; have HR1 := Lib.hid hr1; have HB1 := Lib.hid ((below_alloc w _).trans (hb1.mono (by simp))); clear hb1 hr1) | (go_at_call 78; refine (HHo.out _ HB1.out).mono ?_; rintro e w2 ⟨rfl, hb2⟩; have HB2 := Lib.hid (HB1.out.trans (hb2.mono HB1.out.size)); clear hb2))
  go_ret2
  exact ⟨rfl, HB2.out⟩
end Go.Proofs.YtnikhhbnbeljeaaGreatDoor.PL
