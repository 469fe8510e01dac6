/- Package plan: Waves, by the library's MaxFunc; the reference's Waves and Find; the law's Same. -/
import Derived.Test.YtnikhhbnbeljeaaGreatDoorPlnN
import Derived.Deep.Cut
import Derived.Deep.CutBlock
import Derived.Deep.RegionHeld3
set_option linter.unusedSimpArgs false
set_option linter.unusedVariables false
namespace Go.Proofs.YtnikhhbnbeljeaaGreatDoor.PL
open Go.ChangeShapes Go.WideShapes Go.ChangeAt Go.RowKit Go.Base Go.Lab

theorem waves1_any (x m : Rn) (w : World) :
    Calls Tryz.prog 91 #[.agg (rnC x).toArray, .agg (rnC m).toArray] w fun e w' => e = .returned (.int .i64 (cmpI x.wv m.wv)) ∧ Below w.heap.size w w' := by
  have HC := Lib.hid (fun V => compare_any x.wv m.wv V)
  obtain ⟨xjob, xocc, xhost, xver, xat_, xun, xwv⟩ := x
  obtain ⟨mjob, mocc, mhost, mver, mat_, mun, mwv⟩ := m
  simp only [rnC] at *
  go_enter Tryz.func91, Tryz.ntmps91
  go_wp2_with (go_at_call 92; refine (HC.out _).mono ?_; rintro e w1 ⟨rfl, rfl⟩)
  go_ret
  exact ⟨rfl, by go_grown⟩
theorem cmpI_pos (x y : Int) : decide (0 < cmpI x y) = decide (y < x) := by
  unfold cmpI; rw [decide_eq_decide]; split
  · omega
  · split <;> omega
def MaxPost (l : List Rn) (w : World) (e : Ending) (w' : World) : Prop := ∃ m : Rn, e = .returned (.agg (rnC m).toArray) ∧ m ∈ l ∧ (∀ x ∈ l, x.wv ≤ m.wv) ∧ Below w.heap.size w w'
set_option maxHeartbeats 8000000 in
set_option maxRecDepth 20000 in
theorem maxf_any (A : Option Addr) (l : List Rn) (c : Nat) (w : World) (hR : Rns w A l) (hm : l.length ≤ maxLen) (h0 : 0 < l.length) :
    Calls Tryz.prog 90 #[.slice A l.length c, .func (.func 91) #[] #[]] w (MaxPost l w) := by
  have HR := Lib.hid hR
  have hm' : (l.length : Int) ≤ 9223372036854775807 := by unfold maxLen at hm; omega
  have h1 : ¬ (l.length : Int) < 1 := by omega
  have h2 : (0 : Int) < (l.length : Int) := by omega
  obtain ⟨b, o, rfl, hr⟩ := hR 0 h0
  obtain ⟨c0, c1, c2, c3, c4, c5, c6⟩ := rn_cells hr
  rw [Nat.zero_mul, Nat.add_zero] at c0 c1 c2 c3 c4 c5 c6
  have hbl : b < w.heap.size := World.block_lt_of_cell? w _ c0
  have HI : Hid (l[0] ∈ l) := Lib.hid (List.getElem_mem h0)
  have HL : Hid (∀ j (hj : j < l.length), j < 1 → l[j].wv ≤ l[0].wv) := Lib.hid (fun j hj hj1 => by
    obtain rfl : j = 0 := by omega
    exact Int.le_refl _)
  clear hR hm hr
  generalize l[0] = z at *
  clear h0
  obtain ⟨zjob, zocc, zhost, zver, zat_, zun, zwv⟩ := z
  simp only [rnC] at *
  go_enter Tryz.func90, Tryz.ntmps90
  go_wp2
  go_loopw [6] (fun iv wr => ∃ (k : Nat) (m : Rn), 1 ≤ k ∧ k ≤ l.length ∧ iv = .int .i64 (k : Int) ∧ Hid (m ∈ l) ∧ Hid (∀ j (hj : j < l.length), j < k → l[j].wv ≤ m.wv) ∧ Hid (Below w.heap.size w wr) ∧ Hid (wr.heap[w.heap.size + 1]? = some (.cells (rnC m).toArray 68 (0, 0))) ∧ Hid (∃ z0 : Array Value, wr.heap[w.heap.size]? = some (.cells z0 68 (0, 0)) ∧ z0.size = 7)) (fun iv _ => l.length - (intOf iv).toNat)
  case atStart => exact ⟨1, ⟨zjob, zocc, zhost, zver, zat_, zun, zwv⟩, Nat.le_refl _, by omega, rfl, HI, HL, Lib.hid (by go_grown), Lib.hid (heap_at _ (by simp)), Lib.hid ⟨_, heap_old _ (by simp) (heap_new _ _), rfl⟩⟩
  case round =>
    obtain ⟨k, m, hk1, hk, rfl, HMem, HMax, HB, HRow, HZ⟩ := hrel
    clear HI HL c0 c1 c2 c3 c4 c5 c6
    obtain ⟨cm, _⟩ := cells_of_heap HRow.out
    by_cases hlt : k < l.length
    · have hlt' : (k : Int) < (l.length : Int) := by omega
      have hk0 : (0 : Int) ≤ (k : Int) := by omega
      obtain ⟨b', o', e', hr⟩ := (HR.out.later HB.out) k hlt
      injection e' with e'; injection e' with e1 e2 _; subst e1; subst e2
      obtain ⟨c0, c1, c2, c3, c4, c5, c6⟩ := rn_cells hr
      have HC := Lib.hid (fun V => waves1_any l[k] m V)
      have HMk := Lib.hid (List.getElem_mem hlt)
      have HM1 : Hid (l[k].wv ≤ m.wv → ∀ j (hj : j < l.length), j < k + 1 → l[j].wv ≤ m.wv) := Lib.hid (fun h j hj hjk => by
        by_cases e : j = k
        · subst e; exact h
        · exact HMax.out j hj (by omega))
      have HM2 : Hid (m.wv < l[k].wv → ∀ j (hj : j < l.length), j < k + 1 → l[j].wv ≤ l[k].wv) := Lib.hid (fun h j hj hjk => by
        by_cases e : j = k
        · subst e; exact Int.le_refl _
        · have := HMax.out j hj (by omega); omega)
      have HPos := Lib.hid (cmpI_pos l[k].wv m.wv)
      clear hr
      generalize l[k] = x at *
      obtain ⟨xjob, xocc, xhost, xver, xat_, xun, xwv⟩ := x
      obtain ⟨mjob, mocc, mhost, mver, mat_, mun, mwv⟩ := m
      simp only [rnC] at c0 c1 c2 c3 c4 c5 c6 HC HM1 HM2 HPos HRow cm
      have m0 := cm 0
      have m1 := cm 1
      have m2 := cm 2
      have m3 := cm 3
      have m4 := cm 4
      have m5 := cm 5
      have m6 := cm 6
      simp at m0 m1 m2 m3 m4 m5 m6
      clear cm
      generalize cmpI xwv mwv = cv at *
      go_wp2_with fail
      go_cut [27] from 20 to 31 (fun r V => r = .bool (decide (mwv < xwv)) ∧ Hid (Below wr.heap.size wr V))
      case first =>
        go_region_held3 (fun w' => w'.cell? ⟨b, o + k * 7, none⟩ = some (.string ⟨xjob.toArray⟩) ∧ w'.cell? ⟨b, o + k * 7 + 1, none⟩ = some (.int .i64 xocc) ∧ w'.cell? ⟨b, o + k * 7 + 2, none⟩ = some (.int .i64 xhost) ∧ w'.cell? ⟨b, o + k * 7 + 3, none⟩ = some (.int .i64 xver) ∧ w'.cell? ⟨b, o + k * 7 + 4, none⟩ = some (.int .i64 xat_) ∧ w'.cell? ⟨b, o + k * 7 + 5, none⟩ = some (.int .i64 xun) ∧ w'.cell? ⟨b, o + k * 7 + 6, none⟩ = some (.int .i64 xwv) ∧ w'.cell? ⟨w.heap.size + 1, 0, none⟩ = some (.string ⟨mjob.toArray⟩) ∧ w'.cell? ⟨w.heap.size + 1, 1, none⟩ = some (.int .i64 mocc) ∧ w'.cell? ⟨w.heap.size + 1, 2, none⟩ = some (.int .i64 mhost) ∧ w'.cell? ⟨w.heap.size + 1, 3, none⟩ = some (.int .i64 mver) ∧ w'.cell? ⟨w.heap.size + 1, 4, none⟩ = some (.int .i64 mat_) ∧ w'.cell? ⟨w.heap.size + 1, 5, none⟩ = some (.int .i64 mun) ∧ w'.cell? ⟨w.heap.size + 1, 6, none⟩ = some (.int .i64 mwv)) (((try dsimp only); exact ⟨cell_later (by first | assumption | exact Below.refl _ _ | go_grown) c0, cell_later (by first | assumption | exact Below.refl _ _ | go_grown) c1, cell_later (by first | assumption | exact Below.refl _ _ | go_grown) c2, cell_later (by first | assumption | exact Below.refl _ _ | go_grown) c3, cell_later (by first | assumption | exact Below.refl _ _ | go_grown) c4, cell_later (by first | assumption | exact Below.refl _ _ | go_grown) c5, cell_later (by first | assumption | exact Below.refl _ _ | go_grown) c6, cell_later (by first | assumption | exact Below.refl _ _ | go_grown) m0, cell_later (by first | assumption | exact Below.refl _ _ | go_grown) m1, cell_later (by first | assumption | exact Below.refl _ _ | go_grown) m2, cell_later (by first | assumption | exact Below.refl _ _ | go_grown) m3, cell_later (by first | assumption | exact Below.refl _ _ | go_grown) m4, cell_later (by first | assumption | exact Below.refl _ _ | go_grown) m5, cell_later (by first | assumption | exact Below.refl _ _ | go_grown) m6⟩)) ((first | (go_at_call 91; refine (HC.out _).mono ?_; rintro e w3 ⟨rfl, hb⟩; have hS3 : Below wr.heap.size wr w3 := (show Below wr.heap.size wr _ from (by first | exact Below.refl _ _ | go_grown)).trans (hb.mono (by first | exact Nat.le_refl _ | simp)); clear hb; have hz3 := hS3.size)))
        all_goals
          go_wp2
          go_meet
          exact ⟨by rw [← HPos.out], Lib.hid (by first | exact Below.refl _ _ | go_grown)⟩
      case rest =>
        obtain ⟨rfl, HC2⟩ := hcut
        have HB2 := Lib.hid (HB.out.trans (HC2.out.mono HB.out.size))
        have HRow2 := Lib.hid (row_below HC2.out (heap_lt HRow.out) HRow.out)
        have HZ2 : Hid (∃ z0 : Array Value, wc.heap[w.heap.size]? = some (.cells z0 68 (0, 0)) ∧ z0.size = 7) := Lib.hid (by
          obtain ⟨z0, hz, hs⟩ := HZ.out
          exact ⟨z0, row_below HC2.out (heap_lt hz) hz, hs⟩)
        by_cases hgt : mwv < xwv
        · have HM := Lib.hid (HM2.out hgt)
          have d0 := cell_later HC2.out c0
          have d1 := cell_later HC2.out c1
          have d2 := cell_later HC2.out c2
          have d3 := cell_later HC2.out c3
          have d4 := cell_later HC2.out c4
          have d5 := cell_later HC2.out c5
          have d6 := cell_later HC2.out c6
          clear c0 c1 c2 c3 c4 c5 c6 m0 m1 m2 m3 m4 m5 m6
          go_wp2_with (refine wpList_store_new (o := ⟨none, _, _, _, _, _⟩) (by rfl) 68 (.tmp 5) (.tmp 31) (by rfl) (w.heap.size + 1) #[.string ⟨xjob.toArray⟩, .int .i64 xocc, .int .i64 xhost, .int .i64 xver, .int .i64 xat_, .int .i64 xun, .int .i64 xwv] (by rfl) (by rfl) 68 #[.string ⟨mjob.toArray⟩, .int .i64 mocc, .int .i64 mhost, .int .i64 mver, .int .i64 mat_, .int .i64 mun, .int .i64 mwv] HRow2.out (by kernel_rfl) (by rfl) (by rfl) ?_; intro w5 hz5 hb5 hr5 hk5; have HB5 := Lib.hid (hb5 _ _ HB2.out (by omega)); have HRow5 := Lib.hid hr5; have HK5 := Lib.hid hk5; clear hz5 hb5 hr5 hk5)
          go_roundw
          case rel => exact ⟨k + 1, ⟨xjob, xocc, xhost, xver, xat_, xun, xwv⟩, by omega, by omega, by go_num, HMk, HM, HB5, HRow5, Lib.hid (by obtain ⟨z0, hz, hs⟩ := HZ2.out; exact ⟨z0, by rw [HK5.out _ (by omega)]; exact hz, hs⟩)⟩
          case measure => simp [intOf]; omega
        · have HM := Lib.hid (HM1.out (by omega))
          clear c0 c1 c2 c3 c4 c5 c6 m0 m1 m2 m3 m4 m5 m6
          go_wp2
          go_roundw
          case rel => exact ⟨k + 1, ⟨mjob, mocc, mhost, mver, mat_, mun, mwv⟩, by omega, by omega, by go_num, HMem, HM, HB2, HRow2, HZ2⟩
          case measure => simp [intOf]; omega
    · obtain rfl : k = l.length := by omega
      have HAll : Hid (∀ x ∈ l, x.wv ≤ m.wv) := Lib.hid (fun x hx => by
        obtain ⟨i, hi, rfl⟩ := List.mem_iff_getElem.1 hx
        exact HMax.out i hi hi)
      obtain ⟨z0, hz0, hs0⟩ := HZ.out
      have HZ0 := Lib.hid hz0
      have HS0 := Lib.hid hs0
      have HMP : Hid (∀ V, Below w.heap.size w V → MaxPost l w (.returned (.agg (rnC m).toArray)) V) := Lib.hid (fun V hV => ⟨m, rfl, HMem.out, HAll.out, hV⟩)
      obtain ⟨mjob, mocc, mhost, mver, mat_, mun, mwv⟩ := m
      simp only [rnC] at HRow cm HMP
      have m0 := cm 0
      have m1 := cm 1
      have m2 := cm 2
      have m3 := cm 3
      have m4 := cm 4
      have m5 := cm 5
      have m6 := cm 6
      simp at m0 m1 m2 m3 m4 m5 m6
      clear cm hlt hk hk1 hz0 hs0 HZ
      go_wp2_with (refine wpList_store_new (o := ⟨none, _, _, _, _, _⟩) (by rfl) 68 (.tmp 4) (.tmp 32) (by rfl) w.heap.size #[.string ⟨mjob.toArray⟩, .int .i64 mocc, .int .i64 mhost, .int .i64 mver, .int .i64 mat_, .int .i64 mun, .int .i64 mwv] (by rfl) (by rfl) 68 z0 HZ0.out (by kernel_rfl) (by rw [HS0.out]; rfl) (by rfl) ?_; intro w5 hz5 hb5 hr5 hk5; have HB5 := Lib.hid (hb5 _ _ HB.out (Nat.le_refl _)); have HRow5 := Lib.hid hr5; clear hz5 hb5 hr5 hk5 m0 m1 m2 m3 m4 m5 m6)
      obtain ⟨r5, _⟩ := cells_of_heap HRow5.out
      exact bodyPost_ret (v := .agg #[.string ⟨mjob.toArray⟩, .int .i64 mocc, .int .i64 mhost, .int .i64 mver, .int .i64 mat_, .int .i64 mun, .int .i64 mwv]) (by simp [results, Tryz.results90, go_sem, r5]) rfl (HMP.out _ HB5.out)
end Go.Proofs.YtnikhhbnbeljeaaGreatDoor.PL
