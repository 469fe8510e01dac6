/- The reference of layer 17: Open, halted, Count. -/
import Derived.Test.YtcbnankocjlobaaWavJ
set_option linter.unusedSimpArgs false
set_option linter.unusedVariables false
namespace Go.Proofs.Ytcbnankocjlobaa
open Go.ChangeShapes Go.WideShapes Go.ChangeAt Go.RowKit Go.Base Go.Maps

def shutAt (fai : Int) (l : List Stp) (x : Int) (s : Stp) : Bool := decide (s.wv < x) && shutC fai l s.wv
def haltAt (fai : Int) (l : List Stp) (x : Int) (s : Stp) : Bool := decide (s.wv < x) && haltC fai l s.wv
theorem open_yes {fai : Int} {l : List Stp} {x : Int} (h : ∀ k (hk : k < l.length), shutAt fai l x l[k] = false) : openB fai l x = true := by
  unfold openB
  rw [List.all_eq_true]
  intro s hs
  obtain ⟨i, hi, rfl⟩ := List.mem_iff_getElem.1 hs
  have := h i hi
  unfold shutAt at this
  rw [this]; rfl
theorem open_no {fai : Int} {l : List Stp} {x : Int} {k : Nat} (hk : k < l.length) (h : shutAt fai l x l[k] = true) : openB fai l x = false := by
  unfold openB
  rw [List.all_eq_false]
  refine ⟨l[k], List.getElem_mem hk, ?_⟩
  unfold shutAt at h
  rw [h]; decide
theorem halt_no {fai : Int} {l : List Stp} {x : Int} (h : ∀ k (hk : k < l.length), haltAt fai l x l[k] = false) : haltB fai l x = false := by
  unfold haltB
  rw [List.any_eq_false]
  intro s hs
  obtain ⟨i, hi, rfl⟩ := List.mem_iff_getElem.1 hs
  have := h i hi
  unfold haltAt at this
  rw [this]; decide
theorem halt_yes {fai : Int} {l : List Stp} {x : Int} {k : Nat} (hk : k < l.length) (h : haltAt fai l x l[k] = true) : haltB fai l x = true := by
  unfold haltB
  rw [List.any_eq_true]
  refine ⟨l[k], List.getElem_mem hk, ?_⟩
  unfold haltAt at h
  exact h
set_option maxHeartbeats 4000000 in
theorem refOpen_any (C : Array Value) (fai par : Int) (hJ : JA C fai par) (A : Option Addr) (l : List Stp) (c : Nat) (x : Int) (w : World) (hS : Stps w A l) (hm : l.length ≤ 2199023255552) :
    Calls Try.prog 18 #[.agg C, .slice A l.length c, .int .i64 x] w fun e w' => e = .returned (.bool (openB fai l x)) ∧ Below w.heap.size w w' := by
  have HS := Lib.hid hS
  have hm' : (l.length : Int) ≤ 2199023255552 := by omega
  have HEn := Lib.hid (fun v V (hV : Below w.heap.size w V) => refEnded_any A l c v V (hS.later hV) hm)
  have HBa := Lib.hid (fun v V (hV : Below w.heap.size w V) => refBad_any C fai par hJ A l c v V (hS.later hV) hm)
  have HY := Lib.hid (fun (h : ∀ k (hk : k < l.length), shutAt fai l x l[k] = false) => open_yes h)
  have HN := Lib.hid (fun k (hk : k < l.length) (h : shutAt fai l x l[k] = true) => open_no hk h)
  have hszJ : (Try.prog.info? 27).map (·.size) = some C.size := by rw [hJ.size]; exact szJb
  have HAt : Hid (∀ s, shutAt fai l x s = (decide (s.wv < x) && (!endB l s.wv || badW fai l s.wv))) := Lib.hid (fun s => rfl)
  generalize openB fai l x = R at *
  clear hS hm hJ
  go_enter Try.func18, Try.ntmps18
  go_wp2
  go_loopw [7] (fun iv wr => ∃ k : Nat, k ≤ l.length ∧ iv = .int .i64 (k : Int) ∧ wr.heap[w.heap.size]? = some (.cells C 27 (0, 0)) ∧ Hid (Below w.heap.size w wr) ∧ Hid (∀ j (hj : j < l.length), j < k → shutAt fai l x l[j] = false)) (fun iv _ => l.length - (intOf iv).toNat)
  case atStart => exact ⟨0, Nat.zero_le _, rfl, heap_new _ _, Lib.hid (below_alloc _ _), Lib.hid (fun j hj h => by omega)⟩
  case round =>
    obtain ⟨k, hk, rfl, hrow, HB, HP⟩ := hrel
    by_cases hlt : k < l.length
    · have hlt' : (k : Int) < (l.length : Int) := by omega
      have hk0 : (0 : Int) ≤ (k : Int) := by omega
      obtain ⟨b, o, rfl, hr⟩ := (HS.out.later HB.out) k hlt
      have c6 : wr.cell? ⟨b, o + k * 10 + 6, none⟩ = some (.int .i64 l[k].wv) := hr 6 _ rfl
      have HNk := Lib.hid (HN.out k hlt)
      have HPk : Hid (shutAt fai l x l[k] = false → ∀ j (hj : j < l.length), j < k + 1 → shutAt fai l x l[j] = false) := Lib.hid (fun hh j hj hjk => by
        by_cases e : j = k
        · subst e; exact hh
        · exact HP.out j hj (by omega))
      have HV := Lib.hid (HAt.out l[k])
      clear hr
      generalize l[k] = s at *
      generalize shutAt fai l x s = z at *
      generalize s.wv = v at *
      by_cases hvx : v < x
      · cases hq1 : endB l v
        · obtain rfl : z = true := by rw [HV.out]; rw [decide_eq_true hvx]; simp [hq1]
          have HZ := Lib.hid (HNk.out rfl)
          clear HV HPk HNk
          go_wp2_with (first
            | (go_at_call 30; refine (HEn.out _ _ HB.out).mono ?_; rintro e w1 ⟨rfl, hb⟩; have HB1 := Lib.hid (HB.out.trans (hb.mono HB.out.size)); have hrow1 := (hb.block _ (heap_lt hrow)).trans hrow; rw [hq1]; clear hb)
            | (go_at_call 16; refine (HBa.out _ _ HB1.out).mono ?_; rintro e w2 ⟨rfl, hb⟩; have HB2 := Lib.hid (HB1.out.trans (hb.mono HB1.out.size)); have hrow2 := (hb.block _ (heap_lt hrow1)).trans hrow1; rw [hq2]; clear hb)
            | go_in)
          go_ret
          exact ⟨by rw [HZ.out]; rfl, HB1.out⟩
        · cases hq2 : badW fai l v
          · obtain rfl : z = false := by rw [HV.out]; rw [decide_eq_true hvx]; simp [hq1, hq2]
            have HP2 := Lib.hid (HPk.out rfl)
            clear HV HPk HNk
            go_wp2_with (first
            | (refine wpList_wanted (by kernel_rfl) (fun K hK => ?_); refine wp_load_row 27 (.tmp 3) rfl w.heap.size rfl 27 C (0, 0) _ hrow1 Try.underlying27 rfl hszJ ?_; refine hK _ _ ?_)
            | (go_at_call 30; refine (HEn.out _ _ HB.out).mono ?_; rintro e w1 ⟨rfl, hb⟩; have HB1 := Lib.hid (HB.out.trans (hb.mono HB.out.size)); have hrow1 := (hb.block _ (heap_lt hrow)).trans hrow; rw [hq1]; clear hb)
            | (go_at_call 16; refine (HBa.out _ _ HB1.out).mono ?_; rintro e w2 ⟨rfl, hb⟩; have HB2 := Lib.hid (HB1.out.trans (hb.mono HB1.out.size)); have hrow2 := (hb.block _ (heap_lt hrow1)).trans hrow1; rw [hq2]; clear hb)
            | go_in)
            go_roundw
            case rel => exact ⟨k + 1, by omega, by go_num, hrow2, HB2, HP2⟩
            case measure => simp [intOf]; omega
          · obtain rfl : z = true := by rw [HV.out]; rw [decide_eq_true hvx]; simp [hq1, hq2]
            have HZ := Lib.hid (HNk.out rfl)
            clear HV HPk HNk
            go_wp2_with (first
            | (refine wpList_wanted (by kernel_rfl) (fun K hK => ?_); refine wp_load_row 27 (.tmp 3) rfl w.heap.size rfl 27 C (0, 0) _ hrow1 Try.underlying27 rfl hszJ ?_; refine hK _ _ ?_)
            | (go_at_call 30; refine (HEn.out _ _ HB.out).mono ?_; rintro e w1 ⟨rfl, hb⟩; have HB1 := Lib.hid (HB.out.trans (hb.mono HB.out.size)); have hrow1 := (hb.block _ (heap_lt hrow)).trans hrow; rw [hq1]; clear hb)
            | (go_at_call 16; refine (HBa.out _ _ HB1.out).mono ?_; rintro e w2 ⟨rfl, hb⟩; have HB2 := Lib.hid (HB1.out.trans (hb.mono HB1.out.size)); have hrow2 := (hb.block _ (heap_lt hrow1)).trans hrow1; rw [hq2]; clear hb)
            | go_in)
            go_ret
            exact ⟨by rw [HZ.out]; rfl, HB2.out⟩
      · obtain rfl : z = false := by rw [HV.out, decide_eq_false hvx]; rfl
        have HP2 := Lib.hid (HPk.out rfl)
        clear HV HPk HNk
        go_wp2
        go_roundw
        case rel => exact ⟨k + 1, by omega, by go_num, hrow, HB, HP2⟩
        case measure => simp [intOf]; omega
    · obtain rfl : k = l.length := by omega
      have HV := Lib.hid (HY.out (fun j hj => HP.out j hj hj))
      clear hlt
      go_wp2
      go_ret
      exact ⟨by rw [HV.out]; rfl, HB.out⟩
set_option maxHeartbeats 4000000 in
theorem refHalted_any (C : Array Value) (fai par : Int) (hJ : JA C fai par) (A : Option Addr) (l : List Stp) (c : Nat) (x : Int) (w : World) (hS : Stps w A l) (hm : l.length ≤ 2199023255552) :
    Calls Try.prog 23 #[.agg C, .slice A l.length c, .int .i64 x] w fun e w' => e = .returned (.bool (haltB fai l x)) ∧ Below w.heap.size w w' := by
  have HS := Lib.hid hS
  have hm' : (l.length : Int) ≤ 2199023255552 := by omega
  have HEn := Lib.hid (fun v V (hV : Below w.heap.size w V) => refEnded_any A l c v V (hS.later hV) hm)
  have HBa := Lib.hid (fun v V (hV : Below w.heap.size w V) => refBad_any C fai par hJ A l c v V (hS.later hV) hm)
  have HY := Lib.hid (fun (h : ∀ k (hk : k < l.length), haltAt fai l x l[k] = false) => halt_no h)
  have HN := Lib.hid (fun k (hk : k < l.length) (h : haltAt fai l x l[k] = true) => halt_yes hk h)
  have hszJ : (Try.prog.info? 27).map (·.size) = some C.size := by rw [hJ.size]; exact szJb
  have HAt : Hid (∀ s, haltAt fai l x s = (decide (s.wv < x) && (endB l s.wv && badW fai l s.wv))) := Lib.hid (fun s => rfl)
  generalize haltB fai l x = R at *
  clear hS hm hJ
  go_enter Try.func23, Try.ntmps23
  go_wp2
  go_loopw [7] (fun iv wr => ∃ k : Nat, k ≤ l.length ∧ iv = .int .i64 (k : Int) ∧ wr.heap[w.heap.size]? = some (.cells C 27 (0, 0)) ∧ Hid (Below w.heap.size w wr) ∧ Hid (∀ j (hj : j < l.length), j < k → haltAt fai l x l[j] = false)) (fun iv _ => l.length - (intOf iv).toNat)
  case atStart => exact ⟨0, Nat.zero_le _, rfl, heap_new _ _, Lib.hid (below_alloc _ _), Lib.hid (fun j hj h => by omega)⟩
  case round =>
    obtain ⟨k, hk, rfl, hrow, HB, HP⟩ := hrel
    by_cases hlt : k < l.length
    · have hlt' : (k : Int) < (l.length : Int) := by omega
      have hk0 : (0 : Int) ≤ (k : Int) := by omega
      obtain ⟨b, o, rfl, hr⟩ := (HS.out.later HB.out) k hlt
      have c6 : wr.cell? ⟨b, o + k * 10 + 6, none⟩ = some (.int .i64 l[k].wv) := hr 6 _ rfl
      have HNk := Lib.hid (HN.out k hlt)
      have HPk : Hid (haltAt fai l x l[k] = false → ∀ j (hj : j < l.length), j < k + 1 → haltAt fai l x l[j] = false) := Lib.hid (fun hh j hj hjk => by
        by_cases e : j = k
        · subst e; exact hh
        · exact HP.out j hj (by omega))
      have HV := Lib.hid (HAt.out l[k])
      clear hr
      generalize l[k] = s at *
      generalize haltAt fai l x s = z at *
      generalize s.wv = v at *
      by_cases hvx : v < x
      · cases hq1 : endB l v
        · obtain rfl : z = false := by rw [HV.out]; rw [decide_eq_true hvx]; simp [hq1]
          have HP2 := Lib.hid (HPk.out rfl)
          clear HV HPk HNk
          go_wp2_with (first
            | (go_at_call 30; refine (HEn.out _ _ HB.out).mono ?_; rintro e w1 ⟨rfl, hb⟩; have HB1 := Lib.hid (HB.out.trans (hb.mono HB.out.size)); have hrow1 := (hb.block _ (heap_lt hrow)).trans hrow; rw [hq1]; clear hb)
            | (go_at_call 16; refine (HBa.out _ _ HB1.out).mono ?_; rintro e w2 ⟨rfl, hb⟩; have HB2 := Lib.hid (HB1.out.trans (hb.mono HB1.out.size)); have hrow2 := (hb.block _ (heap_lt hrow1)).trans hrow1; rw [hq2]; clear hb)
            | go_in)
          go_roundw
          case rel => exact ⟨k + 1, by omega, by go_num, hrow1, HB1, HP2⟩
          case measure => simp [intOf]; omega
        · cases hq2 : badW fai l v
          · obtain rfl : z = false := by rw [HV.out]; rw [decide_eq_true hvx]; simp [hq1, hq2]
            have HP2 := Lib.hid (HPk.out rfl)
            clear HV HPk HNk
            go_wp2_with (first
            | (refine wpList_wanted (by kernel_rfl) (fun K hK => ?_); refine wp_load_row 27 (.tmp 3) rfl w.heap.size rfl 27 C (0, 0) _ hrow1 Try.underlying27 rfl hszJ ?_; refine hK _ _ ?_)
            | (go_at_call 30; refine (HEn.out _ _ HB.out).mono ?_; rintro e w1 ⟨rfl, hb⟩; have HB1 := Lib.hid (HB.out.trans (hb.mono HB.out.size)); have hrow1 := (hb.block _ (heap_lt hrow)).trans hrow; rw [hq1]; clear hb)
            | (go_at_call 16; refine (HBa.out _ _ HB1.out).mono ?_; rintro e w2 ⟨rfl, hb⟩; have HB2 := Lib.hid (HB1.out.trans (hb.mono HB1.out.size)); have hrow2 := (hb.block _ (heap_lt hrow1)).trans hrow1; rw [hq2]; clear hb)
            | go_in)
            go_roundw
            case rel => exact ⟨k + 1, by omega, by go_num, hrow2, HB2, HP2⟩
            case measure => simp [intOf]; omega
          · obtain rfl : z = true := by rw [HV.out]; rw [decide_eq_true hvx]; simp [hq1, hq2]
            have HZ := Lib.hid (HNk.out rfl)
            clear HV HPk HNk
            go_wp2_with (first
            | (refine wpList_wanted (by kernel_rfl) (fun K hK => ?_); refine wp_load_row 27 (.tmp 3) rfl w.heap.size rfl 27 C (0, 0) _ hrow1 Try.underlying27 rfl hszJ ?_; refine hK _ _ ?_)
            | (go_at_call 30; refine (HEn.out _ _ HB.out).mono ?_; rintro e w1 ⟨rfl, hb⟩; have HB1 := Lib.hid (HB.out.trans (hb.mono HB.out.size)); have hrow1 := (hb.block _ (heap_lt hrow)).trans hrow; rw [hq1]; clear hb)
            | (go_at_call 16; refine (HBa.out _ _ HB1.out).mono ?_; rintro e w2 ⟨rfl, hb⟩; have HB2 := Lib.hid (HB1.out.trans (hb.mono HB1.out.size)); have hrow2 := (hb.block _ (heap_lt hrow1)).trans hrow1; rw [hq2]; clear hb)
            | go_in)
            go_ret
            exact ⟨by rw [HZ.out]; rfl, HB2.out⟩
      · obtain rfl : z = false := by rw [HV.out, decide_eq_false hvx]; rfl
        have HP2 := Lib.hid (HPk.out rfl)
        clear HV HPk HNk
        go_wp2
        go_roundw
        case rel => exact ⟨k + 1, by omega, by go_num, hrow, HB, HP2⟩
        case measure => simp [intOf]; omega
    · obtain rfl : k = l.length := by omega
      have HV := Lib.hid (HY.out (fun j hj => HP.out j hj hj))
      clear hlt
      go_wp2
      go_ret
      exact ⟨by rw [HV.out]; rfl, HB.out⟩
end Go.Proofs.Ytcbnankocjlobaa
