/- The laws of layer 17: same; WaveAdvises. -/
import Derived.Test.YtcbnankocjlobaaWavO
import Derived.Test.YtcbnankocjlobaaWavP
import Derived.Test.YtcbnankocjlobaaWavS
set_option linter.unusedSimpArgs false
set_option linter.unusedVariables false
namespace Go.Proofs.Ytcbnankocjlobaa
open Go.ChangeShapes Go.WideShapes Go.ChangeAt Go.RowKit Go.Base Go.Maps

set_option maxHeartbeats 4000000 in
set_option maxRecDepth 20000 in
theorem same_adv (As Bs Ak Bk : Option Addr) (cs ds ck dk B1 B2 : Nat) (a : Adv) (w : World) (hA : AdvW w B1 As cs Ak ck a) (hB : AdvW w B2 Bs ds Bk dk a) (h1 : a.start.length ≤ 1000000) (h2 : a.skip.length ≤ 1000000) :
    Calls Try.prog 9 #[.agg #[.slice As a.start.length cs, .slice Ak a.skip.length ck], .agg #[.slice Bs a.start.length ds, .slice Bk a.skip.length dk]] w fun e w' => e = .returned (.bool true) ∧ Below w.heap.size w w' := by
  obtain ⟨W, hW⟩ : ∃ W, W = (w.alloc (.cells #[.slice As a.start.length cs, .slice Ak a.skip.length ck] 34)).alloc (.cells #[.slice Bs a.start.length ds, .slice Bk a.skip.length dk] 34) := ⟨_, rfl⟩
  have hb : Below w.heap.size w W := by rw [hW]; exact (below_alloc w _).alloc (by simp) _
  have q1 : W.heap[w.heap.size]? = some (.cells #[.slice As a.start.length cs, .slice Ak a.skip.length ck] 34 (0, 0)) := by rw [hW]; exact heap_old _ (by simp) (heap_new w _)
  have q2 : W.heap[w.heap.size + 1]? = some (.cells #[.slice Bs a.start.length ds, .slice Bk a.skip.length dk] 34 (0, 0)) := by
    rw [hW]
    have := heap_new (w.alloc (.cells #[.slice As a.start.length cs, .slice Ak a.skip.length ck] 34)) (.cells #[.slice Bs a.start.length ds, .slice Bk a.skip.length dk] 34)
    simpa using this
  have u10 : W.cell? ⟨w.heap.size, 0, none⟩ = some (.slice As a.start.length cs) := (cells_of_heap q1).1 0
  have u11 : W.cell? ⟨w.heap.size, 1, none⟩ = some (.slice Ak a.skip.length ck) := (cells_of_heap q1).1 1
  have u20 : W.cell? ⟨w.heap.size + 1, 0, none⟩ = some (.slice Bs a.start.length ds) := (cells_of_heap q2).1 0
  have u21 : W.cell? ⟨w.heap.size + 1, 1, none⟩ = some (.slice Bk a.skip.length dk) := (cells_of_heap q2).1 1
  have HA := Lib.hid (hA.later hb)
  have HB := Lib.hid (hB.later hb)
  have HW := Lib.hid hb
  obtain ⟨n, hn⟩ : ∃ n, n = a.start.length := ⟨_, rfl⟩
  obtain ⟨m, hm⟩ : ∃ m, m = a.skip.length := ⟨_, rfl⟩
  have HN := Lib.hid hn
  have HMm := Lib.hid hm
  rw [← hn] at u10 u20 h1 ⊢
  rw [← hm] at u11 u21 h2 ⊢
  rw [← hn, ← hm] at hW
  clear q1 q2 hA hB hb hn hm
  go_enter Try.func9, Try.ntmps9
  go_wp2
  rw [← hW]
  clear hW
  go_loopw [5] (fun iv wr => ∃ k q : Nat, k ≤ n ∧ iv = .int .i64 (k : Int) ∧ wr = W.drewN q) (fun iv _ => n - (intOf iv).toNat)
  case atStart => exact ⟨0, 0, Nat.zero_le _, rfl, rfl⟩
  case round =>
    obtain ⟨k, q, hk, rfl, rfl⟩ := hrel
    by_cases hlt : k < n
    · have hlt' : (k : Int) < (n : Int) := by omega
      have hk0 : (0 : Int) ≤ (k : Int) := by omega
      have hka : k < a.start.length := by rw [← HN.out]; exact hlt
      obtain ⟨g, rfl, c1⟩ := HA.out.start_at hka
      obtain ⟨g', rfl, c2⟩ := HB.out.start_at hka
      generalize a.start[k] = x at *
      clear hka
      go_wp2_with fail
      go_quiet (fail)
      go_wp2
      go_roundw
      case rel => exact ⟨k + 1, _, by omega, by go_num, rfl⟩
      case measure => simp [intOf]; omega
    · obtain rfl : k = n := by omega
      clear hlt
      go_wp2
      go_loopw [6] (fun iv wr => ∃ k q : Nat, k ≤ m ∧ iv = .int .i64 (k : Int) ∧ wr = W.drewN q) (fun iv _ => m - (intOf iv).toNat)
      case atStart => exact ⟨0, _, Nat.zero_le _, rfl, rfl⟩
      case round =>
        obtain ⟨k2, q2, hk2, rfl, rfl⟩ := hrel
        by_cases hlt : k2 < m
        · have hlt' : (k2 : Int) < (m : Int) := by omega
          have hk0 : (0 : Int) ≤ (k2 : Int) := by omega
          have hka : k2 < a.skip.length := by rw [← HMm.out]; exact hlt
          obtain ⟨g, rfl, c1, c3⟩ := HA.out.skip_at hka
          obtain ⟨g', rfl, c2, c4⟩ := HB.out.skip_at hka
          generalize a.skip[k2] = x at *
          obtain ⟨x1, x2⟩ := x
          simp only at c1 c2 c3 c4
          clear hka
          go_wp2_with fail
          go_quiet (fail)
          go_wp2
          go_roundw
          case rel => exact ⟨k2 + 1, _, by omega, by go_num, rfl⟩
          case measure => simp [intOf]; omega
        · obtain rfl : k2 = m := by omega
          clear hlt
          go_wp2
          go_ret
          exact ⟨rfl, below_drewN HW.out _⟩
theorem stps_news {w : World} {A : Option Addr} {l : List Stp} (h : Stps w A l) : 0 < l.length → ∃ ad, A = some ad ∧ ∀ j u, (flatS l)[j]? = some u → w.cell? (ad.add j) = some u := fun h0 => by
  obtain ⟨b, o, e, _⟩ := h 0 h0
  refine ⟨⟨b, o, none⟩, e, fun j u hu => ?_⟩
  have hj : j < l.length * 10 := by rw [← flatS_len]; exact (List.getElem?_eq_some_iff.1 hu).1
  have hi : j / 10 < l.length := by omega
  obtain ⟨b', o', e', hr⟩ := h (j / 10) hi
  rw [e] at e'
  injection e' with e'
  injection e' with e1 e2
  subst e1; subst e2
  have hf := flat_at l (j / 10) l[j / 10] (List.getElem?_eq_getElem hi) (j % 10) (by omega)
  rw [show j / 10 * 10 + j % 10 = j by omega, hu] at hf
  have := hr (j % 10) u hf.symm
  rw [Addr.add_mid]
  rw [show o + j / 10 * 10 + j % 10 = o + j by omega] at this
  exact this
theorem flat_one : ∀ (l : List Stp), ∀ u ∈ flatS l, u.oneCell' = true
  | [], u, h => by cases h
  | s :: l, u, h => by
    rcases List.mem_append.1 (show u ∈ stC s ++ flatS l from h) with h | h
    · have := stC_one s
      rw [List.all_eq_true] at this
      exact this u (by simpa using h)
    · exact flat_one l u h
set_option maxHeartbeats 8000000 in
set_option maxRecDepth 20000 in
theorem law_advises (C : Array Value) (fai par : Int) (hJ : JA C fai par) (A : Option Addr) (l : List Stp) (c : Nat) (now : Int) (w : World) (hS : Stps w A l) (hok : ∀ s ∈ l, s.Ok) :
    Calls Try.prog 3 #[.agg C, .slice A l.length c, .int .i64 now] w fun e w' => e = .returned (.bool true) ∧ Below w.heap.size w w' := by
  by_cases h200 : (200 : Int) < (l.length : Int)
  · clear hS hJ
    go_enter Try.func3, Try.ntmps3
    go_wp2_with (first | (go_at_call 8; refine (lives_any _).mono ?_; rintro e w1 ⟨rfl, hb⟩; have HB1 : Hid (Below w.heap.size w w1) := Lib.hid ((below_alloc w _).trans (hb.mono (by simp)))) | go_in)
    go_ret
    exact ⟨rfl, HB1.out⟩
  · have hm : l.length ≤ 200 := by omega
    have hm' : (l.length : Int) ≤ 200 := by omega
    have hw : WvOk l := fun s hs => (hok s hs).2.2.2.1
    obtain ⟨is, hi, hi0, hi1, hi2⟩ := infoS
    have HS := Lib.hid hS
    have HAd : Hid (∀ V Ao co, Stps V Ao l → Calls Try.prog 10 #[.agg C, .slice Ao l.length co, .int .i64 now] V (AdvPost (advR fai par l now) V)) := Lib.hid (fun V Ao co hV => advise_any C fai par hJ Ao l co now V hV (by omega) hw)
    have HRf : Hid (∀ V, Stps V A l → Calls Try.prog 11 #[.agg C, .slice A l.length c, .int .i64 now] V (AdvPost (advR fai par l now) V)) := Lib.hid (fun V hV => refAdvise_any C fai par hJ A l c now V hV (by omega))
    have hszJ : (Try.prog.info? 27).map (·.size) = some C.size := by rw [hJ.size]; exact szJb
    have hszL : (Try.prog.info? 27).map (·.size) = some C.toList.length := by rw [Array.length_toList]; exact hszJ
    have huJ := Try.underlying27
    have hln := adv_len fai par l now (cnt (isS 2) l : Nat) l.length
    have HLn : Hid ((advR fai par l now).start.length ≤ 1000000 ∧ (advR fai par l now).skip.length ≤ 1000000) := Lib.hid (by unfold advR; omega)
    have HRg : Hid (∀ V, Below (w.heap.size + 1) (w.alloc (.cells C 27)) V → V.rangeAt w.heap.size 0 C.toList) := Lib.hid (fun V hV j u hu => by
      rw [Nat.zero_add, cell_of_row V w.heap.size j C _ _ ((hV.block w.heap.size (by omega)).trans (heap_new w _))]
      simpa using hu)
    have HZ : Hid (∀ {n : Nat}, (w.alloc (.cells C 27)).heap.size ≤ n → w.heap.size + 1 ≤ n) := Lib.hid (fun h => by simpa using h)
    have HWb : Hid (∀ V, Below (w.heap.size + 1) (w.alloc (.cells C 27)) V → Below w.heap.size w V) := Lib.hid (fun V hV => (below_alloc w _).trans (hV.mono (by omega)))
    have HE0 := Lib.hid (Below.refl (w.heap.size + 1) (w.alloc (.cells C 27)))
    have hz1 : (w.alloc (.cells C 27)).heap.size = w.heap.size + 1 := by simp
    have HOw : Hid (((w.alloc (.cells C 27)).alloc (.cells #[] 41)).ownsRow (w.heap.size + 1) 41 10 (.slice (some ⟨w.heap.size + 1, 0, none⟩) 0 0) 0 []) := Lib.hid (by
      have h := World.ownsRow_made (w.alloc (.cells C 27)) (e := 41) (size := 10) #[] 0 (Nat.le_refl _) (Nat.zero_le _) rfl
      rw [hz1] at h
      exact h)
    have HNw := Lib.hid (stps_news (hS.later ((below_alloc w (.cells C 27)).alloc (by rw [hz1]; omega) (.cells #[] 41))))
    have HZw : Hid (Below (w.heap.size + 1) (w.alloc (.cells C 27)) ((w.alloc (.cells C 27)).alloc (.cells #[] 41))) := Lib.hid (HE0.out.alloc (by rw [hz1]; exact Nat.le_refl _) _)
    have HZ2 : Hid (w.heap.size + 1 ≤ ((w.alloc (.cells C 27)).alloc (.cells #[] 41)).heap.size) := Lib.hid (by have := HZw.out.size; rw [hz1] at this; exact this)
    generalize advR fai par l now = R at *
    clear hJ hS hok hw hln hz1
    go_enter Try.func3, Try.ntmps3
    go_wp2_with (first
      | (at_builtin; refine wpList_append_k _ rfl (.tmp 13) (.tmp 14) 28 rfl 41 is _ 10 88 Try.underlying28 hi hi0 hi1 hi2 rfl (by decide) (w.heap.size + 1) _ 0 [] rfl HOw.out A l.length c (flatS l) rfl (flatS_len l) HNw.out (flat_one l) (by unfold maxLen; omega) (by omega) HZ2.out ?_; intro A' c' w1 ho1 hg1 hn1; have HO1 := Lib.hid ho1; have HB1 : Hid (Below (w.heap.size + 1) (w.alloc (.cells C 27)) w1) := Lib.hid (HZw.out.grown hg1 HZ2.out (fun j hj => HOw.out.lt j hj |>.1)); clear ho1 hg1 hn1)
      | go_in)
    have hos : Stps w1 A' l := stps_own (by simpa using HO1.out) (by simp)
    have HOs := Lib.hid hos
    clear hos
    try simp only [Nat.zero_add]
    have HB1d : Hid (Below (w.heap.size + 1) (w.alloc (.cells C 27)) w1.drew) := Lib.hid HB1.out.drew
    have HOd : Hid (Below w1.heap.size w1 w1.drew) := Lib.hid (Below.refl _ _).drew
    refine wp_region_held_drew (S := (fun V => V.rangeAt w.heap.size 0 C.toList)) (by kernel_rfl) (HRg.out _ HB1d.out) (fun hHeld => ?_)
    refine wpAnyH_ready (rs := [0]) (by kernel_rfl) (by simp) ?_
    refine AllReadyH.cons rfl (fun K hK => ?_) AllReadyH.nil
    try rw [if_pos (by rfl)]
    go_simp
    go_at_call 8
    refine Calls.mono (lives_any _) ?_
    rintro e w2 ⟨rfl, hb⟩
    have HB2 : Hid (Below (w.heap.size + 1) (w.alloc (.cells C 27)) w2) := Lib.hid (HB1d.out.trans (hb.mono (HZ.out HB1d.out.size)))
    have HG2 : Hid (Below w1.heap.size w1 w2) := Lib.hid (HOd.out.trans (hb.mono HOd.out.size))
    clear hb
    go_wp2_with fail
    refine hK.out _ _ (HRg.out _ HB2.out) (fun hHeld2 => ?_)
    clear hK K hHeld
    have hHeld := hHeld2
    clear hHeld2
    try simp only [Act.put, List.setIfInBounds_toArray, List.set_cons_zero, List.set_cons_succ, List.getElem_toArray, List.getElem_cons_succ, List.getElem_cons_zero]
    refine wpAnyH_take (i := 1) (v := ?vv1) rfl (by kernel_rfl) (by kernel_rfl) (by kernel_rfl) (fun _ _ _ h => h) (Or.inl ⟨by rfl, ?hy1⟩) hHeld ?rr1
    case hy1 => (intro w' hSw; skip; go_simp; try with_reducible rfl)
    try simp only [Act.put, List.setIfInBounds_toArray, List.set_cons_zero, List.set_cons_succ, List.getElem_toArray, List.getElem_cons_succ, List.getElem_cons_zero]
    refine wpAnyH_take (i := 2) (v := ?vv2) rfl (by kernel_rfl) (by kernel_rfl) (by kernel_rfl) (fun _ _ _ h => h) (Or.inl ⟨by rfl, ?hy2⟩) hHeld ?rr2
    case hy2 => (intro w' hSw; skip; go_simp; try with_reducible rfl)
    try simp only [Act.put, List.setIfInBounds_toArray, List.set_cons_zero, List.set_cons_succ, List.getElem_toArray, List.getElem_cons_succ, List.getElem_cons_zero]
    refine wpAnyH_take (i := 3) (v := .agg C) rfl (by kernel_rfl) (by kernel_rfl) (by kernel_rfl) (fun _ _ _ h => h) (yieldsIf_load_mid (by rfl) 27 (.tmp 3) rfl w.heap.size 0 rfl C.toList _ (fun V hV => hV) huJ rfl hszL) hHeld ?rr3
    try simp only [Act.put, List.setIfInBounds_toArray, List.set_cons_zero, List.set_cons_succ, List.getElem_toArray, List.getElem_cons_succ, List.getElem_cons_zero]
    refine wpAnyH_take (i := 4) (v := ?vv4) rfl (by kernel_rfl) (by kernel_rfl) (by kernel_rfl) (fun _ _ _ h => h) (Or.inl ⟨by rfl, ?hy4⟩) hHeld ?rr4
    case hy4 => (intro w' hSw; skip; go_simp; try with_reducible rfl)
    try simp only [Act.put, List.setIfInBounds_toArray, List.set_cons_zero, List.set_cons_succ, List.getElem_toArray, List.getElem_cons_succ, List.getElem_cons_zero]
    refine wpAnyH_take (i := 5) (v := ?vv5) rfl (by kernel_rfl) (by kernel_rfl) (by kernel_rfl) (fun _ _ _ h => h) (Or.inl ⟨by rfl, ?hy5⟩) hHeld ?rr5
    case hy5 => (intro w' hSw; skip; go_simp; try with_reducible rfl)
    try simp only [Act.put, List.setIfInBounds_toArray, List.set_cons_zero, List.set_cons_succ, List.getElem_toArray, List.getElem_cons_succ, List.getElem_cons_zero]
    refine wpAnyH_take (i := 7) (v := .agg C) rfl (by kernel_rfl) (by kernel_rfl) (by kernel_rfl) (fun _ _ _ h => h) (yieldsIf_load_mid (by rfl) 27 (.tmp 3) rfl w.heap.size 0 rfl C.toList _ (fun V hV => hV) huJ rfl hszL) hHeld ?rr6
    try simp only [Act.put, List.setIfInBounds_toArray, List.set_cons_zero, List.set_cons_succ, List.getElem_toArray, List.getElem_cons_succ, List.getElem_cons_zero]
    refine wpAnyH_take (i := 8) (v := ?vv7) rfl (by kernel_rfl) (by kernel_rfl) (by kernel_rfl) (fun _ _ _ h => h) (Or.inl ⟨by rfl, ?hy7⟩) hHeld ?rr7
    case hy7 => (intro w' hSw; skip; go_simp; try with_reducible rfl)
    try simp only [Act.put, List.setIfInBounds_toArray, List.set_cons_zero, List.set_cons_succ, List.getElem_toArray, List.getElem_cons_succ, List.getElem_cons_zero]
    refine wpAnyH_take (i := 9) (v := ?vv8) rfl (by kernel_rfl) (by kernel_rfl) (by kernel_rfl) (fun _ _ _ h => h) (Or.inl ⟨by rfl, ?hy8⟩) hHeld ?rr8
    case hy8 => (intro w' hSw; skip; go_simp; try with_reducible rfl)
    try simp only [Act.put, List.setIfInBounds_toArray, List.set_cons_zero, List.set_cons_succ, List.getElem_toArray, List.getElem_cons_succ, List.getElem_cons_zero]
    refine wpAnyH_ready (rs := [6]) (by kernel_rfl) (by simp) ?_
    refine AllReadyH.cons rfl (fun K hK => ?_) AllReadyH.nil
    try rw [if_pos (by rfl)]
    go_simp
    go_at_call 10
    refine Calls.mono (HAd.out _ _ _ (HOs.out.later HG2.out)) ?_
    rintro e w3 ⟨As, cs, Ak, ck, rfl, ha, hb⟩
    have HB3 : Hid (Below (w.heap.size + 1) (w.alloc (.cells C 27)) w3) := Lib.hid (HB2.out.trans (hb.mono (HZ.out HB2.out.size)))
    have HG3 : Hid (Below w1.heap.size w1 w3) := Lib.hid (HG2.out.trans (hb.mono HG2.out.size))
    have HA3 := Lib.hid ha
    clear hb ha
    go_wp2_with fail
    refine hK.out _ _ (HRg.out _ HB3.out) (fun hHeld2 => ?_)
    clear hK K hHeld
    have hHeld := hHeld2
    clear hHeld2
    try simp only [Act.put, List.setIfInBounds_toArray, List.set_cons_zero, List.set_cons_succ, List.getElem_toArray, List.getElem_cons_succ, List.getElem_cons_zero]
    refine wpAnyH_ready (rs := [10]) (by kernel_rfl) (by simp) ?_
    refine AllReadyH.cons rfl (fun K hK => ?_) AllReadyH.nil
    try rw [if_pos (by rfl)]
    go_simp
    go_at_call 11
    refine Calls.mono (HRf.out _ (HS.out.later (HWb.out _ HB3.out))) ?_
    rintro e w4 ⟨Bs, ds, Bk, dk, rfl, ha, hb⟩
    have HB4 : Hid (Below (w.heap.size + 1) (w.alloc (.cells C 27)) w4) := Lib.hid (HB3.out.trans (hb.mono (HZ.out HB3.out.size)))
    have HG4 : Hid (Below w1.heap.size w1 w4) := Lib.hid (HG3.out.trans (hb.mono HG3.out.size))
    have HA4 := Lib.hid (HA3.out.later hb)
    have HC4 := Lib.hid ha
    clear hb ha
    go_wp2_with fail
    refine hK.out _ _ (HRg.out _ HB4.out) (fun hHeld2 => ?_)
    clear hK K hHeld
    have hHeld := hHeld2
    clear hHeld2
    try simp only [Act.put, List.setIfInBounds_toArray, List.set_cons_zero, List.set_cons_succ, List.getElem_toArray, List.getElem_cons_succ, List.getElem_cons_zero]
    refine wpAnyH_ready (rs := [11]) (by kernel_rfl) (by simp) ?_
    refine AllReadyH.cons rfl (fun K hK => ?_) AllReadyH.nil
    try rw [if_pos (by rfl)]
    go_simp
    go_at_call 9
    refine Calls.mono (same_adv _ _ _ _ _ _ _ _ _ _ _ _ HA4.out HC4.out HLn.out.1 HLn.out.2) ?_
    rintro e w5 ⟨rfl, hb⟩
    have HB5 : Hid (Below (w.heap.size + 1) (w.alloc (.cells C 27)) w5) := Lib.hid (HB4.out.trans (hb.mono (HZ.out HB4.out.size)))
    have HG5 : Hid (Below w1.heap.size w1 w5) := Lib.hid (HG4.out.trans (hb.mono HG4.out.size))
    clear hb
    go_wp2_with fail
    refine hK.out _ _ (HRg.out _ HB5.out) (fun hHeld2 => ?_)
    clear hK K hHeld
    have hHeld := hHeld2
    clear hHeld2
    try simp only [Act.put, List.setIfInBounds_toArray, List.set_cons_zero, List.set_cons_succ, List.getElem_toArray, List.getElem_cons_succ, List.getElem_cons_zero]
    refine wpAnyH_take (i := 12) (v := ?vv9) rfl (by kernel_rfl) (by kernel_rfl) (by kernel_rfl) (fun _ _ _ h => h) (Or.inl ⟨by rfl, ?hy9⟩) hHeld ?rr9
    case hy9 => (intro w' hSw; skip; go_simp; try with_reducible rfl)
    try simp only [Act.put, List.setIfInBounds_toArray, List.set_cons_zero, List.set_cons_succ, List.getElem_toArray, List.getElem_cons_succ, List.getElem_cons_zero]
    refine wpAnyH_take (i := 13) (v := ?vv10) rfl (by kernel_rfl) (by kernel_rfl) (by kernel_rfl) (fun _ _ _ h => h) (Or.inl ⟨by rfl, ?hy10⟩) hHeld ?rr10
    case hy10 => (intro w' hSw; skip; go_simp; try with_reducible rfl)
    try simp only [Act.put, List.setIfInBounds_toArray, List.set_cons_zero, List.set_cons_succ, List.getElem_toArray, List.getElem_cons_succ, List.getElem_cons_zero]
    refine wpAnyH_done (by kernel_rfl) ?_ _
    clear hHeld
    have HS5 : Hid (Stps w5 A l) := Lib.hid (HS.out.later (HWb.out _ HB5.out))
    have HO5 : Hid (Stps w5 A' l) := Lib.hid (HOs.out.later HG5.out)
    have HF : Hid (Below w.heap.size w w5) := Lib.hid (HWb.out _ HB5.out)
    have HA4b := HA4
    clear HA4b HA4 HC4 HA3 HAd HRf HRg HB1 HB1d HOd HB2 HG2 HB3 HG3 HB4 HG4 HB5 HG5 HO1 HOs HS HWb HLn HE0 HOw HNw HZw HZ2 HZ
    go_wp2
    go_loopw [8] (fun iv wr => ∃ k q : Nat, k ≤ l.length ∧ iv = .int .i64 (k : Int) ∧ wr = w5.drewN q) (fun iv _ => l.length - (intOf iv).toNat)
    case atStart => exact ⟨0, 0, Nat.zero_le _, rfl, rfl⟩
    case round =>
      obtain ⟨k, q, hk, rfl, rfl⟩ := hrel
      by_cases hlt : k < l.length
      · have hlt' : (k : Int) < (l.length : Int) := by omega
        have hk0 : (0 : Int) ≤ (k : Int) := by omega
        obtain ⟨b, o, rfl, hr⟩ := HS5.out k hlt
        obtain ⟨b', o', rfl, hr'⟩ := HO5.out k hlt
        obtain ⟨c0, c1, c2, c3, c4, c5, c6, c7, c8, c9⟩ := st_cells hr
        obtain ⟨d0, d1, d2, d3, d4, d5, d6, d7, d8, d9⟩ := st_cells hr'
        clear hr hr'
        generalize l[k] = s at *
        obtain ⟨job, occ, host, ver, at_, un, wv, st, out, rs⟩ := s
        simp only at c0 c1 c2 c3 c4 c5 c6 c7 c8 c9 d0 d1 d2 d3 d4 d5 d6 d7 d8 d9
        go_wp2_with fail
        go_quiet (fail)
        go_wp2
        go_roundw
        case rel => exact ⟨k + 1, _, by omega, by go_num, rfl⟩
        case measure => simp [intOf]; omega
      · obtain rfl : k = l.length := by omega
        clear hlt
        go_wp2
        go_ret
        exact ⟨rfl, below_drewN HF.out _⟩
end Go.Proofs.Ytcbnankocjlobaa
