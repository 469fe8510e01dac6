/- The laws of layer 17: WaveFails, WaveCounts. -/
import Derived.Test.YtcbnankocjlobaaWavM
import Derived.Test.YtcbnankocjlobaaWavL
set_option linter.unusedSimpArgs false
set_option linter.unusedVariables false
namespace Go.Proofs.Ytcbnankocjlobaa
open Go.ChangeShapes Go.WideShapes Go.ChangeAt Go.RowKit Go.Base Go.Maps

def anyF (x : Int) (l : List Stp) : Bool := l.any (andW failB x)
theorem anyF_take (x : Int) (l : List Stp) {k : Nat} (hk : k < l.length) : anyF x (l.take (k + 1)) = (anyF x (l.take k) || andW failB x l[k]) := by
  unfold anyF; rw [List.take_succ_eq_append_getElem hk, List.any_append]; simp
theorem anyF_cnt (x : Int) (l : List Stp) : anyF x l = decide (0 < cnt (andW failB x) l) := by
  unfold anyF cnt
  by_cases h : 0 < l.countP (andW failB x)
  · rw [decide_eq_true h, List.any_eq_true]; exact List.countP_pos_iff.1 h
  · rw [decide_eq_false h, List.any_eq_false]
    intro s hs hp
    exact h (List.countP_pos_iff.2 ⟨s, hs, hp⟩)
theorem bad_hundred (l : List Stp) (x : Int) : badW 100 l x = false := by
  have h := cnt_mono (p := andW failB x) (q := andW ttB x) (fun s h => by simp [andW, ttB] at h ⊢; exact h.2) l
  unfold badW badN
  rw [show clF 100 = 100 by decide]
  exact decide_eq_false (by omega)
theorem bad_zero (l : List Stp) (x : Int) : badW 0 l x = anyF x l := by
  rw [anyF_cnt]
  unfold badW badN
  rw [show clF 0 = 0 by decide, Int.zero_mul]
  exact decide_eq_decide.2 (by omega)
theorem left_two (l : List Stp) : cnt leftB l = cnt (isS 1) l + cnt (isS 2) l := by
  induction l with
  | nil => rfl
  | cons s l ih =>
    have e : ∀ p, cnt p (s :: l) = cnt p l + if p s = true then 1 else 0 := fun p => by unfold cnt; rw [List.countP_cons]
    rw [e, e, e, ih]
    simp only [leftB, isS]
    by_cases h1 : s.st = 1
    · simp [h1]; omega
    · by_cases h2 : s.st = 2
      · simp [h2]; omega
      · simp [h1, h2]
set_option maxHeartbeats 4000000 in
theorem law_fails (A : Option Addr) (l : List Stp) (c : Nat) (x : Int) (w : World) (hS : Stps w A l) (hm : l.length ≤ 2199023255552) :
    Calls Try.prog 7 #[.slice A l.length c, .int .i64 x] w fun e w' => e = .returned (.bool true) ∧ Below w.heap.size w w' := by
  have hm' : (l.length : Int) ≤ 2199023255552 := by omega
  by_cases h200 : (200 : Int) < (l.length : Int)
  · clear hS
    go_enter Try.func7, Try.ntmps7
    go_wp2_with (first | (go_at_call 8; refine (lives_any _).mono ?_; rintro e w1 ⟨rfl, hb⟩) | go_in)
    go_ret
    exact ⟨rfl, hb⟩
  · have HS := Lib.hid hS
    have HB1 : Hid (∀ V, Below w.heap.size w V → Calls Try.prog 15 #[.agg (jobL 100), .slice A l.length c, .int .i64 x] V fun e w' => e = .returned (.bool false) ∧ Below V.heap.size V w') := Lib.hid (fun V hV => (bad_any (jobL 100) 100 0 (ja_L 100 ⟨by decide, by decide⟩) A l c x V (hS.later hV) hm).mono fun e w' h => ⟨by rw [h.1, bad_hundred], h.2⟩)
    have HB0 : Hid (∀ V, Below w.heap.size w V → Calls Try.prog 15 #[.agg (jobL 0), .slice A l.length c, .int .i64 x] V fun e w' => e = .returned (.bool (anyF x (l.take l.length))) ∧ Below V.heap.size V w') := Lib.hid (fun V hV => (bad_any (jobL 0) 0 0 (ja_L 0 ⟨by decide, by decide⟩) A l c x V (hS.later hV) hm).mono fun e w' h => ⟨by rw [h.1, bad_zero, List.take_length], h.2⟩)
    have HT := Lib.hid (fun k (hk : k < l.length) => anyF_take x l hk)
    have tk1 : True := trivial
    clear hS hm
    go_enter Try.func7, Try.ntmps7
    go_wp2
    go_loopw [5, 6] (fun fv iv wr => ∃ k : Nat, k ≤ l.length ∧ fv = .bool (anyF x (l.take k)) ∧ iv = .int .i64 (k : Int) ∧ Hid (Below w.heap.size w wr)) (fun _ iv _ => l.length - (intOf iv).toNat)
    case atStart => exact ⟨0, Nat.zero_le _, rfl, rfl, Lib.hid (Below.refl _ _)⟩
    case round =>
      obtain ⟨k, hk, rfl, rfl, HB⟩ := hrel
      by_cases hlt : k < l.length
      · have hlt' : (k : Int) < (l.length : Int) := by omega
        have hk0 : (0 : Int) ≤ (k : Int) := by omega
        obtain ⟨b, o, rfl, hr⟩ := (HS.out.later HB.out) k hlt
        have c6 : wr.cell? ⟨b, o + k * 10 + 6, none⟩ = some (.int .i64 l[k].wv) := hr 6 _ rfl
        have c7 : wr.cell? ⟨b, o + k * 10 + 7, none⟩ = some (.int .i64 l[k].st) := hr 7 _ rfl
        have c8 : wr.cell? ⟨b, o + k * 10 + 8, none⟩ = some (.int .i64 l[k].out) := hr 8 _ rfl
        have HTk := Lib.hid (HT.out k hlt)
        have HV : Hid (andW failB x l[k] = (((l[k].st == 3) && (l[k].out != 1)) && (l[k].wv == x))) := Lib.hid rfl
        clear hr HB1 HB0
        generalize anyF x (l.take k) = q at *
        generalize l[k] = s at *
        generalize andW failB x s = z at *
        obtain ⟨job, occ, host, ver, at_, un, wv, st, out, rs⟩ := s
        simp only at c6 c7 c8 HV
        cases q
        · cases h1 : (wv == x)
          · have HZ : Hid (anyF x (l.take (k + 1)) = false) := Lib.hid (by rw [HTk.out, HV.out, h1]; simp)
            clear HTk HV
            go_wp2
            go_roundw
            case rel => exact ⟨k + 1, by omega, by rw [HZ.out], by go_num, HB⟩
            case measure => simp [intOf]; omega
          · cases h2 : (st == 3)
            · have HZ : Hid (anyF x (l.take (k + 1)) = false) := Lib.hid (by rw [HTk.out, HV.out, h2]; simp)
              clear HTk HV
              go_wp2
              go_roundw
              case rel => exact ⟨k + 1, by omega, by rw [HZ.out], by go_num, HB⟩
              case measure => simp [intOf]; omega
            · obtain ⟨b3, h3⟩ : ∃ b3, b3 = (out != 1) := ⟨_, rfl⟩
              have HZ : Hid (anyF x (l.take (k + 1)) = b3) := Lib.hid (by rw [HTk.out, HV.out, h1, h2, ← h3]; simp)
              have h3' := h3.symm
              clear HTk HV h3
              go_wp2
              go_roundw
              case rel => exact ⟨k + 1, by omega, by rw [HZ.out], by go_num, HB⟩
              case measure => simp [intOf]; omega
        · have HZ : Hid (anyF x (l.take (k + 1)) = true) := Lib.hid (by rw [HTk.out]; rfl)
          clear HTk HV
          go_wp2
          go_roundw
          case rel => exact ⟨k + 1, by omega, by rw [HZ.out], by go_num, HB⟩
          case measure => simp [intOf]; omega
      · obtain rfl : k = l.length := by omega
        clear hlt
        generalize anyF x (l.take l.length) = q at *
        go_wp2_with (first
          | (go_at_call 8; refine (lives_any _).mono ?_; rintro e w1 ⟨rfl, hb⟩; have HW1 := Lib.hid (HB.out.trans (hb.mono HB.out.size)); clear hb)
          | (go_at_call 15; clear tk1; refine (HB1.out _ HW1.out).mono ?_; rintro e w2 ⟨rfl, hb⟩; have HW2 := Lib.hid (HW1.out.trans (hb.mono HW1.out.size)); clear hb)
          | (go_at_call 15; refine (HB0.out _ HW2.out).mono ?_; rintro e w3 ⟨rfl, hb⟩; have HW3 := Lib.hid (HW2.out.trans (hb.mono HW2.out.size)); clear hb)
          | go_in)
        go_ret
        exact ⟨rfl, HW3.out⟩
set_option maxHeartbeats 8000000 in
set_option maxRecDepth 20000 in
theorem law_counts (C : Array Value) (fai par : Int) (hJ : JA C fai par) (A : Option Addr) (l : List Stp) (c : Nat) (x : Int) (hx : I64 x) (w : World) (hS : Stps w A l) (hm : l.length ≤ 2199023255552) (hw : WvOk l) :
    Calls Try.prog 4 #[.agg C, .slice A l.length c, .int .i64 x] w fun e w' => e = .returned (.bool true) ∧ Below w.heap.size w w' := by
  have HBg : Hid (∀ V, Below w.heap.size w V → Stps V A l) := Lib.hid (fun V hV => hS.later hV)
  have HCo := Lib.hid (fun V (hV : Below w.heap.size w V) => (show Calls Try.prog 12 #[.slice A l.length c] V (fun e w' => e = .returned (.tuple #[.int .i64 (cnt (isS 1) l : Nat), .int .i64 (cnt (isS 2) l : Nat), .int .i64 (cnt goodB l : Nat), .int .i64 (cnt failB l : Nat), .int .i64 (cnt (isS 4) l : Nat)]) ∧ Below V.heap.size V w') from countAll_any A l c V (hS.later hV) hm))
  have HRc := Lib.hid (fun V (hV : Below w.heap.size w V) => (show Calls Try.prog 13 #[.slice A l.length c] V (fun e w' => e = .returned (.tuple #[.int .i64 (cnt (isS 1) l : Nat), .int .i64 (cnt (isS 2) l : Nat), .int .i64 (cnt goodB l : Nat), .int .i64 (cnt failB l : Nat), .int .i64 (cnt (isS 4) l : Nat)]) ∧ Below V.heap.size V w') from refCount_any A l c V (hS.later hV) hm))
  have HOv := Lib.hid (fun V (hV : Below w.heap.size w V) => over_any A l c V (hS.later hV) hm)
  have HBa := Lib.hid (fun V (hV : Below w.heap.size w V) => bad_any C fai par hJ A l c x V (hS.later hV) hm)
  have HRb := Lib.hid (fun V (hV : Below w.heap.size w V) => refBad_any C fai par hJ A l c x V (hS.later hV) hm)
  have HOp := Lib.hid (fun V (hV : Below w.heap.size w V) => open_any C fai par hJ A l c x hx V (hS.later hV) hm hw)
  have HRo := Lib.hid (fun V (hV : Below w.heap.size w V) => refOpen_any C fai par hJ A l c x V (hS.later hV) hm)
  have hszJ : (Try.prog.info? 27).map (·.size) = some C.size := by rw [hJ.size]; exact szJb
  have hszL : (Try.prog.info? 27).map (·.size) = some C.toList.length := by rw [Array.length_toList]; exact hszJ
  have huJ := Try.underlying27
  have hl2 : ((cnt (isS 1) l : Int) + (cnt (isS 2) l : Int) == 0) = overB l := by
    unfold overB; rw [left_two]
    by_cases h : cnt (isS 1) l + cnt (isS 2) l = 0
    · rw [show (cnt (isS 1) l + cnt (isS 2) l == 0) = true by simpa using h]; simp; omega
    · rw [show (cnt (isS 1) l + cnt (isS 2) l == 0) = false by simpa using h]; simp; omega
  have hb1 : (cnt (isS 1) l : Int) ≤ 2199023255552 := by have := cnt_le (isS 1) l; omega
  have hb2 : (cnt (isS 2) l : Int) ≤ 2199023255552 := by have := cnt_le (isS 2) l; omega
  have hz1 : (0 : Int) ≤ (cnt (isS 1) l : Int) := by omega
  have hz2 : (0 : Int) ≤ (cnt (isS 2) l : Int) := by omega
  have HRg : Hid (∀ V, Below (w.heap.size + 1) (w.alloc (.cells C 27)) V → V.rangeAt w.heap.size 0 C.toList) := Lib.hid (fun V hV j u hu => by
    rw [Nat.zero_add, cell_of_row V w.heap.size j C _ _ ((hV.block w.heap.size (by omega)).trans (heap_new w _))]
    simpa using hu)
  have HZ : Hid (∀ {n : Nat}, (w.alloc (.cells C 27)).heap.size ≤ n → w.heap.size + 1 ≤ n) := Lib.hid (fun h => by simpa using h)
  have HWb : Hid (∀ V, Below (w.heap.size + 1) (w.alloc (.cells C 27)) V → Below w.heap.size w V) := Lib.hid (fun V hV => (below_alloc w _).trans (hV.mono (by omega)))
  generalize (cnt (isS 1) l : Int) = m1 at *
  generalize (cnt (isS 2) l : Int) = m2 at *
  generalize (cnt goodB l : Int) = m3 at *
  generalize (cnt failB l : Int) = m4 at *
  generalize (cnt (isS 4) l : Int) = m5 at *
  have hwr : IntKind.i64.wrap (m1 + m2) = m1 + m2 := by rw [IntKind.wrap_i64]; omega
  generalize overB l = q1 at *
  generalize badW fai l x = q2 at *
  generalize openB fai l x = q3 at *
  clear hJ hS hm hw hx
  go_enter Try.func4, Try.ntmps4
  go_wp2_with (first
    | (go_at_call 12; refine (HCo.out _ (below_alloc w _)).mono ?_; rintro e w1 ⟨rfl, hb⟩; have HB1 : Hid (Below (w.heap.size + 1) (w.alloc (.cells C 27)) w1) := Lib.hid (hb.mono (by simp)); clear hb)
    | (go_at_call 13; refine (HRc.out _ (HWb.out _ HB1.out)).mono ?_; rintro e w2 ⟨rfl, hb⟩; have HB2 : Hid (Below (w.heap.size + 1) (w.alloc (.cells C 27)) w2) := Lib.hid (HB1.out.trans (hb.mono (HZ.out HB1.out.size))); clear hb)
    | go_in)
  have HB2d : Hid (Below (w.heap.size + 1) (w.alloc (.cells C 27)) w2.drew) := Lib.hid HB2.out.drew
  refine wp_region_held_drew (S := (fun V => V.rangeAt w.heap.size 0 C.toList)) (by kernel_rfl) (HRg.out _ HB2d.out) (fun hHeld => ?_)
  refine wpAnyH_ready (rs := [0]) (by kernel_rfl) (by simp) ?_
  refine AllReadyH.cons rfl (fun K hK => ?_) AllReadyH.nil
  try rw [if_pos (by rfl)]
  go_simp
  go_at_call 8
  refine Calls.mono (lives_any _) ?_
  rintro e w3 ⟨rfl, hb⟩
  have HB3 : Hid (Below (w.heap.size + 1) (w.alloc (.cells C 27)) w3) := Lib.hid (HB2d.out.trans (hb.mono (HZ.out HB2d.out.size)))
  clear hb
  go_wp2_with fail
  refine hK.out _ _ (HRg.out _ HB3.out) (fun hHeld2 => ?_)
  clear hK K hHeld
  have hHeld := hHeld2
  clear hHeld2
  try simp only [Act.put, List.setIfInBounds_toArray, List.set_cons_zero, List.set_cons_succ, List.getElem_toArray, List.getElem_cons_succ, List.getElem_cons_zero]
  refine wpAnyH_take (i := 1) (v := ?vv1) rfl (by kernel_rfl) (by kernel_rfl) (by kernel_rfl) (fun _ _ _ h => h) (Or.inl ⟨by rfl, ?hy1⟩) hHeld ?rr1
  case hy1 => (intro w' hSw; skip; go_simp; try with_reducible rfl)
  try simp only [Act.put, List.setIfInBounds_toArray, List.set_cons_zero, List.set_cons_succ, List.getElem_toArray, List.getElem_cons_succ, List.getElem_cons_zero]
  refine wpAnyH_take (i := 2) (v := ?vv2) rfl (by kernel_rfl) (by kernel_rfl) (by kernel_rfl) (fun _ _ _ h => h) (Or.inl ⟨by rfl, ?hy2⟩) hHeld ?rr2
  case hy2 => (intro w' hSw; skip; go_simp; try with_reducible rfl)
  try simp only [Act.put, List.setIfInBounds_toArray, List.set_cons_zero, List.set_cons_succ, List.getElem_toArray, List.getElem_cons_succ, List.getElem_cons_zero]
  refine wpAnyH_take (i := 3) (v := ?vv3) rfl (by kernel_rfl) (by kernel_rfl) (by kernel_rfl) (fun _ _ _ h => h) (Or.inl ⟨by rfl, ?hy3⟩) hHeld ?rr3
  case hy3 => (intro w' hSw; skip; go_simp; try with_reducible rfl)
  try simp only [Act.put, List.setIfInBounds_toArray, List.set_cons_zero, List.set_cons_succ, List.getElem_toArray, List.getElem_cons_succ, List.getElem_cons_zero]
  refine wpAnyH_take (i := 4) (v := Value.bool true) rfl (by kernel_rfl) (by kernel_rfl) (by kernel_rfl) (fun _ _ _ h => h) (Or.inl ⟨by rfl, ?hy4⟩) hHeld ?rr4
  case hy4 => (intro w' hSw; skip; go_simp; try with_reducible rfl)
  try simp only [Act.put, List.setIfInBounds_toArray, List.set_cons_zero, List.set_cons_succ, List.getElem_toArray, List.getElem_cons_succ, List.getElem_cons_zero]
  refine wpAnyH_take (i := 5) (v := ?vv5) rfl (by kernel_rfl) (by kernel_rfl) (by kernel_rfl) (fun _ _ _ h => h) (Or.inl ⟨by rfl, ?hy5⟩) hHeld ?rr5
  case hy5 => (intro w' hSw; skip; go_simp; try with_reducible rfl)
  try simp only [Act.put, List.setIfInBounds_toArray, List.set_cons_zero, List.set_cons_succ, List.getElem_toArray, List.getElem_cons_succ, List.getElem_cons_zero]
  refine wpAnyH_take (i := 6) (v := ?vv6) rfl (by kernel_rfl) (by kernel_rfl) (by kernel_rfl) (fun _ _ _ h => h) (Or.inl ⟨by rfl, ?hy6⟩) hHeld ?rr6
  case hy6 => (intro w' hSw; skip; go_simp; try with_reducible rfl)
  try simp only [Act.put, List.setIfInBounds_toArray, List.set_cons_zero, List.set_cons_succ, List.getElem_toArray, List.getElem_cons_succ, List.getElem_cons_zero]
  refine wpAnyH_take (i := 7) (v := ?vv7) rfl (by kernel_rfl) (by kernel_rfl) (by kernel_rfl) (fun _ _ _ h => h) (Or.inl ⟨by rfl, ?hy7⟩) hHeld ?rr7
  case hy7 => (intro w' hSw; skip; go_simp; try with_reducible rfl)
  try simp only [Act.put, List.setIfInBounds_toArray, List.set_cons_zero, List.set_cons_succ, List.getElem_toArray, List.getElem_cons_succ, List.getElem_cons_zero]
  refine wpAnyH_take (i := 8) (v := ?vv8) rfl (by kernel_rfl) (by kernel_rfl) (by kernel_rfl) (fun _ _ _ h => h) (Or.inl ⟨by rfl, ?hy8⟩) hHeld ?rr8
  case hy8 => (intro w' hSw; skip; go_simp; try with_reducible rfl)
  try simp only [Act.put, List.setIfInBounds_toArray, List.set_cons_zero, List.set_cons_succ, List.getElem_toArray, List.getElem_cons_succ, List.getElem_cons_zero]
  refine wpAnyH_take (i := 9) (v := Value.bool true) rfl (by kernel_rfl) (by kernel_rfl) (by kernel_rfl) (fun _ _ _ h => h) (Or.inl ⟨by rfl, ?hy9⟩) hHeld ?rr9
  case hy9 => (intro w' hSw; skip; go_simp; try with_reducible rfl)
  try simp only [Act.put, List.setIfInBounds_toArray, List.set_cons_zero, List.set_cons_succ, List.getElem_toArray, List.getElem_cons_succ, List.getElem_cons_zero]
  refine wpAnyH_take (i := 10) (v := ?vv10) rfl (by kernel_rfl) (by kernel_rfl) (by kernel_rfl) (fun _ _ _ h => h) (Or.inl ⟨by rfl, ?hy10⟩) hHeld ?rr10
  case hy10 => (intro w' hSw; skip; go_simp; try with_reducible rfl)
  try simp only [Act.put, List.setIfInBounds_toArray, List.set_cons_zero, List.set_cons_succ, List.getElem_toArray, List.getElem_cons_succ, List.getElem_cons_zero]
  refine wpAnyH_take (i := 11) (v := ?vv11) rfl (by kernel_rfl) (by kernel_rfl) (by kernel_rfl) (fun _ _ _ h => h) (Or.inl ⟨by rfl, ?hy11⟩) hHeld ?rr11
  case hy11 => (intro w' hSw; skip; go_simp; try with_reducible rfl)
  try simp only [Act.put, List.setIfInBounds_toArray, List.set_cons_zero, List.set_cons_succ, List.getElem_toArray, List.getElem_cons_succ, List.getElem_cons_zero]
  refine wpAnyH_take (i := 12) (v := ?vv12) rfl (by kernel_rfl) (by kernel_rfl) (by kernel_rfl) (fun _ _ _ h => h) (Or.inl ⟨by rfl, ?hy12⟩) hHeld ?rr12
  case hy12 => (intro w' hSw; skip; go_simp; try with_reducible rfl)
  try simp only [Act.put, List.setIfInBounds_toArray, List.set_cons_zero, List.set_cons_succ, List.getElem_toArray, List.getElem_cons_succ, List.getElem_cons_zero]
  refine wpAnyH_take (i := 13) (v := ?vv13) rfl (by kernel_rfl) (by kernel_rfl) (by kernel_rfl) (fun _ _ _ h => h) (Or.inl ⟨by rfl, ?hy13⟩) hHeld ?rr13
  case hy13 => (intro w' hSw; skip; go_simp; try with_reducible rfl)
  try simp only [Act.put, List.setIfInBounds_toArray, List.set_cons_zero, List.set_cons_succ, List.getElem_toArray, List.getElem_cons_succ, List.getElem_cons_zero]
  refine wpAnyH_take (i := 14) (v := Value.bool true) rfl (by kernel_rfl) (by kernel_rfl) (by kernel_rfl) (fun _ _ _ h => h) (Or.inl ⟨by rfl, ?hy14⟩) hHeld ?rr14
  case hy14 => (intro w' hSw; skip; go_simp; try with_reducible rfl)
  try simp only [Act.put, List.setIfInBounds_toArray, List.set_cons_zero, List.set_cons_succ, List.getElem_toArray, List.getElem_cons_succ, List.getElem_cons_zero]
  refine wpAnyH_take (i := 15) (v := ?vv15) rfl (by kernel_rfl) (by kernel_rfl) (by kernel_rfl) (fun _ _ _ h => h) (Or.inl ⟨by rfl, ?hy15⟩) hHeld ?rr15
  case hy15 => (intro w' hSw; skip; go_simp; try with_reducible rfl)
  try simp only [Act.put, List.setIfInBounds_toArray, List.set_cons_zero, List.set_cons_succ, List.getElem_toArray, List.getElem_cons_succ, List.getElem_cons_zero]
  refine wpAnyH_take (i := 16) (v := ?vv16) rfl (by kernel_rfl) (by kernel_rfl) (by kernel_rfl) (fun _ _ _ h => h) (Or.inl ⟨by rfl, ?hy16⟩) hHeld ?rr16
  case hy16 => (intro w' hSw; skip; go_simp; try with_reducible rfl)
  try simp only [Act.put, List.setIfInBounds_toArray, List.set_cons_zero, List.set_cons_succ, List.getElem_toArray, List.getElem_cons_succ, List.getElem_cons_zero]
  refine wpAnyH_take (i := 17) (v := ?vv17) rfl (by kernel_rfl) (by kernel_rfl) (by kernel_rfl) (fun _ _ _ h => h) (Or.inl ⟨by rfl, ?hy17⟩) hHeld ?rr17
  case hy17 => (intro w' hSw; skip; go_simp; try with_reducible rfl)
  try simp only [Act.put, List.setIfInBounds_toArray, List.set_cons_zero, List.set_cons_succ, List.getElem_toArray, List.getElem_cons_succ, List.getElem_cons_zero]
  refine wpAnyH_take (i := 18) (v := ?vv18) rfl (by kernel_rfl) (by kernel_rfl) (by kernel_rfl) (fun _ _ _ h => h) (Or.inl ⟨by rfl, ?hy18⟩) hHeld ?rr18
  case hy18 => (intro w' hSw; skip; go_simp; try with_reducible rfl)
  try simp only [Act.put, List.setIfInBounds_toArray, List.set_cons_zero, List.set_cons_succ, List.getElem_toArray, List.getElem_cons_succ, List.getElem_cons_zero]
  refine wpAnyH_take (i := 19) (v := Value.bool true) rfl (by kernel_rfl) (by kernel_rfl) (by kernel_rfl) (fun _ _ _ h => h) (Or.inl ⟨by rfl, ?hy19⟩) hHeld ?rr19
  case hy19 => (intro w' hSw; skip; go_simp; try with_reducible rfl)
  try simp only [Act.put, List.setIfInBounds_toArray, List.set_cons_zero, List.set_cons_succ, List.getElem_toArray, List.getElem_cons_succ, List.getElem_cons_zero]
  refine wpAnyH_take (i := 20) (v := ?vv20) rfl (by kernel_rfl) (by kernel_rfl) (by kernel_rfl) (fun _ _ _ h => h) (Or.inl ⟨by rfl, ?hy20⟩) hHeld ?rr20
  case hy20 => (intro w' hSw; skip; go_simp; try with_reducible rfl)
  try simp only [Act.put, List.setIfInBounds_toArray, List.set_cons_zero, List.set_cons_succ, List.getElem_toArray, List.getElem_cons_succ, List.getElem_cons_zero]
  refine wpAnyH_take (i := 21) (v := ?vv21) rfl (by kernel_rfl) (by kernel_rfl) (by kernel_rfl) (fun _ _ _ h => h) (Or.inl ⟨by rfl, ?hy21⟩) hHeld ?rr21
  case hy21 => (intro w' hSw; skip; go_simp; try with_reducible rfl)
  try simp only [Act.put, List.setIfInBounds_toArray, List.set_cons_zero, List.set_cons_succ, List.getElem_toArray, List.getElem_cons_succ, List.getElem_cons_zero]
  refine wpAnyH_take (i := 22) (v := ?vv22) rfl (by kernel_rfl) (by kernel_rfl) (by kernel_rfl) (fun _ _ _ h => h) (Or.inl ⟨by rfl, ?hy22⟩) hHeld ?rr22
  case hy22 => (intro w' hSw; skip; go_simp; try with_reducible rfl)
  try simp only [Act.put, List.setIfInBounds_toArray, List.set_cons_zero, List.set_cons_succ, List.getElem_toArray, List.getElem_cons_succ, List.getElem_cons_zero]
  refine wpAnyH_take (i := 23) (v := ?vv23) rfl (by kernel_rfl) (by kernel_rfl) (by kernel_rfl) (fun _ _ _ h => h) (Or.inl ⟨by rfl, ?hy23⟩) hHeld ?rr23
  case hy23 => (intro w' hSw; skip; go_simp; try with_reducible rfl)
  try simp only [Act.put, List.setIfInBounds_toArray, List.set_cons_zero, List.set_cons_succ, List.getElem_toArray, List.getElem_cons_succ, List.getElem_cons_zero]
  refine wpAnyH_take (i := 24) (v := Value.bool true) rfl (by kernel_rfl) (by kernel_rfl) (by kernel_rfl) (fun _ _ _ h => h) (Or.inl ⟨by rfl, ?hy24⟩) hHeld ?rr24
  case hy24 => (intro w' hSw; skip; go_simp; try with_reducible rfl)
  try simp only [Act.put, List.setIfInBounds_toArray, List.set_cons_zero, List.set_cons_succ, List.getElem_toArray, List.getElem_cons_succ, List.getElem_cons_zero]
  refine wpAnyH_take (i := 25) (v := ?vv25) rfl (by kernel_rfl) (by kernel_rfl) (by kernel_rfl) (fun _ _ _ h => h) (Or.inl ⟨by rfl, ?hy25⟩) hHeld ?rr25
  case hy25 => (intro w' hSw; skip; go_simp; try with_reducible rfl)
  try simp only [Act.put, List.setIfInBounds_toArray, List.set_cons_zero, List.set_cons_succ, List.getElem_toArray, List.getElem_cons_succ, List.getElem_cons_zero]
  refine wpAnyH_take (i := 26) (v := ?vv26) rfl (by kernel_rfl) (by kernel_rfl) (by kernel_rfl) (fun _ _ _ h => h) (Or.inl ⟨by rfl, ?hy26⟩) hHeld ?rr26
  case hy26 => (intro w' hSw; skip; go_simp; try with_reducible rfl)
  try simp only [Act.put, List.setIfInBounds_toArray, List.set_cons_zero, List.set_cons_succ, List.getElem_toArray, List.getElem_cons_succ, List.getElem_cons_zero]
  refine wpAnyH_take (i := 27) (v := ?vv27) rfl (by kernel_rfl) (by kernel_rfl) (by kernel_rfl) (fun _ _ _ h => h) (Or.inl ⟨by rfl, ?hy27⟩) hHeld ?rr27
  case hy27 => (intro w' hSw; skip; go_simp; try with_reducible rfl)
  try simp only [Act.put, List.setIfInBounds_toArray, List.set_cons_zero, List.set_cons_succ, List.getElem_toArray, List.getElem_cons_succ, List.getElem_cons_zero]
  refine wpAnyH_take (i := 29) (v := ?vv28) rfl (by kernel_rfl) (by kernel_rfl) (by kernel_rfl) (fun _ _ _ h => h) (Or.inl ⟨by rfl, ?hy28⟩) hHeld ?rr28
  case hy28 => (intro w' hSw; skip; go_simp; try with_reducible rfl)
  try simp only [Act.put, List.setIfInBounds_toArray, List.set_cons_zero, List.set_cons_succ, List.getElem_toArray, List.getElem_cons_succ, List.getElem_cons_zero]
  refine wpAnyH_take (i := 30) (v := ?vv29) rfl (by kernel_rfl) (by kernel_rfl) (by kernel_rfl) (fun _ _ _ h => h) (Or.inl ⟨by rfl, ?hy29⟩) hHeld ?rr29
  case hy29 => (intro w' hSw; skip; go_simp; try with_reducible rfl)
  try simp only [Act.put, List.setIfInBounds_toArray, List.set_cons_zero, List.set_cons_succ, List.getElem_toArray, List.getElem_cons_succ, List.getElem_cons_zero]
  refine wpAnyH_take (i := 31) (v := Value.int .i64 (m1 + m2)) rfl (by kernel_rfl) (by kernel_rfl) (by kernel_rfl) (fun _ _ _ h => h) (Or.inl ⟨by rfl, ?hy30⟩) hHeld ?rr30
  case hy30 => (intro w' hSw; skip; go_simp; try with_reducible rfl)
  try simp only [Act.put, List.setIfInBounds_toArray, List.set_cons_zero, List.set_cons_succ, List.getElem_toArray, List.getElem_cons_succ, List.getElem_cons_zero]
  refine wpAnyH_take (i := 32) (v := Value.bool q1) rfl (by kernel_rfl) (by kernel_rfl) (by kernel_rfl) (fun _ _ _ h => h) (Or.inl ⟨by rfl, ?hy31⟩) hHeld ?rr31
  case hy31 => (intro w' hSw; skip; go_simp; try with_reducible rfl)
  try simp only [Act.put, List.setIfInBounds_toArray, List.set_cons_zero, List.set_cons_succ, List.getElem_toArray, List.getElem_cons_succ, List.getElem_cons_zero]
  refine wpAnyH_ready (rs := [28]) (by kernel_rfl) (by simp) ?_
  refine AllReadyH.cons rfl (fun K hK => ?_) AllReadyH.nil
  try rw [if_pos (by rfl)]
  go_simp
  go_at_call 14
  refine Calls.mono (by with_reducible exact HOv.out _ (HWb.out _ HB3.out)) ?_
  rintro e w4 ⟨rfl, hb⟩
  have HB4 : Hid (Below (w.heap.size + 1) (w.alloc (.cells C 27)) w4) := Lib.hid (HB3.out.trans (hb.mono (HZ.out HB3.out.size)))
  clear hb
  go_wp2_with fail
  refine hK.out _ _ (HRg.out _ HB4.out) (fun hHeld2 => ?_)
  clear hK K hHeld
  have hHeld := hHeld2
  clear hHeld2
  try simp only [Act.put, List.setIfInBounds_toArray, List.set_cons_zero, List.set_cons_succ, List.getElem_toArray, List.getElem_cons_succ, List.getElem_cons_zero]
  refine wpAnyH_take (i := 33) (v := Value.bool true) rfl (by kernel_rfl) (by kernel_rfl) (by kernel_rfl) (fun _ _ _ h => h) (Or.inl ⟨by rfl, ?hy32⟩) hHeld ?rr32
  case hy32 => (intro w' hSw; skip; go_simp; try with_reducible rfl)
  try simp only [Act.put, List.setIfInBounds_toArray, List.set_cons_zero, List.set_cons_succ, List.getElem_toArray, List.getElem_cons_succ, List.getElem_cons_zero]
  refine wpAnyH_take (i := 34) (v := ?vv33) rfl (by kernel_rfl) (by kernel_rfl) (by kernel_rfl) (fun _ _ _ h => h) (Or.inl ⟨by rfl, ?hy33⟩) hHeld ?rr33
  case hy33 => (intro w' hSw; skip; go_simp; try with_reducible rfl)
  try simp only [Act.put, List.setIfInBounds_toArray, List.set_cons_zero, List.set_cons_succ, List.getElem_toArray, List.getElem_cons_succ, List.getElem_cons_zero]
  refine wpAnyH_take (i := 35) (v := ?vv34) rfl (by kernel_rfl) (by kernel_rfl) (by kernel_rfl) (fun _ _ _ h => h) (Or.inl ⟨by rfl, ?hy34⟩) hHeld ?rr34
  case hy34 => (intro w' hSw; skip; go_simp; try with_reducible rfl)
  try simp only [Act.put, List.setIfInBounds_toArray, List.set_cons_zero, List.set_cons_succ, List.getElem_toArray, List.getElem_cons_succ, List.getElem_cons_zero]
  refine wpAnyH_take (i := 36) (v := .agg C) rfl (by kernel_rfl) (by kernel_rfl) (by kernel_rfl) (fun _ _ _ h => h) (yieldsIf_load_mid (by rfl) 27 (.tmp 3) rfl w.heap.size 0 rfl C.toList _ (fun V hV => hV) huJ rfl hszL) hHeld ?rr35
  try simp only [Act.put, List.setIfInBounds_toArray, List.set_cons_zero, List.set_cons_succ, List.getElem_toArray, List.getElem_cons_succ, List.getElem_cons_zero]
  refine wpAnyH_take (i := 37) (v := ?vv36) rfl (by kernel_rfl) (by kernel_rfl) (by kernel_rfl) (fun _ _ _ h => h) (Or.inl ⟨by rfl, ?hy36⟩) hHeld ?rr36
  case hy36 => (intro w' hSw; skip; go_simp; try with_reducible rfl)
  try simp only [Act.put, List.setIfInBounds_toArray, List.set_cons_zero, List.set_cons_succ, List.getElem_toArray, List.getElem_cons_succ, List.getElem_cons_zero]
  refine wpAnyH_take (i := 38) (v := ?vv37) rfl (by kernel_rfl) (by kernel_rfl) (by kernel_rfl) (fun _ _ _ h => h) (Or.inl ⟨by rfl, ?hy37⟩) hHeld ?rr37
  case hy37 => (intro w' hSw; skip; go_simp; try with_reducible rfl)
  try simp only [Act.put, List.setIfInBounds_toArray, List.set_cons_zero, List.set_cons_succ, List.getElem_toArray, List.getElem_cons_succ, List.getElem_cons_zero]
  refine wpAnyH_take (i := 40) (v := .agg C) rfl (by kernel_rfl) (by kernel_rfl) (by kernel_rfl) (fun _ _ _ h => h) (yieldsIf_load_mid (by rfl) 27 (.tmp 3) rfl w.heap.size 0 rfl C.toList _ (fun V hV => hV) huJ rfl hszL) hHeld ?rr38
  try simp only [Act.put, List.setIfInBounds_toArray, List.set_cons_zero, List.set_cons_succ, List.getElem_toArray, List.getElem_cons_succ, List.getElem_cons_zero]
  refine wpAnyH_take (i := 41) (v := ?vv39) rfl (by kernel_rfl) (by kernel_rfl) (by kernel_rfl) (fun _ _ _ h => h) (Or.inl ⟨by rfl, ?hy39⟩) hHeld ?rr39
  case hy39 => (intro w' hSw; skip; go_simp; try with_reducible rfl)
  try simp only [Act.put, List.setIfInBounds_toArray, List.set_cons_zero, List.set_cons_succ, List.getElem_toArray, List.getElem_cons_succ, List.getElem_cons_zero]
  refine wpAnyH_take (i := 42) (v := ?vv40) rfl (by kernel_rfl) (by kernel_rfl) (by kernel_rfl) (fun _ _ _ h => h) (Or.inl ⟨by rfl, ?hy40⟩) hHeld ?rr40
  case hy40 => (intro w' hSw; skip; go_simp; try with_reducible rfl)
  try simp only [Act.put, List.setIfInBounds_toArray, List.set_cons_zero, List.set_cons_succ, List.getElem_toArray, List.getElem_cons_succ, List.getElem_cons_zero]
  refine wpAnyH_ready (rs := [39]) (by kernel_rfl) (by simp) ?_
  refine AllReadyH.cons rfl (fun K hK => ?_) AllReadyH.nil
  try rw [if_pos (by rfl)]
  go_simp
  go_at_call 15
  refine Calls.mono (by with_reducible exact HBa.out _ (HWb.out _ HB4.out)) ?_
  rintro e w5 ⟨rfl, hb⟩
  have HB5 : Hid (Below (w.heap.size + 1) (w.alloc (.cells C 27)) w5) := Lib.hid (HB4.out.trans (hb.mono (HZ.out HB4.out.size)))
  clear hb
  go_wp2_with fail
  refine hK.out _ _ (HRg.out _ HB5.out) (fun hHeld2 => ?_)
  clear hK K hHeld
  have hHeld := hHeld2
  clear hHeld2
  try simp only [Act.put, List.setIfInBounds_toArray, List.set_cons_zero, List.set_cons_succ, List.getElem_toArray, List.getElem_cons_succ, List.getElem_cons_zero]
  refine wpAnyH_ready (rs := [43]) (by kernel_rfl) (by simp) ?_
  refine AllReadyH.cons rfl (fun K hK => ?_) AllReadyH.nil
  try rw [if_pos (by rfl)]
  go_simp
  go_at_call 16
  refine Calls.mono (by with_reducible exact HRb.out _ (HWb.out _ HB5.out)) ?_
  rintro e w6 ⟨rfl, hb⟩
  have HB6 : Hid (Below (w.heap.size + 1) (w.alloc (.cells C 27)) w6) := Lib.hid (HB5.out.trans (hb.mono (HZ.out HB5.out.size)))
  clear hb
  go_wp2_with fail
  refine hK.out _ _ (HRg.out _ HB6.out) (fun hHeld2 => ?_)
  clear hK K hHeld
  have hHeld := hHeld2
  clear hHeld2
  try simp only [Act.put, List.setIfInBounds_toArray, List.set_cons_zero, List.set_cons_succ, List.getElem_toArray, List.getElem_cons_succ, List.getElem_cons_zero]
  refine wpAnyH_take (i := 44) (v := Value.bool true) rfl (by kernel_rfl) (by kernel_rfl) (by kernel_rfl) (fun _ _ _ h => h) (Or.inl ⟨by rfl, ?hy41⟩) hHeld ?rr41
  case hy41 => (intro w' hSw; skip; go_simp; try with_reducible rfl)
  try simp only [Act.put, List.setIfInBounds_toArray, List.set_cons_zero, List.set_cons_succ, List.getElem_toArray, List.getElem_cons_succ, List.getElem_cons_zero]
  refine wpAnyH_take (i := 45) (v := ?vv42) rfl (by kernel_rfl) (by kernel_rfl) (by kernel_rfl) (fun _ _ _ h => h) (Or.inl ⟨by rfl, ?hy42⟩) hHeld ?rr42
  case hy42 => (intro w' hSw; skip; go_simp; try with_reducible rfl)
  try simp only [Act.put, List.setIfInBounds_toArray, List.set_cons_zero, List.set_cons_succ, List.getElem_toArray, List.getElem_cons_succ, List.getElem_cons_zero]
  refine wpAnyH_take (i := 46) (v := ?vv43) rfl (by kernel_rfl) (by kernel_rfl) (by kernel_rfl) (fun _ _ _ h => h) (Or.inl ⟨by rfl, ?hy43⟩) hHeld ?rr43
  case hy43 => (intro w' hSw; skip; go_simp; try with_reducible rfl)
  try simp only [Act.put, List.setIfInBounds_toArray, List.set_cons_zero, List.set_cons_succ, List.getElem_toArray, List.getElem_cons_succ, List.getElem_cons_zero]
  refine wpAnyH_take (i := 47) (v := .agg C) rfl (by kernel_rfl) (by kernel_rfl) (by kernel_rfl) (fun _ _ _ h => h) (yieldsIf_load_mid (by rfl) 27 (.tmp 3) rfl w.heap.size 0 rfl C.toList _ (fun V hV => hV) huJ rfl hszL) hHeld ?rr44
  try simp only [Act.put, List.setIfInBounds_toArray, List.set_cons_zero, List.set_cons_succ, List.getElem_toArray, List.getElem_cons_succ, List.getElem_cons_zero]
  refine wpAnyH_take (i := 48) (v := ?vv45) rfl (by kernel_rfl) (by kernel_rfl) (by kernel_rfl) (fun _ _ _ h => h) (Or.inl ⟨by rfl, ?hy45⟩) hHeld ?rr45
  case hy45 => (intro w' hSw; skip; go_simp; try with_reducible rfl)
  try simp only [Act.put, List.setIfInBounds_toArray, List.set_cons_zero, List.set_cons_succ, List.getElem_toArray, List.getElem_cons_succ, List.getElem_cons_zero]
  refine wpAnyH_take (i := 49) (v := ?vv46) rfl (by kernel_rfl) (by kernel_rfl) (by kernel_rfl) (fun _ _ _ h => h) (Or.inl ⟨by rfl, ?hy46⟩) hHeld ?rr46
  case hy46 => (intro w' hSw; skip; go_simp; try with_reducible rfl)
  try simp only [Act.put, List.setIfInBounds_toArray, List.set_cons_zero, List.set_cons_succ, List.getElem_toArray, List.getElem_cons_succ, List.getElem_cons_zero]
  refine wpAnyH_take (i := 51) (v := .agg C) rfl (by kernel_rfl) (by kernel_rfl) (by kernel_rfl) (fun _ _ _ h => h) (yieldsIf_load_mid (by rfl) 27 (.tmp 3) rfl w.heap.size 0 rfl C.toList _ (fun V hV => hV) huJ rfl hszL) hHeld ?rr47
  try simp only [Act.put, List.setIfInBounds_toArray, List.set_cons_zero, List.set_cons_succ, List.getElem_toArray, List.getElem_cons_succ, List.getElem_cons_zero]
  refine wpAnyH_take (i := 52) (v := ?vv48) rfl (by kernel_rfl) (by kernel_rfl) (by kernel_rfl) (fun _ _ _ h => h) (Or.inl ⟨by rfl, ?hy48⟩) hHeld ?rr48
  case hy48 => (intro w' hSw; skip; go_simp; try with_reducible rfl)
  try simp only [Act.put, List.setIfInBounds_toArray, List.set_cons_zero, List.set_cons_succ, List.getElem_toArray, List.getElem_cons_succ, List.getElem_cons_zero]
  refine wpAnyH_take (i := 53) (v := ?vv49) rfl (by kernel_rfl) (by kernel_rfl) (by kernel_rfl) (fun _ _ _ h => h) (Or.inl ⟨by rfl, ?hy49⟩) hHeld ?rr49
  case hy49 => (intro w' hSw; skip; go_simp; try with_reducible rfl)
  try simp only [Act.put, List.setIfInBounds_toArray, List.set_cons_zero, List.set_cons_succ, List.getElem_toArray, List.getElem_cons_succ, List.getElem_cons_zero]
  refine wpAnyH_ready (rs := [50]) (by kernel_rfl) (by simp) ?_
  refine AllReadyH.cons rfl (fun K hK => ?_) AllReadyH.nil
  try rw [if_pos (by rfl)]
  go_simp
  go_at_call 17
  refine Calls.mono (by with_reducible exact HOp.out _ (HWb.out _ HB6.out)) ?_
  rintro e w7 ⟨rfl, hb⟩
  have HB7 : Hid (Below (w.heap.size + 1) (w.alloc (.cells C 27)) w7) := Lib.hid (HB6.out.trans (hb.mono (HZ.out HB6.out.size)))
  clear hb
  go_wp2_with fail
  refine hK.out _ _ (HRg.out _ HB7.out) (fun hHeld2 => ?_)
  clear hK K hHeld
  have hHeld := hHeld2
  clear hHeld2
  try simp only [Act.put, List.setIfInBounds_toArray, List.set_cons_zero, List.set_cons_succ, List.getElem_toArray, List.getElem_cons_succ, List.getElem_cons_zero]
  refine wpAnyH_ready (rs := [54]) (by kernel_rfl) (by simp) ?_
  refine AllReadyH.cons rfl (fun K hK => ?_) AllReadyH.nil
  try rw [if_pos (by rfl)]
  go_simp
  go_at_call 18
  refine Calls.mono (by with_reducible exact HRo.out _ (HWb.out _ HB7.out)) ?_
  rintro e w8 ⟨rfl, hb⟩
  have HB8 : Hid (Below (w.heap.size + 1) (w.alloc (.cells C 27)) w8) := Lib.hid (HB7.out.trans (hb.mono (HZ.out HB7.out.size)))
  clear hb
  go_wp2_with fail
  refine hK.out _ _ (HRg.out _ HB8.out) (fun hHeld2 => ?_)
  clear hK K hHeld
  have hHeld := hHeld2
  clear hHeld2
  try simp only [Act.put, List.setIfInBounds_toArray, List.set_cons_zero, List.set_cons_succ, List.getElem_toArray, List.getElem_cons_succ, List.getElem_cons_zero]
  refine wpAnyH_take (i := 55) (v := Value.bool true) rfl (by kernel_rfl) (by kernel_rfl) (by kernel_rfl) (fun _ _ _ h => h) (Or.inl ⟨by rfl, ?hy50⟩) hHeld ?rr50
  case hy50 => (intro w' hSw; skip; go_simp; try with_reducible rfl)
  try simp only [Act.put, List.setIfInBounds_toArray, List.set_cons_zero, List.set_cons_succ, List.getElem_toArray, List.getElem_cons_succ, List.getElem_cons_zero]
  refine wpAnyH_take (i := 56) (v := ?vv51) rfl (by kernel_rfl) (by kernel_rfl) (by kernel_rfl) (fun _ _ _ h => h) (Or.inl ⟨by rfl, ?hy51⟩) hHeld ?rr51
  case hy51 => (intro w' hSw; skip; go_simp; try with_reducible rfl)
  try simp only [Act.put, List.setIfInBounds_toArray, List.set_cons_zero, List.set_cons_succ, List.getElem_toArray, List.getElem_cons_succ, List.getElem_cons_zero]
  refine wpAnyH_take (i := 57) (v := ?vv52) rfl (by kernel_rfl) (by kernel_rfl) (by kernel_rfl) (fun _ _ _ h => h) (Or.inl ⟨by rfl, ?hy52⟩) hHeld ?rr52
  case hy52 => (intro w' hSw; skip; go_simp; try with_reducible rfl)
  try simp only [Act.put, List.setIfInBounds_toArray, List.set_cons_zero, List.set_cons_succ, List.getElem_toArray, List.getElem_cons_succ, List.getElem_cons_zero]
  refine wpAnyH_done (by kernel_rfl) ?_ _
  clear hHeld
  go_wp2
  go_ret
  exact ⟨rfl, HWb.out _ HB8.out⟩
end Go.Proofs.Ytcbnankocjlobaa
