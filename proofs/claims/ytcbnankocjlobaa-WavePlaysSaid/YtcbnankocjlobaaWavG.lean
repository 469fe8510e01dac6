/- Package wave: Over, Open, Count, Bad. -/
import Derived.Test.YtcbnankocjlobaaWavF
set_option linter.unusedSimpArgs false
set_option linter.unusedVariables false
namespace Go.Proofs.Ytcbnankocjlobaa
open Go.ChangeShapes Go.WideShapes Go.ChangeAt Go.RowKit Go.Base Go.Maps

theorem fns_two (w : World) (f g : Fnv) (t : TypeId) (hf : f.In w) (hg : g.In w) : Fns (w.alloc (.cells #[f.val, g.val] t)) (some ⟨w.heap.size, 0, none⟩) [f, g] := fun i hi => by
  match i, hi with
  | 0, _ => exact ⟨w.heap.size, 0, rfl, by rw [Nat.zero_add, cell_new]; rfl, hf.later (below_alloc w _)⟩
  | 1, _ => exact ⟨w.heap.size, 0, rfl, by rw [Nat.zero_add, cell_new]; rfl, hg.later (below_alloc w _)⟩
def openB (fai : Int) (l : List Stp) (x : Int) : Bool := l.all (fun s => !(decide (s.wv < x) && shutC fai l s.wv))
def haltB (fai : Int) (l : List Stp) (x : Int) : Bool := l.any (fun s => decide (s.wv < x) && haltC fai l s.wv)
theorem open_of {fai : Int} {l : List Stp} {z x : Int} (h : Least (shutC fai l) (ThereW l) z) (hx : I64 x) : decide (x ≤ z) = openB fai l x := by
  unfold openB
  by_cases hz : x ≤ z
  · rw [decide_eq_true hz]
    symm
    rw [List.all_eq_true]
    intro s hs
    cases hc : shutC fai l s.wv
    · simp
    · have := h.least s.wv ⟨s, hs, rfl⟩ hc
      simp; omega
  · rw [decide_eq_false hz]
    symm
    rw [List.all_eq_false]
    rcases h.is with rfl | ⟨⟨s, hs, e⟩, hp⟩
    · exact absurd hx.2 hz
    · refine ⟨s, hs, ?_⟩
      rw [e, hp]
      simp; omega
theorem halt_of {fai : Int} {l : List Stp} {z x : Int} (h : Least (haltC fai l) (ThereW l) z) (hx : I64 x) : decide (z < x) = haltB fai l x := by
  unfold haltB
  by_cases hz : z < x
  · rw [decide_eq_true hz]
    symm
    rw [List.any_eq_true]
    rcases h.is with rfl | ⟨⟨s, hs, e⟩, hp⟩
    · have := hx.2; omega
    · refine ⟨s, hs, ?_⟩
      rw [e, hp]
      simp; omega
  · rw [decide_eq_false hz]
    symm
    rw [List.any_eq_false]
    intro s hs
    cases hc : haltC fai l s.wv
    · simp
    · have := h.least s.wv ⟨s, hs, rfl⟩ hc
      simp; omega
def overB (l : List Stp) : Bool := cnt leftB l == 0
theorem over_any (A : Option Addr) (l : List Stp) (c : Nat) (w : World) (hS : Stps w A l) (hm : l.length ≤ 2199023255552) :
    Calls Try.prog 14 #[.slice A l.length c] w fun e w' => e = .returned (.bool (overB l)) ∧ Below w.heap.size w w' := by
  have HC := Lib.hid (fun V B fs d (hV : Below w.heap.size w V) hF hfm => count_any A l c B fs d V (hS.later hV) hm hF hfm)
  have HV : Hid (overB l = ((cnt (allF [.left]) l : Int) == 0)) := Lib.hid (by rw [allF_one]; show (cnt leftB l == 0) = ((cnt leftB l : Int) == 0); cases cnt leftB l <;> simp <;> omega)
  rw [HV.out]
  clear HV hS hm
  go_enter Try.func14, Try.ntmps14
  go_wp2_with (first | (go_at_call 20; refine (HC.out _ (some ⟨w.heap.size, 0, none⟩) [.left] 1 (below_alloc w _) (fns_one w .left _ trivial) (by simp [maxLen])).mono ?_; rintro e w1 ⟨rfl, hb1⟩) | go_in)
  go_ret
  exact ⟨rfl, (below_alloc w _).trans (hb1.mono (by simp))⟩
theorem open_any (C : Array Value) (fai par : Int) (hJ : JA C fai par) (A : Option Addr) (l : List Stp) (c : Nat) (x : Int) (hx : I64 x) (w : World) (hS : Stps w A l) (hm : l.length ≤ 2199023255552) (hw : WvOk l) :
    Calls Try.prog 17 #[.agg C, .slice A l.length c, .int .i64 x] w fun e w' => e = .returned (.bool (openB fai l x)) ∧ Below w.heap.size w w' := by
  have HB := Lib.hid (bounds_any C fai par hJ A l c _ (hS.later (below_alloc w (.cells C 27))) hm hw)
  have hszJ : (Try.prog.info? 27).map (·.size) = some C.size := by rw [hJ.size]; exact szJb
  have HO := Lib.hid (fun z (h : Least (shutC fai l) (ThereW l) z) => open_of h hx)
  clear hJ hS hm hw hx
  go_enter Try.func17, Try.ntmps17
  go_wp2_with (first | (refine wpList_load_row rfl 27 (.tmp 3) rfl w.heap.size rfl 27 C (0, 0) _ (heap_new w _) Try.underlying27 rfl hszJ ?_) | (go_at_call 19; refine HB.out.mono ?_; rintro e w1 ⟨sh, ha, rfl, hl1, hl2, hb1⟩; have HV := Lib.hid (HO.out _ hl1)) | go_in)
  go_ret
  exact ⟨by rw [← HV.out]; rfl, (below_alloc w _).trans (hb1.mono (by simp))⟩
theorem results_tmp5 {fn : Func} {t1 t2 t3 t4 t5 : Tmp} (h : fn.results = #[.tmp t1, .tmp t2, .tmp t3, .tmp t4, .tmp t5]) (tmps : Array Value) (P : Program) (w : World) :
    (results fn tmps).run P w = .ok (.tuple #[tmps.getD t1 undef, tmps.getD t2 undef, tmps.getD t3 undef, tmps.getD t4 undef, tmps.getD t5 undef]) w := by
  simp [results, h]
abbrev isS (k : Int) (s : Stp) : Bool := s.st == k
def CountPost (l : List Stp) (w : World) (e : Ending) (w' : World) : Prop :=
  e = .returned (.tuple #[.int .i64 (cnt (isS 1) l : Nat), .int .i64 (cnt (isS 2) l : Nat), .int .i64 (cnt goodB l : Nat), .int .i64 (cnt failB l : Nat), .int .i64 (cnt (isS 4) l : Nat)]) ∧ Below w.heap.size w w'
theorem isS_all (b : Nat) (k : Int) : allF [.st b k] = isS k := by rw [allF_one]; rfl
set_option maxHeartbeats 4000000 in
theorem countAll_any (A : Option Addr) (l : List Stp) (c : Nat) (w : World) (hS : Stps w A l) (hm : l.length ≤ 2199023255552) :
    Calls Try.prog 12 #[.slice A l.length c] w (CountPost l w) := by
  have HC := Lib.hid (fun V B fs d (hV : Below w.heap.size w V) hF hfm => count_any A l c B fs d V (hS.later hV) hm hF hfm)
  have tk1 : True := trivial
  have tk2 : True := trivial
  have tk3 : True := trivial
  have tk4 : True := trivial
  have tk5 : True := trivial
  have tk6 : True := trivial
  clear hS hm
  go_enter Try.func12, Try.ntmps12
  go_wp2_with (first
    | (go_at_call 21; clear tk1; refine (is_any _ _).mono ?_; rintro e w1 ⟨rfl, hin1, hb1⟩; have HB1 := Lib.hid hb1; clear hb1)
    | (go_at_call 20; clear tk2; refine (HC.out _ (some ⟨w1.heap.size, 0, none⟩) [.st w.heap.size 1] 1 (HB1.out.alloc HB1.out.size _) (fns_one w1 _ _ hin1) (by simp [maxLen])).mono ?_; rintro e w2 ⟨rfl, hb2⟩; have HB2 : Hid (Below w.heap.size w w2) := Lib.hid ((HB1.out.alloc HB1.out.size _).trans (hb2.mono (Nat.le_trans HB1.out.size (by simp)))); clear hb2)
    | (go_at_call 21; clear tk3; refine (is_any _ _).mono ?_; rintro e w3 ⟨rfl, hin3, hb3⟩; have HB3 : Hid (Below w.heap.size w w3) := Lib.hid (HB2.out.trans (hb3.mono HB2.out.size)); clear hb3)
    | (go_at_call 20; clear tk4; refine (HC.out _ (some ⟨w3.heap.size, 0, none⟩) [.st w2.heap.size 2] 1 (HB3.out.alloc HB3.out.size _) (fns_one w3 _ _ hin3) (by simp [maxLen])).mono ?_; rintro e w4 ⟨rfl, hb4⟩; have HB4 : Hid (Below w.heap.size w w4) := Lib.hid ((HB3.out.alloc HB3.out.size _).trans (hb4.mono (Nat.le_trans HB3.out.size (by simp)))); clear hb4)
    | (go_at_call 20; clear tk5; refine (HC.out _ (some ⟨w4.heap.size, 0, none⟩) [.good] 1 (HB4.out.alloc HB4.out.size _) (fns_one w4 .good _ trivial) (by simp [maxLen])).mono ?_; rintro e w5 ⟨rfl, hb5⟩; have HB5 : Hid (Below w.heap.size w w5) := Lib.hid ((HB4.out.alloc HB4.out.size _).trans (hb5.mono (Nat.le_trans HB4.out.size (by simp)))); clear hb5)
    | (go_at_call 20; clear tk6; refine (HC.out _ (some ⟨w5.heap.size, 0, none⟩) [.fail] 1 (HB5.out.alloc HB5.out.size _) (fns_one w5 .fail _ trivial) (by simp [maxLen])).mono ?_; rintro e w6 ⟨rfl, hb6⟩; have HB6 : Hid (Below w.heap.size w w6) := Lib.hid ((HB5.out.alloc HB5.out.size _).trans (hb6.mono (Nat.le_trans HB5.out.size (by simp)))); clear hb6)
    | (go_at_call 21; refine (is_any _ _).mono ?_; rintro e w7 ⟨rfl, hin7, hb7⟩; have HB7 : Hid (Below w.heap.size w w7) := Lib.hid (HB6.out.trans (hb7.mono HB6.out.size)); clear hb7)
    | (go_at_call 20; refine (HC.out _ (some ⟨w7.heap.size, 0, none⟩) [.st w6.heap.size 4] 1 (HB7.out.alloc HB7.out.size _) (fns_one w7 _ _ hin7) (by simp [maxLen])).mono ?_; rintro e w8 ⟨rfl, hb8⟩; have HB8 : Hid (Below w.heap.size w w8) := Lib.hid ((HB7.out.alloc HB7.out.size _).trans (hb8.mono (Nat.le_trans HB7.out.size (by simp)))); clear hb8)
    | go_in)
  (try simp only [Exit.inBlock, Exit.then])
  refine bodyPost_ret (results_tmp5 rfl _ _ _) rfl ?_
  exact ⟨by simp only [isS_all, allF_one]; rfl, HB8.out⟩
theorem bad_is (fai : Int) (l : List Stp) (x : Int) (b b' : Nat) : badN fai (cnt (allF [.fail, .wv b x]) l) (cnt (allF [.wv b' x]) l) = badW fai l x := by
  unfold badW
  have e1 : allF [.fail, .wv b x] = andW failB x := by funext s; simp [allF, andW, Fnv.ev]
  have e2 : allF [.wv b' x] = andW ttB x := by funext s; simp [allF, andW, Fnv.ev, ttB]
  rw [e1, e2]
set_option maxHeartbeats 4000000 in
set_option maxRecDepth 20000 in
theorem bad_any (C : Array Value) (fai par : Int) (hJ : JA C fai par) (A : Option Addr) (l : List Stp) (c : Nat) (x : Int) (w : World) (hS : Stps w A l) (hm : l.length ≤ 2199023255552) :
    Calls Try.prog 15 #[.agg C, .slice A l.length c, .int .i64 x] w fun e w' => e = .returned (.bool (badW fai l x)) ∧ Below w.heap.size w w' := by
  have HC := Lib.hid (fun V B fs d (hV : Below w.heap.size w V) hF hfm => count_any A l c B fs d V (hS.later hV) hm hF hfm)
  have HTm := Lib.hid (fun f n hf hn V => tooMany_any C fai par hJ f n hf hn V)
  have hszJ : (Try.prog.info? 27).map (·.size) = some C.size := by rw [hJ.size]; exact szJb
  have hszL : (Try.prog.info? 27).map (·.size) = some C.toList.length := by rw [Array.length_toList]; exact hszJ
  have huJ := Try.underlying27
  have HLe : Hid (∀ p, cnt p l ≤ 2199023255552) := Lib.hid (fun p => Nat.le_trans (cnt_le _ _) hm)
  have HBd := Lib.hid (bad_is fai l x)
  have HRg : Hid (∀ V, Below (w.heap.size + 1) (w.alloc (.cells C 27)) V → V.rangeAt w.heap.size 0 C.toList) := Lib.hid (fun V hV j u hu => by
    rw [Nat.zero_add, cell_of_row V w.heap.size j C _ _ ((hV.block w.heap.size (by omega)).trans (heap_new w _))]
    simpa using hu)
  have HZ : Hid (∀ {n : Nat}, (w.alloc (.cells C 27)).heap.size ≤ n → w.heap.size + 1 ≤ n) := Lib.hid (fun h => by simpa using h)
  have HWb : Hid (∀ V, Below (w.heap.size + 1) (w.alloc (.cells C 27)) V → Below w.heap.size w V) := Lib.hid (fun V hV => (below_alloc w _).trans (hV.mono (by omega)))
  clear hJ hS hm
  go_enter Try.func15, Try.ntmps15
  go_wp2_with fail
  refine wp_region_held_drew (S := (fun V => V.rangeAt w.heap.size 0 C.toList)) (by kernel_rfl) (HRg.out _ (Below.refl _ _).drew) (fun hHeld => ?_)
  refine wpAnyH_take (i := 0) (v := .agg C) rfl (by kernel_rfl) (by kernel_rfl) (by kernel_rfl) (fun _ _ _ h => h) (yieldsIf_load_mid (by rfl) 27 (.tmp 3) rfl w.heap.size 0 rfl C.toList _ (fun V hV => hV) huJ rfl hszL) hHeld ?rr1
  try simp only [Act.put, List.setIfInBounds_toArray, List.set_cons_zero, List.set_cons_succ, List.getElem_toArray, List.getElem_cons_succ, List.getElem_cons_zero]
  refine wpAnyH_take (i := 1) (v := ?vv2) rfl (by kernel_rfl) (by kernel_rfl) (by kernel_rfl) (fun _ _ _ h => h) (Or.inl ⟨by rfl, ?hy2⟩) hHeld ?rr2
  case hy2 => (intro w' hSw; skip; go_simp; try with_reducible rfl)
  try simp only [Act.put, List.setIfInBounds_toArray, List.set_cons_zero, List.set_cons_succ, List.getElem_toArray, List.getElem_cons_succ, List.getElem_cons_zero]
  refine wpAnyH_take (i := 2) (v := ?vv3) rfl (by kernel_rfl) (by kernel_rfl) (by kernel_rfl) (fun _ _ _ h => h) (Or.inl ⟨by rfl, ?hy3⟩) hHeld ?rr3
  case hy3 => (intro w' hSw; skip; go_simp; try with_reducible rfl)
  try simp only [Act.put, List.setIfInBounds_toArray, List.set_cons_zero, List.set_cons_succ, List.getElem_toArray, List.getElem_cons_succ, List.getElem_cons_zero]
  refine wpAnyH_take (i := 6) (v := ?vv4) rfl (by kernel_rfl) (by kernel_rfl) (by kernel_rfl) (fun _ _ _ h => h) (Or.inl ⟨by rfl, ?hy4⟩) hHeld ?rr4
  case hy4 => (intro w' hSw; skip; go_simp; try with_reducible rfl)
  try simp only [Act.put, List.setIfInBounds_toArray, List.set_cons_zero, List.set_cons_succ, List.getElem_toArray, List.getElem_cons_succ, List.getElem_cons_zero]
  refine wpAnyH_take (i := 7) (v := ?vv5) rfl (by kernel_rfl) (by kernel_rfl) (by kernel_rfl) (fun _ _ _ h => h) (Or.inl ⟨by rfl, ?hy5⟩) hHeld ?rr5
  case hy5 => (intro w' hSw; skip; go_simp; try with_reducible rfl)
  try simp only [Act.put, List.setIfInBounds_toArray, List.set_cons_zero, List.set_cons_succ, List.getElem_toArray, List.getElem_cons_succ, List.getElem_cons_zero]
  refine wpAnyH_ready (rs := [3]) (by kernel_rfl) (by simp) ?_
  refine AllReadyH.cons rfl (fun K hK => ?_) AllReadyH.nil
  try rw [if_pos (by rfl)]
  go_simp
  go_at_call 29
  refine Calls.mono (by with_reducible exact isOf_any _ _) ?_
  rintro e w1 ⟨rfl, hin1, hb1⟩
  have HB1 : Hid (Below (w.heap.size + 1) (w.alloc (.cells C 27)) w1) := Lib.hid ((Below.refl _ _).drew.trans (hb1.mono (by simp [World.drew])))
  have hin1b : Fnv.In w1 (.wv (w.heap.size + 1) x) := by simpa [World.drew] using hin1
  clear hb1
  go_wp2_with fail
  refine hK.out _ _ (HRg.out _ HB1.out) (fun hHeld2 => ?_)
  clear hK K hHeld
  have hHeld := hHeld2
  clear hHeld2
  try simp only [Act.put, List.setIfInBounds_toArray, List.set_cons_zero, List.set_cons_succ, List.getElem_toArray, List.getElem_cons_succ, List.getElem_cons_zero]
  refine wpAnyH_ready (rs := [4]) (by kernel_rfl) (by simp) ?_
  refine AllReadyH.cons rfl (fun K hK => ?_) AllReadyH.nil
  try rw [if_pos (by rfl)]
  go_simp
  refine hK.out _ _ (HRg.out _ (HB1.out.alloc (HZ.out HB1.out.size) _)) (fun hHeld2 => ?_)
  clear hK K hHeld
  have hHeld := hHeld2
  clear hHeld2
  try simp only [Act.put, List.setIfInBounds_toArray, List.set_cons_zero, List.set_cons_succ, List.getElem_toArray, List.getElem_cons_succ, List.getElem_cons_zero]
  refine wpAnyH_ready (rs := [5]) (by kernel_rfl) (by simp) ?_
  refine AllReadyH.cons rfl (fun K hK => ?_) AllReadyH.nil
  try rw [if_pos (by rfl)]
  go_simp
  go_at_call 20
  refine Calls.mono (HC.out _ (some ⟨w1.heap.size, 0, none⟩) [.fail, .wv (w.heap.size + 1) x] 2 (HWb.out _ (HB1.out.alloc (HZ.out HB1.out.size) _)) (fns_two w1 .fail _ _ (in_fail w1) hin1b) (by simp [maxLen])) ?_
  rintro e w2 ⟨rfl, hb2⟩
  have HB2 : Hid (Below (w.heap.size + 1) (w.alloc (.cells C 27)) w2) := Lib.hid ((HB1.out.alloc (HZ.out HB1.out.size) _).trans (hb2.mono (Nat.le_trans (HZ.out HB1.out.size) (by simp))))
  clear hb2
  go_wp2_with fail
  refine hK.out _ _ (HRg.out _ HB2.out) (fun hHeld2 => ?_)
  clear hK K hHeld
  have hHeld := hHeld2
  clear hHeld2
  try simp only [Act.put, List.setIfInBounds_toArray, List.set_cons_zero, List.set_cons_succ, List.getElem_toArray, List.getElem_cons_succ, List.getElem_cons_zero]
  refine wpAnyH_ready (rs := [8]) (by kernel_rfl) (by simp) ?_
  refine AllReadyH.cons rfl (fun K hK => ?_) AllReadyH.nil
  try rw [if_pos (by rfl)]
  go_simp
  go_at_call 29
  refine Calls.mono (by with_reducible exact isOf_any _ _) ?_
  rintro e w3 ⟨rfl, hin3, hb3⟩
  have HB3 : Hid (Below (w.heap.size + 1) (w.alloc (.cells C 27)) w3) := Lib.hid (HB2.out.trans (hb3.mono (HZ.out HB2.out.size)))
  clear hb3
  go_wp2_with fail
  refine hK.out _ _ (HRg.out _ HB3.out) (fun hHeld2 => ?_)
  clear hK K hHeld
  have hHeld := hHeld2
  clear hHeld2
  try simp only [Act.put, List.setIfInBounds_toArray, List.set_cons_zero, List.set_cons_succ, List.getElem_toArray, List.getElem_cons_succ, List.getElem_cons_zero]
  refine wpAnyH_ready (rs := [9]) (by kernel_rfl) (by simp) ?_
  refine AllReadyH.cons rfl (fun K hK => ?_) AllReadyH.nil
  try rw [if_pos (by rfl)]
  go_simp
  refine hK.out _ _ (HRg.out _ (HB3.out.alloc (HZ.out HB3.out.size) _)) (fun hHeld2 => ?_)
  clear hK K hHeld
  have hHeld := hHeld2
  clear hHeld2
  try simp only [Act.put, List.setIfInBounds_toArray, List.set_cons_zero, List.set_cons_succ, List.getElem_toArray, List.getElem_cons_succ, List.getElem_cons_zero]
  refine wpAnyH_ready (rs := [10]) (by kernel_rfl) (by simp) ?_
  refine AllReadyH.cons rfl (fun K hK => ?_) AllReadyH.nil
  try rw [if_pos (by rfl)]
  go_simp
  go_at_call 20
  refine Calls.mono (HC.out _ (some ⟨w3.heap.size, 0, none⟩) [.wv w2.heap.size x] 1 (HWb.out _ (HB3.out.alloc (HZ.out HB3.out.size) _)) (fns_one w3 _ _ hin3) (by simp [maxLen])) ?_
  rintro e w4 ⟨rfl, hb4⟩
  have HB4 : Hid (Below (w.heap.size + 1) (w.alloc (.cells C 27)) w4) := Lib.hid ((HB3.out.alloc (HZ.out HB3.out.size) _).trans (hb4.mono (Nat.le_trans (HZ.out HB3.out.size) (by simp))))
  clear hb4
  go_wp2_with fail
  refine hK.out _ _ (HRg.out _ HB4.out) (fun hHeld2 => ?_)
  clear hK K hHeld
  have hHeld := hHeld2
  clear hHeld2
  try simp only [Act.put, List.setIfInBounds_toArray, List.set_cons_zero, List.set_cons_succ, List.getElem_toArray, List.getElem_cons_succ, List.getElem_cons_zero]
  refine wpAnyH_ready (rs := [11]) (by kernel_rfl) (by simp) ?_
  refine AllReadyH.cons rfl (fun K hK => ?_) AllReadyH.nil
  try rw [if_pos (by rfl)]
  go_simp
  go_at_call 28
  refine Calls.mono (by with_reducible exact HTm.out _ _ (HLe.out _) (HLe.out _) _) ?_
  rintro e w5 ⟨rfl, hb5⟩
  have HB5 : Hid (Below (w.heap.size + 1) (w.alloc (.cells C 27)) w5) := Lib.hid (HB4.out.trans (hb5.mono (HZ.out HB4.out.size)))
  clear hb5
  go_wp2_with fail
  refine hK.out _ _ (HRg.out _ HB5.out) (fun hHeld2 => ?_)
  clear hK K hHeld
  have hHeld := hHeld2
  clear hHeld2
  try simp only [Act.put, List.setIfInBounds_toArray, List.set_cons_zero, List.set_cons_succ, List.getElem_toArray, List.getElem_cons_succ, List.getElem_cons_zero]
  refine wpAnyH_take (i := 12) (v := ?vv6) rfl (by kernel_rfl) (by kernel_rfl) (by kernel_rfl) (fun _ _ _ h => h) (Or.inl ⟨by rfl, ?hy6⟩) hHeld ?rr6
  case hy6 => (intro w' hSw; skip; go_simp; try with_reducible rfl)
  try simp only [Act.put, List.setIfInBounds_toArray, List.set_cons_zero, List.set_cons_succ, List.getElem_toArray, List.getElem_cons_succ, List.getElem_cons_zero]
  refine wpAnyH_done (by kernel_rfl) ?_ _
  clear hHeld
  go_wp2
  go_ret
  exact ⟨by rw [← HBd.out]; rfl, HWb.out _ HB5.out⟩
end Go.Proofs.Ytcbnankocjlobaa
