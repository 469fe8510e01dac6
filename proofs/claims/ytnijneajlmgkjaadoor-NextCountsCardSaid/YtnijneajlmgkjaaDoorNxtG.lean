/- The iterator over the beginnings of the days that match, on both ways. -/
import Derived.Test.YtnijneajlmgkjaaDoorNxtG0
import Derived.Test.YtnijneajlmgkjaaDoorNxtE
import Derived.Sort.LoopGhostIn
set_option linter.unusedSimpArgs false
set_option linter.unusedVariables false
namespace Go.Proofs.YtnijneajlmgkjaaDoor
open Go.ChangeShapes Go.WideShapes Go.ChangeAt Go.RowKit Go.Base Go.Civ Go.Nxt Go.Cro Go.Shelf
attribute [local go_sem] Oper.semAt_some
/-- Ahead of a month: what the iterator over midnights holds, its frame written out. -/
def MidI (d : Bool) (s : Sp) (l pd pw ps : Nat) (W : World) (C : Nat → Prop) (J : (Nat → Prop) → List Int → World → Prop) (M : List Int) (f : Nat) (a : Act) (X : World) : Prop :=
  ∃ (pre : List Int) (m : Int) (days : Nat) (e : Int) (b7 : Nat) (Ds : List Nat), 11 ≤ m ∧ m ≤ 120000 ∧ DaysIn m days ∧ 0 ≤ e ∧ e ≤ 4801 ∧ Fuel d f m ∧ pre ++ midL d s f m days e = M ∧
    J (fun k => k = W.heap.size ∨ k = W.heap.size + 1 ∨ k = b7 ∨ k ∈ Ds) pre X ∧ Moved (fun k => ¬ C k) W X ∧
    X.heap[W.heap.size]? = some (.cells #[.func (.yield l) #[] #[]] 66 (0, 0)) ∧ X.heap[W.heap.size + 1]? = some (.cells #[.int .i64 m] 3 (0, 0)) ∧ X.heap[b7]? = some (.cells #[.int .i64 e] 3 (0, 0)) ∧ W.heap.size + 2 ≤ b7 ∧
    (∀ D ∈ Ds, W.heap.size + 2 ≤ D ∧ X.heap[D]? = some (.deferred (some []))) ∧ Ds.Nodup ∧
    ∃ u8 u9 u10 u11 u12 u13 u14 u15 u16 u17 u18 u19 u20 u21 u22 u23 u24 u25 u26 u27 u28 u29 u30 u31 u32 u33 u34 u35 u36 u37 u38 u39 u40 u41 u42 u43 u44 u45 u46 u47 u48 u49 u50 u51 u52 u53 : Value, a = { tmps := #[.func (.yield l) #[] #[], ptrV pd, ptrV pw, ptrV ps, ptrV W.heap.size, ptrV (W.heap.size + 1), .int .u64 days, ptrV b7, u8, u9, u10, u11, u12, u13, u14, u15, u16, u17, u18, u19, u20, u21, u22, u23, u24, u25, u26, u27, u28, u29, u30, u31, u32, u33, u34, u35, u36, u37, u38, u39, u40, u41, u42, u43, u44, u45, u46, u47, u48, u49, u50, u51, u52, u53], defers := marks Ds }

set_option maxRecDepth 100000 in
set_option maxHeartbeats 4000000 in
theorem mid_fw (n : Nat) (hn : 9 ≤ n) (s : Sp) (hs : SpOk s) (y mo : Int) (dy : Nat) (h mi sc wk : Int) (hy1 : 1 ≤ y) (hy2 : y ≤ 9999) (hm1 : 1 ≤ mo) (hm2 : mo ≤ 12) (hdy : dy ≤ 62) (pd pw ps : Nat) (w : World)
    (hpd : w.heap[pd]? = some (.cells (dateC y mo dy h mi sc wk) 43 (0, 0))) (hpw : w.heap[pw]? = some (.cells fwC 45 (0, 0))) (hps : w.heap[ps]? = some (.cells (specC s.mi s.ho s.da s.mo s.we s.ad s.aw) 24 (0, 0))) (hT : TzTab w) (ht : Tab w)
    (hg : 1 < w.heap.size) (hg2 : 2 < w.heap.size) (f0 : Nat) (hf0 : Fuel true f0 (y * 12 + mo - 1)) :
    SeqO Fence.wide n Tryd.prog 65 #[ptrV pd, ptrV pw, ptrV ps] (fun x : Int => #[.int .i64 x])
      (fun k => k = pw ∨ k = ps ∨ k = pd ∨ k = 1 ∨ k = 2) (midL true s f0 (y * 12 + mo - 1) (since true (mdays s (y * 12 + mo - 1)) dy) 0) w := fun l J Jx W hWb hJ hJx hY h0 => by
  obtain ⟨M, hM⟩ : ∃ M, M = midL true s f0 (y * 12 + mo - 1) (since true (mdays s (y * 12 + mo - 1)) dy) 0 := ⟨_, rfl⟩
  rw [← hM] at hY ⊢
  have HMM := Lib.hid hM
  clear hM
  refine callsIn_of_wp_marks Tryd.func65 rfl trivial ?_ rfl
  simp only [Tryd.ntmps65, List.size_toArray, List.length_cons, List.length_nil, Nat.reduceAdd, Nat.reduceSub, Array.replicate_succ, Array.replicate_zero, List.push_toArray, List.append_toArray, List.nil_append, List.cons_append]
  have hbW : ∀ {k : Nat} {o : Obj}, w.heap[k]? = some o → W.heap[k]? = some o := fun h => (hWb.block _ (heap_lt h)).trans h
  have kpw := hbW hpw
  have kps := hbW hps
  have kpd := hbW hpd
  have hTW : TzTab W := hT.later hWb
  have htW : Tab W := ht.later hWb
  have hgW : 1 < W.heap.size := Nat.lt_of_lt_of_le hg hWb.size
  have hg2W : 2 < W.heap.size := Nat.lt_of_lt_of_le hg2 hWb.size
  have lpw := heap_lt kpw
  have lps := heap_lt kps
  have lpd := heap_lt kpd
  clear hpw hps hpd hT ht hg hg2 hbW
  have p0 := (cells_of_heap kpd).1 0
  have p1 := (cells_of_heap kpd).1 1
  simp at p0 p1
  gi_wp2_with fail
  refine at_world (C := fun V => Code.wpIn _ _ _ _ _ _ V) (P := fun V => Below W.heap.size W V ∧ V.heap.size = W.heap.size + 2 ∧ V.heap[W.heap.size]? = some (.cells #[.func (.yield l) #[] #[]] 66 (0, 0)) ∧ V.heap[W.heap.size + 1]? = some (.cells #[.int .i64 (y * 12 + mo - 1)] 3 (0, 0)))
    ⟨(below_alloc W _).alloc (by simp) _, by simp, heap_old _ (by simp) (heap_new W _), by
      have h8 := heap_new (W.alloc (.cells #[.func (.yield l) #[] #[]] 66)) (.cells #[.int .i64 (y * 12 + mo - 1)] 3)
      rw [World.size_alloc] at h8; exact h8⟩ (fun V0 hV => ?_)
  obtain ⟨hK0, z0, v4, v5⟩ := hV
  have hS0 : (fun V : World => Hold3 pw ps pd fwC (specC s.mi s.ho s.da s.mo s.we s.ad s.aw) (dateC y mo dy h mi sc wk) V ∧ V.heap[W.heap.size + 1]? = some (.cells #[.int .i64 (y * 12 + mo - 1)] 3 (0, 0)) ∧ V.heap[W.heap.size]? = some (.cells #[.func (.yield l) #[] #[]] 66 (0, 0))) V0.drew :=
    ⟨⟨(hK0.block _ lpw).trans kpw, (hK0.block _ lps).trans kps, (hK0.block _ lpd).trans kpd⟩, v5, v4⟩
  have HMd := Lib.hid (fun V hV => monthDays_any s hs (y * 12 + mo - 1) (by omega) (by omega) V hV)
  have HTW := Lib.hid (fun (V : World) (hb : Below W.heap.size W V) => htW.later hb)
  have HSi := Lib.hid (fun V => fwSince_any (mdays s (y * 12 + mo - 1)) dy (mdays_lt _ _) (by omega) V)
  have hDI : DaysIn (y * 12 + mo - 1) (since true (mdays s (y * 12 + mo - 1)) dy) := since_in (mdays_in _ _)
  have HDI := Lib.hid hDI
  have HK0 := Lib.hid hK0
  have HZ0 := Lib.hid z0
  clear hDI hK0 htW p0 p1 z0 v4 v5
  generalize since true (mdays s (y * 12 + mo - 1)) dy = D0 at *
  generalize mdays s (y * 12 + mo - 1) = M0 at *
  refine wpIn_mono ?_ NoPanic.imp
  refine wpIn_region_heldW (S := (fun V : World => Hold3 pw ps pd fwC (specC s.mi s.ho s.da s.mo s.we s.ad s.aw) (dateC y mo dy h mi sc wk) V ∧ V.heap[W.heap.size + 1]? = some (.cells #[.int .i64 (y * 12 + mo - 1)] 3 (0, 0)) ∧ V.heap[W.heap.size]? = some (.cells #[.func (.yield l) #[] #[]] 66 (0, 0)))) (by kernel_rfl) (by kernel_rfl) (by rintro ⟨_, _, ⟨v, hv⟩, _⟩; cases hv) hS0 (fun hHeld => ?_)
  refine wpAnyH_take (i := 0) (v := (.pointer (some ⟨pw, 2, none⟩))) rfl (by kernel_rfl) (by kernel_rfl) (by kernel_rfl) (fun _ _ _ h => h) (Or.inl ⟨by rfl, ?hy1⟩) hHeld ?rr1
  case hy1 => (intro w' hSw; obtain ⟨⟨q1, q2, q3⟩, q4, q5⟩ := hSw; have q1 := (cells_of_heap q1).1; have q2 := (cells_of_heap q2).1; have q3 := (cells_of_heap q3).1; have q4 := (cells_of_heap q4).1 0; go_simp; try with_reducible rfl)
  try simp only [Act.put, List.setIfInBounds_toArray, List.set_cons_zero, List.set_cons_succ, List.getElem_toArray, List.getElem_cons_succ, List.getElem_cons_zero]
  refine wpAnyH_take (i := 1) (v := (.func (.func 45) #[] #[])) rfl (by kernel_rfl) (by kernel_rfl) (by kernel_rfl) (fun _ _ _ h => h) (Or.inl ⟨by rfl, ?hy2⟩) hHeld ?rr2
  case hy2 => (intro w' hSw; obtain ⟨⟨q1, q2, q3⟩, q4, q5⟩ := hSw; have q1 := (cells_of_heap q1).1; have q2 := (cells_of_heap q2).1; have q3 := (cells_of_heap q3).1; have q4 := (cells_of_heap q4).1 0; go_simp; try with_reducible rfl)
  try simp only [Act.put, List.setIfInBounds_toArray, List.set_cons_zero, List.set_cons_succ, List.getElem_toArray, List.getElem_cons_succ, List.getElem_cons_zero]
  refine wpAnyH_take (i := 2) (v := (spV s)) rfl (by kernel_rfl) (by kernel_rfl) (by kernel_rfl) (fun _ _ _ h => h) (Or.inl ⟨by rfl, ?hy3⟩) hHeld ?rr3
  case hy3 => (intro w' hSw; obtain ⟨⟨q1, q2, q3⟩, q4, q5⟩ := hSw; have q1 := (cells_of_heap q1).1; have q2 := (cells_of_heap q2).1; have q3 := (cells_of_heap q3).1; have q4 := (cells_of_heap q4).1 0; go_simp; try with_reducible rfl)
  try simp only [Act.put, List.setIfInBounds_toArray, List.set_cons_zero, List.set_cons_succ, List.getElem_toArray, List.getElem_cons_succ, List.getElem_cons_zero]
  refine wpAnyH_take (i := 3) (v := (.int .i64 (y * 12 + mo - 1))) rfl (by kernel_rfl) (by kernel_rfl) (by kernel_rfl) (fun _ _ _ h => h) (Or.inl ⟨by rfl, ?hy4⟩) hHeld ?rr4
  case hy4 => (intro w' hSw; obtain ⟨⟨q1, q2, q3⟩, q4, q5⟩ := hSw; have q1 := (cells_of_heap q1).1; have q2 := (cells_of_heap q2).1; have q3 := (cells_of_heap q3).1; have q4 := (cells_of_heap q4).1 0; go_simp; try with_reducible rfl)
  try simp only [Act.put, List.setIfInBounds_toArray, List.set_cons_zero, List.set_cons_succ, List.getElem_toArray, List.getElem_cons_succ, List.getElem_cons_zero]
  refine wpAnyH_take (i := 5) (v := (.pointer (some ⟨pd, 2, none⟩))) rfl (by kernel_rfl) (by kernel_rfl) (by kernel_rfl) (fun _ _ _ h => h) (Or.inl ⟨by rfl, ?hy5⟩) hHeld ?rr5
  case hy5 => (intro w' hSw; obtain ⟨⟨q1, q2, q3⟩, q4, q5⟩ := hSw; have q1 := (cells_of_heap q1).1; have q2 := (cells_of_heap q2).1; have q3 := (cells_of_heap q3).1; have q4 := (cells_of_heap q4).1 0; go_simp; try with_reducible rfl)
  try simp only [Act.put, List.setIfInBounds_toArray, List.set_cons_zero, List.set_cons_succ, List.getElem_toArray, List.getElem_cons_succ, List.getElem_cons_zero]
  refine wpAnyH_take (i := 6) (v := (.int .i64 dy)) rfl (by kernel_rfl) (by kernel_rfl) (by kernel_rfl) (fun _ _ _ h => h) (Or.inl ⟨by rfl, ?hy6⟩) hHeld ?rr6
  case hy6 => (intro w' hSw; obtain ⟨⟨q1, q2, q3⟩, q4, q5⟩ := hSw; have q1 := (cells_of_heap q1).1; have q2 := (cells_of_heap q2).1; have q3 := (cells_of_heap q3).1; have q4 := (cells_of_heap q4).1 0; go_simp; try with_reducible rfl)
  try simp only [Act.put, List.setIfInBounds_toArray, List.set_cons_zero, List.set_cons_succ, List.getElem_toArray, List.getElem_cons_succ, List.getElem_cons_zero]
  refine wpAnyH_ready (rs := [4]) (by kernel_rfl) (by simp) ?_
  refine AllReadyH.cons rfl (fun K hK => ?_) AllReadyH.nil
  try rw [if_pos (by rfl)]
  go_simp
  go_at_call 53
  refine Calls.mono (HMd.out _ (HTW.out _ HK0.out.drew)) ?_
  rintro e w9 ⟨rfl, hb9⟩
  have HB9 := Lib.hid hb9
  have HB8 := Lib.hid (HK0.out.drew.trans (hb9.mono (show W.heap.size ≤ V0.heap.size by have := HZ0.out; omega)))
  clear hb9
  go_wp2_with fail
  refine hK.out _ _ ⟨⟨(HB9.out.block _ (show pw < V0.heap.size by have := HZ0.out; omega)).trans hHeld.1.1, (HB9.out.block _ (show ps < V0.heap.size by have := HZ0.out; omega)).trans hHeld.1.2.1, (HB9.out.block _ (show pd < V0.heap.size by have := HZ0.out; omega)).trans hHeld.1.2.2⟩, (HB9.out.block _ (show W.heap.size + 1 < V0.heap.size by have := HZ0.out; omega)).trans hHeld.2.1, (HB9.out.block _ (show W.heap.size < V0.heap.size by have := HZ0.out; omega)).trans hHeld.2.2⟩ (fun hHeld2 => ?_)
  clear hK K hHeld
  have hHeld := hHeld2
  clear hHeld2
  try simp only [Act.put, List.setIfInBounds_toArray, List.set_cons_zero, List.set_cons_succ, List.getElem_toArray, List.getElem_cons_succ, List.getElem_cons_zero]
  refine wpAnyH_ready (rs := [7]) (by kernel_rfl) (by simp) ?_
  refine AllReadyH.cons rfl (fun K hK => ?_) AllReadyH.nil
  try rw [if_pos (by rfl)]
  go_simp
  go_at_call 45
  refine Calls.mono (HSi.out _) ?_
  rintro e w10 ⟨rfl, hw10⟩; rw [hw10]; clear hw10 w10
  go_wp2_with fail
  refine hK.out _ _ hHeld (fun hHeld2 => ?_)
  clear hK K hHeld
  have hHeld := hHeld2
  clear hHeld2
  try simp only [Act.put, List.setIfInBounds_toArray, List.set_cons_zero, List.set_cons_succ, List.getElem_toArray, List.getElem_cons_succ, List.getElem_cons_zero]
  refine wpAnyH_take (i := 8) (v := (.int .u64 (D0 : Nat))) rfl (by kernel_rfl) (by kernel_rfl) (by kernel_rfl) (fun _ _ _ h => h) (Or.inl ⟨by rfl, ?hy7⟩) hHeld ?rr7
  case hy7 => (intro w' hSw; obtain ⟨⟨q1, q2, q3⟩, q4, q5⟩ := hSw; have q1 := (cells_of_heap q1).1; have q2 := (cells_of_heap q2).1; have q3 := (cells_of_heap q3).1; have q4 := (cells_of_heap q4).1 0; go_simp; try with_reducible rfl)
  try simp only [Act.put, List.setIfInBounds_toArray, List.set_cons_zero, List.set_cons_succ, List.getElem_toArray, List.getElem_cons_succ, List.getElem_cons_zero]
  have HHld := Lib.hid hHeld
  refine wpAnyH_done (by kernel_rfl) ?_ _
  clear hHeld
  refine NoPanic.normal ?_
  gi_wp2_with fail
  let C : Nat → Prop := fun k => k = pw ∨ k = ps ∨ k = pd ∨ k = 1 ∨ k = 2
  have hC : ∀ k, C k → k < W.heap.size := fun k hk => by rcases hk with rfl | rfl | rfl | rfl | rfl <;> assumption
  have HC := Lib.hid hC
  have HJ := Lib.hid hJ
  have HJx := Lib.hid hJx
  have HY := Lib.hid hY
  have HTz := Lib.hid hTW
  have HKw := Lib.hid kpw
  have HKs := Lib.hid kps
  have hz9 : W.heap.size + 2 ≤ w9.heap.size := by have h1 := HZ0.out; have h2 := HB9.out.size; have h3 : V0.drew.heap.size = V0.heap.size := rfl; omega
  refine wpIn_loop_ghost (MidI true s l pd pw ps W C J M) f0 ?start ?round
  case start =>
    obtain ⟨_, h5, h4⟩ := HHld.out
    refine ⟨[], y * 12 + mo - 1, D0, 0, w9.heap.size, [], by omega, by omega, HDI.out, by omega, by omega, hf0, by rw [HMM.out]; rfl, ?_, Below.movedNew ((HB8.out.alloc HB8.out.size _)), heap_old _ (heap_lt h4) h4, heap_old _ (heap_lt h5) h5, heap_new w9 _, hz9, fun D h => by simp at h, List.nodup_nil, _, _, _, _, _, _, _, _, _, _, _, _, _, _, _, _, _, _, _, _, _, _, _, _, _, _, _, _, _, _, _, _, _, _, _, _, _, _, _, _, _, _, _, _, _, _, rfl⟩
    refine hJ.turn h0 (fun _ h => h.elim) ((Below.movedNew ((HB8.out.alloc HB8.out.size _)))) (fun k hk => ?_) (fun k hk => ?_)
    · rw [World.size_alloc]
      rcases hk with rfl | rfl | rfl | hk
      · omega
      · omega
      · omega
      · simp at hk
    · rcases hk with rfl | rfl | rfl | hk
      · exact .inr (Nat.le_refl _)
      · exact .inr (by omega)
      · exact .inr (by omega)
      · simp at hk
  clear hJ hJx hY hTW kpw kps kpd hC h0 hf0 HHld HMM HDI HB9 HB8 HSi hz9 HZ0 HK0
  case round =>
    intro f a X hI
    obtain ⟨pre, m, days, e, b7, Ds, hm11, hm12, hDI, he0, he1, hfuel, htot, hJX, hMX, x4, x5, x7, hb7, hDs, hnd, u8, u9, u10, u11, u12, u13, u14, u15, u16, u17, u18, u19, u20, u21, u22, u23, u24, u25, u26, u27, u28, u29, u30, u31, u32, u33, u34, u35, u36, u37, u38, u39, u40, u41, u42, u43, u44, u45, u46, u47, u48, u49, u50, u51, u52, u53, rfl⟩ := hI
    have zX := hMX.size
    have c5 := cell_of_row X (W.heap.size + 1) 0 _ _ _ x5
    have c7 := cell_of_row X b7 0 _ _ _ x7
    have hownX : OwnO W.heap.size (fun k => k = W.heap.size ∨ k = W.heap.size + 1 ∨ k = b7 ∨ k ∈ Ds) X := fun k hk => by
      rcases hk with rfl | rfl | rfl | hk
      · exact ⟨Nat.le_refl _, heap_lt x4⟩
      · exact ⟨by omega, heap_lt x5⟩
      · exact ⟨by omega, heap_lt x7⟩
      · exact ⟨by have := (hDs k hk).1; omega, heap_lt (hDs k hk).2⟩
    have HJX := Lib.hid hJX
    have HMX := Lib.hid hMX
    have HX4 := Lib.hid x4
    have HX5 := Lib.hid x5
    have HX7 := Lib.hid x7
    have HDs := Lib.hid hDs
    have HND := Lib.hid hnd
    have HOX := Lib.hid hownX
    have HTot := Lib.hid htot
    have HFu := Lib.hid hfuel
    have HDI := Lib.hid hDI
    clear hJX hMX x4 x5 x7 hDs hnd hownX htot hfuel hDI
    by_cases hgd : e ≤ 4800 ∧ 12 ≤ m ∧ m ≤ 119999
    · obtain ⟨g1, g2, g3⟩ := hgd
      obtain ⟨f, rfl⟩ : ∃ f', f = f' + 1 := by
        cases f with
        | zero => exfalso; have h9 := HFu.out; simp only [Fuel, if_true, Bool.false_eq_true, if_false] at h9; omega
        | succ f => exact ⟨f, rfl⟩
      have xw := HMX.out.heap HKw.out (fun hn => hn (.inl rfl))
      have xs := HMX.out.heap HKs.out (fun hn => hn (.inr (.inl rfl)))
      have w0 := (cells_of_heap xw).1
      have hTzX : TzTab X := HTz.out.moved HMX.out (fun hn => hn (.inr (.inr (.inr (.inl rfl)))))
      have htX : Tab X := fun k hk => HMX.out.cell (HTW.out W (Below.refl _ _) k hk) (fun hn => hn (.inr (.inr (.inr (.inr rfl)))))
      have HXw := Lib.hid xw
      have HXs := Lib.hid xs
      have HTzX := Lib.hid hTzX
      have HtX := Lib.hid htX
      clear xw xs hTzX htX
      have hn1 : 1 ≤ n := by omega
      gi_wp2_with (refine ⟨trivial, ?_⟩; gi_at_call 66; refine (callsIn_wide.2 (eachMk_fw _ _)).mono ?_; rintro e w9 ⟨rfl, hw9⟩; rw [hw9]; clear hw9 w9)
      clear w0 c5 c7
      refine at_world (C := fun V => Code.wpIn _ _ _ _ _ _ V) (P := fun V6 => Below X.heap.size X V6 ∧ V6.heap.size = X.heap.size + 2 ∧ V6.heap[X.heap.size]? = some (.cells fwC 45 (0, 0)) ∧ V6.heap[X.heap.size + 1]? = some (.cells #[.int .u64 (days : Nat)] 22 (0, 0)))
        ⟨((below_alloc X _).alloc (by simp) _), by simp, heap_old _ (by simp) (heap_new X _), by
          have h8 := heap_new (X.alloc (.cells fwC 45)) (.cells #[.int .u64 (days : Nat)] 22)
          rw [World.size_alloc] at h8; exact h8⟩ (fun V6 hV6 => ?_)
      obtain ⟨hB6, z6, v6w, v6s⟩ := hV6
      have hl4 := heap_lt HX4.out
      have hl5 := heap_lt HX5.out
      have hl7 := heap_lt HX7.out
      let Q : Nat → Prop := fun k => k = W.heap.size ∨ k = W.heap.size + 1 ∨ k = b7 ∨ k ∈ Ds ∨ k = X.heap.size ∨ k = X.heap.size + 1
      let K : Nat → Prop := fun k => C k ∨ k = W.heap.size ∨ k = W.heap.size + 1 ∨ k ∈ Ds ∨ k = X.heap.size
      let f2 : List Nat → List Int := fun pre2 => pre ++ pre2.map (midA m)
      have hQ : ∀ k, Q k → W.heap.size ≤ k ∧ k < V6.heap.size := fun k hk => by
        rcases hk with rfl | rfl | rfl | hk | rfl | rfl
        · omega
        · omega
        · omega
        · have := HOX.out k (.inr (.inr (.inr hk))); omega
        · omega
        · omega
      have hK : ∀ k, K k → k < V6.heap.size := fun k hk => by
        rcases hk with hk | rfl | rfl | hk | rfl
        · have := HC.out k hk; omega
        · omega
        · omega
        · have := HOX.out k (.inr (.inr (.inr hk))); omega
        · omega
      have m6 : Moved (fun _ => False) X V6 := Below.movedNew hB6
      have HM6 := Lib.hid m6
      have y64 : V6.heap[W.heap.size]? = _ := m6.heap HX4.out (fun h => h)
      have y65 : V6.heap[W.heap.size + 1]? = _ := m6.heap HX5.out (fun h => h)
      have y67 : V6.heap[b7]? = _ := m6.heap HX7.out (fun h => h)
      have H64 := Lib.hid y64
      have H65 := Lib.hid y65
      have H67 := Lib.hid y67
      have HKK := Lib.hid hK
      have HQQ := Lib.hid hQ
      have hb74 : ¬ b7 = W.heap.size := by omega
      have hb75 : ¬ b7 = W.heap.size + 1 := by omega
      have hbC : ¬ C b7 := fun h => by have := HC.out _ h; omega
      have hbD : b7 ∉ Ds := fun h => by
        have h1 := (HDs.out _ h).2
        rw [HX7.out] at h1; cases h1
      have hbK : Hid (¬ K b7) := Lib.hid (fun h => by
        rcases h with h | h | h | h | h
        · exact hbC h
        · exact hb74 h
        · exact hb75 h
        · exact hbD h
        · omega)
      have HBC := Lib.hid hbC
      have hI6 : AbidesO V6.heap.size (fun O (pre2 : List Nat) Y => Mine J Q K V6 f2 O pre2 Y ∧ Y.heap[b7]? = some (.cells #[.int .i64 (if pre2 = [] then e else 0)] 3 (0, 0))) := fun O O' p A B hh hs =>
        ⟨mine_abides HJ.out (by omega) hQ hK O O' p A B hh.1 hs, hs.moved.heap hh.2 (fun ho => by have := (hs.own _ ho).1; omega)⟩
      have hX6 := fun c => minex_abides (α := Nat) (Q := Q) (K := K) (V := V6) (M := M) HJx.out (by omega) hQ hK c
      have hJ6 : J Q pre V6 := HJ.out.turn HJX.out HOX.out (m6.weaken (fun _ _ h => h.elim)) hQ (fun k hk => by
        rcases hk with h | h | h | h | h | h
        · exact .inl (.inl h)
        · exact .inl (.inr (.inl h))
        · exact .inl (.inr (.inr (.inl h)))
        · exact .inl (.inr (.inr (.inr h)))
        · exact .inr (by omega)
        · exact .inr (by omega))
      have hI60 : Mine J Q K V6 f2 (fun _ => False) [] V6 ∧ V6.heap[b7]? = some (.cells #[.int .i64 (if ([] : List Nat) = [] then e else 0)] 3 (0, 0)) :=
        ⟨⟨by simp only [f2, List.map_nil, List.append_nil]; exact HJ.out.turn hJ6 (fun k hk => hQ k hk) (Moved.refl _ _) (fun k hk => by rcases hk with hk | hk; exact hk.elim; exact hQ k hk) (fun k hk => by rcases hk with hk | hk; exact hk.elim; exact .inl hk), Moved.refl _ _⟩, by simpa using y67⟩
      have HSplit : Hid (pre ++ (vals true days).map (midA m) ++ midL true s f (m + 1) (mdays s (m + 1)) ((if vals true days = [] then e else 0) + 1) = M) := Lib.hid (by
        have h9 := HTot.out
        simp only [midL] at h9
        rw [if_pos ⟨g1, g2, g3⟩, ← List.append_assoc] at h9
        exact h9)
      clear hQ hK m6 y64 y65 y67 hJ6
      refine wpIn_rangeFunc_O rfl hn1 (gf := 76) (lb := #[ptrV (X.heap.size + 1), ptrV X.heap.size]) rfl trivial (enters_of Tryd.func76 (by kernel_rfl) rfl)
        (each_fw (n - 1) (by omega) days HDI.out.1 (X.heap.size + 1) X.heap.size V6 (by omega) (by omega) (cell_of_row _ _ 0 _ _ _ v6s) (cell_of_row _ _ 1 _ _ _ v6w) (HTzX.out.moved HM6.out (fun h => h))) (Below.refl _ _) (fun k hk => by
          rcases hk with rfl | rfl
          · omega
          · have := HC.out _ (.inr (.inr (.inr (.inl rfl)))); omega) (fun _ => rfl)
        (fun O (pre2 : List Nat) Y => Mine J Q K V6 f2 O pre2 Y ∧ Y.heap[b7]? = some (.cells #[.int .i64 (if pre2 = [] then e else 0)] 3 (0, 0))) (fun c O _ Y => MineX Jx Q K V6 M c O Y) hI6 hX6 hI60 ?hround ?hdone ?hstop
      clear hI6 hX6 hI60 v6w v6s
      case hround =>
        intro l2 O2 pre2 v Y hOl2 hO2 hI2 hpre2
        obtain ⟨⟨hJ2, hM2⟩, h7⟩ := hI2
        have hv := HDI.out.2 v (mem_vals.1 (prefix_mem hpre2)).2
        have hv64 := (mem_vals.1 (prefix_mem hpre2)).1
        have HO2 := Lib.hid hO2
        have HP2 := Lib.hid hpre2
        have HJ2 := Lib.hid hJ2
        have HM2 := Lib.hid hM2
        have HOl2 := Lib.hid hOl2
        have H7 := Lib.hid h7
        clear hO2 hpre2 hJ2 hM2 hOl2 h7
        simp only [List.zip_toArray, List.zip_cons_cons, List.zip_nil_left, List.zip_nil_right, List.size_toArray, List.length_cons, List.length_nil, List.foldl_toArray', List.foldl_cons, List.foldl_nil, List.setIfInBounds_toArray, List.set_cons_succ, List.set_cons_zero]
        gi_wp2_with fail
        refine ⟨Moved.refl _ Y, fun r2 Y3 hY3 => ?_⟩
        have mY : Moved (fun k => k = l2) Y Y3 := by rw [hY3]; exact moved_putObjO _ _ rfl
        clear hY3
        have hl2 := HO2.out _ HOl2.out
        have zM2 := HM2.out.size
        have zY3 := mY.size
        have y7 := mY.heap H7.out (fun h => by omega)
        have hfr := (cells_of_heap y7).2 0
        have hc7 := cell_of_row Y3 b7 0 _ _ _ y7
        have HY7 := Lib.hid y7
        have HMY := Lib.hid mY
        clear y7 mY
        gi_wp2_with fail
        refine at_world (C := fun V => Code.wpIn _ _ _ _ _ _ V) (P := fun Y8 => Moved (fun k => k = b7) Y3 Y8 ∧ Y8.heap[b7]? = some (.cells #[.int .i64 0] 3 (0, 0)))
          ⟨Moved.setCell (p := fun k => k = b7) (Moved.refl _ _) (.inr rfl) _, heap_set HY7.out 0 (.int .i64 0)⟩ (fun Y8 hY8 => ?_)
        obtain ⟨m8, y87⟩ := hY8
        have m68 : Moved (fun k => ¬ K k) V6 Y8 := (HM2.out.trans HMY.out (fun k hk e hn => by have := HKK.out k hn; omega)).trans m8 (fun k hk e hn => hbK.out (e ▸ hn))
        have y84 := cell_of_row Y8 W.heap.size 0 _ _ _ (m68.heap H64.out (fun hn => hn (.inr (.inl rfl))))
        have y85 := cell_of_row Y8 (W.heap.size + 1) 0 _ _ _ (m68.heap H65.out (fun hn => hn (.inr (.inr (.inl rfl)))))
        have t8 : Tab Y8 := fun k hk => m68.cell ((HM6.out.cell (HtX.out k hk) (fun h => h))) (fun hn => hn (.inl (.inr (.inr (.inr (.inr rfl))))))
        have hown : OwnO W.heap.size (fun k => O2 k ∨ Q k) Y := fun k hk => by
          rcases hk with hk | hk
          · have := HO2.out k hk; omega
          · have := HQQ.out k hk; omega
        have hown8 : OwnO W.heap.size (fun k => O2 k ∨ Q k) Y8.drew := fun k hk => by have h1 := hown k hk; have h2 := m8.size; exact ⟨h1.1, show k < Y8.heap.size by omega⟩
        have hJ8 : J (fun k => O2 k ∨ Q k) (f2 pre2) Y8.drew := HJ.out.turn HJ2.out hown (((HMY.out.weaken (fun k _ e => .inl (e ▸ HOl2.out))).trans m8 (fun k _ e => .inr (.inr (.inr (.inl e))))).drew) hown8 (fun k hk => .inl hk)
        have hpf : f2 pre2 ++ [midA m v] <+: M := by
          have h1 := map_prefix (f := midA m) HP2.out
          rw [List.map_append] at h1
          obtain ⟨r, hr⟩ := h1
          exact ⟨r ++ midL true s f (m + 1) (mdays s (m + 1)) ((if vals true days = [] then e else 0) + 1), by rw [← HSplit.out, ← hr]; simp [f2, List.append_assoc]⟩
        obtain ⟨fn, tmps, assign, body, hy, hR⟩ := ((HY.out (fun k => O2 k ∨ Q k) (f2 pre2) (midA m v) Y8.drew hown8 hJ8 hpf).deep (l0 := l2) (m' := n - 1 - 1 - 1)).mono (R' := fun e W' => ∃ b : Bool, e = .returned (.bool b) ∧ (b = true → J (fun k => O2 k ∨ Q k) (f2 pre2 ++ [midA m v]) W') ∧ (b = false → Jx (fun k => O2 k ∨ Q k) (f2 pre2 ++ [midA m v]) W') ∧ Moved (fun k => ¬ (O2 k ∨ Q k) ∧ ¬ C k) Y8.drew W') (fun e W' h9 => by
          obtain ⟨h9 | h9, h10⟩ := h9
          · exact ⟨true, h9.1, (fun _ => h9.2), (fun h => nomatch h), h10⟩
          · exact ⟨false, h9.1, (fun h => nomatch h), (fun _ => h9.2), h10⟩)
        have HR := Lib.hid hR
        have HPf := Lib.hid hpf
        have HM68 := Lib.hid m68
        have HM8 := Lib.hid m8
        have H87 := Lib.hid y87
        have HMid := Lib.hid (midnight_any m v g2 g3 hv.1 hv.2 Y8.drew t8)
        have HT8 := Lib.hid t8
        have hmx : Tryd.prog.follows .mixedOrders = true := by kernel_rfl
        have hn3 : 1 ≤ n - 1 - 1 := by omega
        have hv1 := hv.1
        clear hR hpf m68 m8 y87 hJ8 hown hown8 t8 hfr hc7 hl2 zM2 zY3 hv
        gi_region_with_o (first | (refine ⟨trivial, ?_⟩; gi_at_call 67; refine (CallsIn.inRound l2 (callsIn_wide.2 HMid.out)).mono ?_; rintro e w9 ⟨rfl, hw9⟩; rw [hw9]; clear hw9 w9) | (refine HR.out.mono ?_; rintro e Y4 ⟨b, rfl, hb⟩))
        all_goals
          obtain ⟨hbt, hbf, hM4⟩ := hb
          have mR : Moved (fun k => ¬ O2 k ∧ ¬ (k = X.heap.size ∨ k = 1)) Y3 Y4 := (HM8.out.weaken (q := fun k => ¬ O2 k ∧ ¬ (k = X.heap.size ∨ k = 1)) (fun k _ e => by
            subst e
            refine ⟨fun h => by have := (HO2.out _ h).1; omega, fun h => ?_⟩
            rcases h with h | h
            · omega
            · exact HBC.out (.inr (.inr (.inr (.inl h)))))).drew.trans hM4 (fun k _ hk => ⟨fun h => hk.1 (.inl h), fun h => by
            rcases h with h | h
            · exact hk.1 (.inr (.inr (.inr (.inr (.inr (.inl h))))))
            · exact hk.2 (.inr (.inr (.inr (.inl h))))⟩)
          have mV4 : Moved (fun k => ¬ K k) V6 Y4 := HM68.out.drew.trans hM4 (fun k _ hk hn => by
            rcases hn with h | h | h | h | h
            · exact hk.2 h
            · exact hk.1 (.inr (.inl h))
            · exact hk.1 (.inr (.inr (.inl h)))
            · exact hk.1 (.inr (.inr (.inr (.inr (.inl h)))))
            · exact hk.1 (.inr (.inr (.inr (.inr (.inr (.inl h))))))) 
          have y74 : Y4.heap[b7]? = some (.cells #[.int .i64 0] 3 (0, 0)) := hM4.heap (show Y8.drew.heap[b7]? = _ from H87.out) (fun hn => hn.1 (.inr (.inr (.inr (.inl rfl)))))
          have hne : (if pre2 ++ [v] = [] then e else 0) = 0 := if_neg (by simp)
          have hfs : f2 pre2 ++ [midA m v] = f2 (pre2 ++ [v]) := by simp [f2, List.append_assoc]
          have HMR := Lib.hid mR
          have HMV4 := Lib.hid mV4
          have H74 := Lib.hid y74
          have HNe := Lib.hid hne
          have HFs := Lib.hid hfs
          have Hbt := Lib.hid hbt
          have Hbf := Lib.hid hbf
          clear mR mV4 y74 hne hfs hbt hbf hM4
          cases b
          · gi_wp2_with fail
            exact ⟨HMR.out, rfl, ⟨_, HPf.out, Hbf.out trivial⟩, HMV4.out⟩
          · gi_wp2_with fail
            exact ⟨HMR.out, ⟨HFs.out ▸ Hbt.out trivial, HMV4.out⟩, by rw [HNe.out]; exact H74.out⟩
      case hdone =>
        rintro D O Y hD hOD hO ⟨⟨hJ2, hM2⟩, h7⟩ hKd
        have zM2 := hM2.size
        have hown : OwnO W.heap.size (fun k => O k ∨ Q k) Y := fun k hk => by
          rcases hk with hk | hk
          · have := hO k hk; omega
          · have := HQQ.out k hk; omega
        have y4 := hM2.heap H64.out (fun hn => hn (.inr (.inl rfl)))
        have y5 := hM2.heap H65.out (fun hn => hn (.inr (.inr (.inl rfl))))
        have yw := hM2.heap (HM6.out.heap HXw.out (fun h => h)) (fun hn => hn (.inl (.inl rfl)))
        have ys := hM2.heap (HM6.out.heap HXs.out (fun h => h)) (fun hn => hn (.inl (.inr (.inl rfl))))
        have c0 := cell_of_row Y pw 0 _ _ _ yw
        have c5 := cell_of_row Y (W.heap.size + 1) 0 _ _ _ y5
        have f5 := (cells_of_heap y5).2 0
        have hl5 := heap_lt y5
        have HJ2 := Lib.hid hJ2
        have HM2 := Lib.hid hM2
        have H7 := Lib.hid h7
        have HKd := Lib.hid hKd
        have HO := Lib.hid hO
        have HOw := Lib.hid hown
        have HY4 := Lib.hid y4
        have HY5 := Lib.hid y5
        have HYs := Lib.hid ys
        clear hJ2 hM2 h7 hKd hO hown y4 y5 yw ys
        have m10 : ∀ v, Moved (fun k => k = W.heap.size + 1) Y (Y.setCell ⟨W.heap.size + 1, 0, none⟩ v) := fun v => Moved.setCell (p := fun k => k = W.heap.size + 1) (Moved.refl _ _) (.inr rfl) v
        have HM10 := Lib.hid m10
        have cS : ∀ v i, (Y.setCell ⟨W.heap.size + 1, 0, none⟩ v).cell? ⟨ps, i, none⟩ = (specC s.mi s.ho s.da s.mo s.we s.ad s.aw)[i]? := fun v => (cells_of_heap ((m10 v).heap HYs.out (fun h => by omega))).1
        have cM : ∀ v, (Y.setCell ⟨W.heap.size + 1, 0, none⟩ v).cell? ⟨W.heap.size + 1, 0, none⟩ = some v := fun v => cell_of_row _ _ 0 _ _ _ (heap_set HY5.out 0 v)
        have HTM : Hid (∀ v, Tab (Y.setCell ⟨W.heap.size + 1, 0, none⟩ v)) := Lib.hid (fun v k hk => (m10 v).cell (HM2.out.cell (HM6.out.cell (HtX.out k hk) (fun h => h)) (fun hn => hn (.inl (.inr (.inr (.inr (.inr rfl))))))) (fun h => by have h9 : 2 = W.heap.size + 1 := h; omega))
        have HMn := Lib.hid (fun V hV => monthDays_any s hs (m + 1) (by omega) (by omega) V hV)
        have HDn := Lib.hid (mdays_in s (m + 1))
        have HSp := Lib.hid HSplit.out
        have he2 : ∃ e2 : Int, e2 = (if vals true days = [] then e else 0) := ⟨_, rfl⟩
        obtain ⟨e2, he2⟩ := he2
        have hb2 : 0 ≤ e2 ∧ e2 ≤ 4800 := by rw [he2]; split <;> omega
        obtain ⟨hb20, hb21⟩ := hb2
        rw [← he2] at H7 HSp
        clear m10 he2 HSplit
        gi_wp2_with (refine ⟨trivial, ?_⟩; gi_at_call 53; refine (callsIn_wide.2 (HMn.out _ (HTM.out _))).mono ?_; rintro e w9 ⟨rfl, hb9⟩; have w97 := (hb9.block _ (by simpa using heap_lt H7.out)).trans ((HM10.out _).heap H7.out (fun h => hb75 h)); have c97 := cell_of_row w9 b7 0 _ _ _ w97; have HB9 := Lib.hid hb9; clear hb9 w97)
        have hB9 := HB9.out
        have zB9 := hB9.size
        simp at zB9
        have mYf : Moved (fun k => k = W.heap.size + 1) Y (w9.alloc (.cells #[.int .i64 (e2 + 1)] 3)) := ((HM10.out _).trans (Below.movedNew (p := fun _ => False) hB9) (fun _ _ h => h.elim)).alloc _
        have hlD := heap_lt HKd.out
        refine ⟨f, by omega, pre ++ (vals true days).map (midA m), m + 1, mdays s (m + 1), e2 + 1, w9.heap.size, D :: Ds, by omega, by omega, HDn.out, by omega, by omega, ?_, HSp.out, ?_, ?_, mYf.heap HY4.out (fun h => by omega), heap_old _ (by omega) ((hB9.block _ (by simpa using hl5)).trans (heap_set HY5.out 0 _)), heap_new w9 _, by omega, ?_, ?_, _, _, _, _, _, _, _, _, _, _, _, _, _, _, _, _, _, _, _, _, _, _, _, _, _, _, _, _, _, _, _, _, _, _, _, _, _, _, _, _, _, _, _, _, _, _, rfl⟩
        · have h9 := HFu.out
          simp only [Fuel, if_true, Bool.false_eq_true, if_false] at h9 ⊢; omega
        · refine HJ.out.turn HJ2.out HOw.out (mYf.weaken (fun k _ e => .inr (.inr (.inl e)))) (fun k hk => ?_) (fun k hk => ?_)
          · rw [World.size_alloc]
            rcases hk with rfl | rfl | rfl | hk
            · omega
            · omega
            · omega
            · rcases List.mem_cons.1 hk with rfl | hk
              · omega
              · have := HOX.out k (.inr (.inr (.inr hk))); omega
          · rcases hk with h | h | h | hk
            · exact .inl (.inr (.inl h))
            · exact .inl (.inr (.inr (.inl h)))
            · exact .inr (by omega)
            · rcases List.mem_cons.1 hk with rfl | hk
              · exact .inl (.inl hOD)
              · exact .inl (.inr (.inr (.inr (.inr (.inl hk)))))
        · exact ((HMX.out.trans HM6.out (fun _ _ h => h.elim)).trans HM2.out (fun k _ h hn => h (.inl hn))).trans mYf (fun k hk e hn => by have := HC.out k hn; omega)
        · intro E hE
          rcases List.mem_cons.1 hE with rfl | hE
          · exact ⟨by omega, mYf.heap HKd.out (fun h => by omega)⟩
          · have h1 := HDs.out E hE
            exact ⟨h1.1, mYf.heap (HM2.out.heap (HM6.out.heap h1.2 (fun h => h)) (fun hn => hn (.inr (.inr (.inr (.inl hE)))))) (fun h => by omega)⟩
        · exact List.nodup_cons.2 ⟨fun h => by have := HOX.out D (.inr (.inr (.inr h))); omega, HND.out⟩
      case hstop =>
        rintro D c O pre2 Y hD hOD hO hpre2 ⟨rfl, ⟨q, hq, hx⟩, hM2⟩ hKd
        have hown : OwnO W.heap.size (fun k => O k ∨ Q k) Y := fun k hk => by
          have zM2 := hM2.size
          rcases hk with hk | hk
          · have := hO k hk; omega
          · have := HQQ.out k hk; omega
        have HOw := Lib.hid hown
        have HJ2 := Lib.hid hx
        have HM2 := Lib.hid hM2
        have HKd := Lib.hid hKd
        have HQq := Lib.hid hq
        clear hx hM2 hKd hq hO hown
        gi_wp2_with fail
        refine leaves_marks (D :: Ds) Y (List.nodup_cons.2 ⟨fun h => by have := HOX.out D (.inr (.inr (.inr h))); omega, HND.out⟩) (fun E hE => ?_) (fun w' hm => ?_)
        · rcases List.mem_cons.1 hE with rfl | hE
          · exact HKd.out
          · exact HM2.out.heap (HM6.out.heap (HDs.out E hE).2 (fun h => h)) (fun hn => hn (.inr (.inr (.inr (.inl hE)))))
        · have hmm : Moved (fun k => O k ∨ Q k) Y w' := hm.weaken (fun k _ hk => by
            rcases List.mem_cons.1 hk with rfl | hk
            · exact .inl hOD
            · exact .inr (.inr (.inr (.inr (.inl hk)))))
          have hown' : OwnO W.heap.size (fun k => O k ∨ Q k) w' := fun k hk => by have := HOw.out k hk; have := hm.size; omega
          have hfin := HJx.out.turn HJ2.out HOw.out hmm hown' (fun k hk => .inl hk)
          refine ⟨_, results_none rfl _ _ _, ⟨_, rfl⟩, .inr ?_⟩
          first | exact ⟨fun k => O k ∨ Q k, q, hown', HQq.out, hfin⟩ | exact ⟨fun k => O k ∨ Q k, hown', q, HQq.out, hfin⟩
    · have hend : midL true s f m days e = [] := by
        cases f with
        | zero => rfl
        | succ f => simp only [midL]; rw [if_neg hgd]
      have HE := Lib.hid hend
      clear hend
      have h3 : 4800 < e ∨ (e ≤ 4800 ∧ m < 12) ∨ (e ≤ 4800 ∧ 12 ≤ m ∧ 119999 < m) := by omega
      clear hgd
      rcases h3 with h3 | ⟨h3, h4⟩ | ⟨h3, h4, h5⟩
      all_goals
        gi_wp2_with fail
        refine leaves_marks Ds X HND.out (fun D h => (HDs.out D h).2) (fun w' hm => ?_)
        have h9 := HTot.out
        rw [HE.out, List.append_nil] at h9
        refine ⟨_, results_none rfl _ _ _, ⟨_, rfl⟩, .inl ⟨fun k => k = W.heap.size ∨ k = W.heap.size + 1 ∨ k = b7 ∨ k ∈ Ds, fun k hk => ?_, ?_⟩⟩
        · have := HOX.out k hk; have := hm.size; omega
        · rw [← h9]
          exact HJ.out.turn HJX.out HOX.out (hm.weaken (fun k _ hk => .inr (.inr (.inr hk)))) (fun k hk => by have := HOX.out k hk; have := hm.size; omega) (fun k hk => .inl hk)

set_option maxRecDepth 100000 in
set_option maxHeartbeats 4000000 in
theorem mid_bw (n : Nat) (hn : 9 ≤ n) (s : Sp) (hs : SpOk s) (y mo : Int) (dy : Nat) (h mi sc wk : Int) (hy1 : 1 ≤ y) (hy2 : y ≤ 9999) (hm1 : 1 ≤ mo) (hm2 : mo ≤ 12) (hdy : dy ≤ 62) (pd pw ps : Nat) (w : World)
    (hpd : w.heap[pd]? = some (.cells (dateC y mo dy h mi sc wk) 43 (0, 0))) (hpw : w.heap[pw]? = some (.cells bwC 45 (0, 0))) (hps : w.heap[ps]? = some (.cells (specC s.mi s.ho s.da s.mo s.we s.ad s.aw) 24 (0, 0))) (hT : TzTab w) (ht : Tab w)
    (hg : 1 < w.heap.size) (hg2 : 2 < w.heap.size) (f0 : Nat) (hf0 : Fuel false f0 (y * 12 + mo - 1)) :
    SeqO Fence.wide n Tryd.prog 65 #[ptrV pd, ptrV pw, ptrV ps] (fun x : Int => #[.int .i64 x])
      (fun k => k = pw ∨ k = ps ∨ k = pd ∨ k = 1 ∨ k = 2) (midL false s f0 (y * 12 + mo - 1) (since false (mdays s (y * 12 + mo - 1)) dy) 0) w := fun l J Jx W hWb hJ hJx hY h0 => by
  obtain ⟨M, hM⟩ : ∃ M, M = midL false s f0 (y * 12 + mo - 1) (since false (mdays s (y * 12 + mo - 1)) dy) 0 := ⟨_, rfl⟩
  rw [← hM] at hY ⊢
  have HMM := Lib.hid hM
  clear hM
  refine callsIn_of_wp_marks Tryd.func65 rfl trivial ?_ rfl
  simp only [Tryd.ntmps65, List.size_toArray, List.length_cons, List.length_nil, Nat.reduceAdd, Nat.reduceSub, Array.replicate_succ, Array.replicate_zero, List.push_toArray, List.append_toArray, List.nil_append, List.cons_append]
  have hbW : ∀ {k : Nat} {o : Obj}, w.heap[k]? = some o → W.heap[k]? = some o := fun h => (hWb.block _ (heap_lt h)).trans h
  have kpw := hbW hpw
  have kps := hbW hps
  have kpd := hbW hpd
  have hTW : TzTab W := hT.later hWb
  have htW : Tab W := ht.later hWb
  have hgW : 1 < W.heap.size := Nat.lt_of_lt_of_le hg hWb.size
  have hg2W : 2 < W.heap.size := Nat.lt_of_lt_of_le hg2 hWb.size
  have lpw := heap_lt kpw
  have lps := heap_lt kps
  have lpd := heap_lt kpd
  clear hpw hps hpd hT ht hg hg2 hbW
  have p0 := (cells_of_heap kpd).1 0
  have p1 := (cells_of_heap kpd).1 1
  simp at p0 p1
  gi_wp2_with fail
  refine at_world (C := fun V => Code.wpIn _ _ _ _ _ _ V) (P := fun V => Below W.heap.size W V ∧ V.heap.size = W.heap.size + 2 ∧ V.heap[W.heap.size]? = some (.cells #[.func (.yield l) #[] #[]] 66 (0, 0)) ∧ V.heap[W.heap.size + 1]? = some (.cells #[.int .i64 (y * 12 + mo - 1)] 3 (0, 0)))
    ⟨(below_alloc W _).alloc (by simp) _, by simp, heap_old _ (by simp) (heap_new W _), by
      have h8 := heap_new (W.alloc (.cells #[.func (.yield l) #[] #[]] 66)) (.cells #[.int .i64 (y * 12 + mo - 1)] 3)
      rw [World.size_alloc] at h8; exact h8⟩ (fun V0 hV => ?_)
  obtain ⟨hK0, z0, v4, v5⟩ := hV
  have hS0 : (fun V : World => Hold3 pw ps pd bwC (specC s.mi s.ho s.da s.mo s.we s.ad s.aw) (dateC y mo dy h mi sc wk) V ∧ V.heap[W.heap.size + 1]? = some (.cells #[.int .i64 (y * 12 + mo - 1)] 3 (0, 0)) ∧ V.heap[W.heap.size]? = some (.cells #[.func (.yield l) #[] #[]] 66 (0, 0))) V0.drew :=
    ⟨⟨(hK0.block _ lpw).trans kpw, (hK0.block _ lps).trans kps, (hK0.block _ lpd).trans kpd⟩, v5, v4⟩
  have HMd := Lib.hid (fun V hV => monthDays_any s hs (y * 12 + mo - 1) (by omega) (by omega) V hV)
  have HTW := Lib.hid (fun (V : World) (hb : Below W.heap.size W V) => htW.later hb)
  have HSi := Lib.hid (fun V => bwSince_any (mdays s (y * 12 + mo - 1)) dy (mdays_lt _ _) (by omega) V)
  have hDI : DaysIn (y * 12 + mo - 1) (since false (mdays s (y * 12 + mo - 1)) dy) := since_in (mdays_in _ _)
  have HDI := Lib.hid hDI
  have HK0 := Lib.hid hK0
  have HZ0 := Lib.hid z0
  clear hDI hK0 htW p0 p1 z0 v4 v5
  generalize since false (mdays s (y * 12 + mo - 1)) dy = D0 at *
  generalize mdays s (y * 12 + mo - 1) = M0 at *
  refine wpIn_mono ?_ NoPanic.imp
  refine wpIn_region_heldW (S := (fun V : World => Hold3 pw ps pd bwC (specC s.mi s.ho s.da s.mo s.we s.ad s.aw) (dateC y mo dy h mi sc wk) V ∧ V.heap[W.heap.size + 1]? = some (.cells #[.int .i64 (y * 12 + mo - 1)] 3 (0, 0)) ∧ V.heap[W.heap.size]? = some (.cells #[.func (.yield l) #[] #[]] 66 (0, 0)))) (by kernel_rfl) (by kernel_rfl) (by rintro ⟨_, _, ⟨v, hv⟩, _⟩; cases hv) hS0 (fun hHeld => ?_)
  refine wpAnyH_take (i := 0) (v := (.pointer (some ⟨pw, 2, none⟩))) rfl (by kernel_rfl) (by kernel_rfl) (by kernel_rfl) (fun _ _ _ h => h) (Or.inl ⟨by rfl, ?hy1⟩) hHeld ?rr1
  case hy1 => (intro w' hSw; obtain ⟨⟨q1, q2, q3⟩, q4, q5⟩ := hSw; have q1 := (cells_of_heap q1).1; have q2 := (cells_of_heap q2).1; have q3 := (cells_of_heap q3).1; have q4 := (cells_of_heap q4).1 0; go_simp; try with_reducible rfl)
  try simp only [Act.put, List.setIfInBounds_toArray, List.set_cons_zero, List.set_cons_succ, List.getElem_toArray, List.getElem_cons_succ, List.getElem_cons_zero]
  refine wpAnyH_take (i := 1) (v := (.func (.func 64) #[] #[])) rfl (by kernel_rfl) (by kernel_rfl) (by kernel_rfl) (fun _ _ _ h => h) (Or.inl ⟨by rfl, ?hy2⟩) hHeld ?rr2
  case hy2 => (intro w' hSw; obtain ⟨⟨q1, q2, q3⟩, q4, q5⟩ := hSw; have q1 := (cells_of_heap q1).1; have q2 := (cells_of_heap q2).1; have q3 := (cells_of_heap q3).1; have q4 := (cells_of_heap q4).1 0; go_simp; try with_reducible rfl)
  try simp only [Act.put, List.setIfInBounds_toArray, List.set_cons_zero, List.set_cons_succ, List.getElem_toArray, List.getElem_cons_succ, List.getElem_cons_zero]
  refine wpAnyH_take (i := 2) (v := (spV s)) rfl (by kernel_rfl) (by kernel_rfl) (by kernel_rfl) (fun _ _ _ h => h) (Or.inl ⟨by rfl, ?hy3⟩) hHeld ?rr3
  case hy3 => (intro w' hSw; obtain ⟨⟨q1, q2, q3⟩, q4, q5⟩ := hSw; have q1 := (cells_of_heap q1).1; have q2 := (cells_of_heap q2).1; have q3 := (cells_of_heap q3).1; have q4 := (cells_of_heap q4).1 0; go_simp; try with_reducible rfl)
  try simp only [Act.put, List.setIfInBounds_toArray, List.set_cons_zero, List.set_cons_succ, List.getElem_toArray, List.getElem_cons_succ, List.getElem_cons_zero]
  refine wpAnyH_take (i := 3) (v := (.int .i64 (y * 12 + mo - 1))) rfl (by kernel_rfl) (by kernel_rfl) (by kernel_rfl) (fun _ _ _ h => h) (Or.inl ⟨by rfl, ?hy4⟩) hHeld ?rr4
  case hy4 => (intro w' hSw; obtain ⟨⟨q1, q2, q3⟩, q4, q5⟩ := hSw; have q1 := (cells_of_heap q1).1; have q2 := (cells_of_heap q2).1; have q3 := (cells_of_heap q3).1; have q4 := (cells_of_heap q4).1 0; go_simp; try with_reducible rfl)
  try simp only [Act.put, List.setIfInBounds_toArray, List.set_cons_zero, List.set_cons_succ, List.getElem_toArray, List.getElem_cons_succ, List.getElem_cons_zero]
  refine wpAnyH_take (i := 5) (v := (.pointer (some ⟨pd, 2, none⟩))) rfl (by kernel_rfl) (by kernel_rfl) (by kernel_rfl) (fun _ _ _ h => h) (Or.inl ⟨by rfl, ?hy5⟩) hHeld ?rr5
  case hy5 => (intro w' hSw; obtain ⟨⟨q1, q2, q3⟩, q4, q5⟩ := hSw; have q1 := (cells_of_heap q1).1; have q2 := (cells_of_heap q2).1; have q3 := (cells_of_heap q3).1; have q4 := (cells_of_heap q4).1 0; go_simp; try with_reducible rfl)
  try simp only [Act.put, List.setIfInBounds_toArray, List.set_cons_zero, List.set_cons_succ, List.getElem_toArray, List.getElem_cons_succ, List.getElem_cons_zero]
  refine wpAnyH_take (i := 6) (v := (.int .i64 dy)) rfl (by kernel_rfl) (by kernel_rfl) (by kernel_rfl) (fun _ _ _ h => h) (Or.inl ⟨by rfl, ?hy6⟩) hHeld ?rr6
  case hy6 => (intro w' hSw; obtain ⟨⟨q1, q2, q3⟩, q4, q5⟩ := hSw; have q1 := (cells_of_heap q1).1; have q2 := (cells_of_heap q2).1; have q3 := (cells_of_heap q3).1; have q4 := (cells_of_heap q4).1 0; go_simp; try with_reducible rfl)
  try simp only [Act.put, List.setIfInBounds_toArray, List.set_cons_zero, List.set_cons_succ, List.getElem_toArray, List.getElem_cons_succ, List.getElem_cons_zero]
  refine wpAnyH_ready (rs := [4]) (by kernel_rfl) (by simp) ?_
  refine AllReadyH.cons rfl (fun K hK => ?_) AllReadyH.nil
  try rw [if_pos (by rfl)]
  go_simp
  go_at_call 53
  refine Calls.mono (HMd.out _ (HTW.out _ HK0.out.drew)) ?_
  rintro e w9 ⟨rfl, hb9⟩
  have HB9 := Lib.hid hb9
  have HB8 := Lib.hid (HK0.out.drew.trans (hb9.mono (show W.heap.size ≤ V0.heap.size by have := HZ0.out; omega)))
  clear hb9
  go_wp2_with fail
  refine hK.out _ _ ⟨⟨(HB9.out.block _ (show pw < V0.heap.size by have := HZ0.out; omega)).trans hHeld.1.1, (HB9.out.block _ (show ps < V0.heap.size by have := HZ0.out; omega)).trans hHeld.1.2.1, (HB9.out.block _ (show pd < V0.heap.size by have := HZ0.out; omega)).trans hHeld.1.2.2⟩, (HB9.out.block _ (show W.heap.size + 1 < V0.heap.size by have := HZ0.out; omega)).trans hHeld.2.1, (HB9.out.block _ (show W.heap.size < V0.heap.size by have := HZ0.out; omega)).trans hHeld.2.2⟩ (fun hHeld2 => ?_)
  clear hK K hHeld
  have hHeld := hHeld2
  clear hHeld2
  try simp only [Act.put, List.setIfInBounds_toArray, List.set_cons_zero, List.set_cons_succ, List.getElem_toArray, List.getElem_cons_succ, List.getElem_cons_zero]
  refine wpAnyH_ready (rs := [7]) (by kernel_rfl) (by simp) ?_
  refine AllReadyH.cons rfl (fun K hK => ?_) AllReadyH.nil
  try rw [if_pos (by rfl)]
  go_simp
  go_at_call 64
  refine Calls.mono (HSi.out _) ?_
  rintro e w10 ⟨rfl, hw10⟩; rw [hw10]; clear hw10 w10
  go_wp2_with fail
  refine hK.out _ _ hHeld (fun hHeld2 => ?_)
  clear hK K hHeld
  have hHeld := hHeld2
  clear hHeld2
  try simp only [Act.put, List.setIfInBounds_toArray, List.set_cons_zero, List.set_cons_succ, List.getElem_toArray, List.getElem_cons_succ, List.getElem_cons_zero]
  refine wpAnyH_take (i := 8) (v := (.int .u64 (D0 : Nat))) rfl (by kernel_rfl) (by kernel_rfl) (by kernel_rfl) (fun _ _ _ h => h) (Or.inl ⟨by rfl, ?hy7⟩) hHeld ?rr7
  case hy7 => (intro w' hSw; obtain ⟨⟨q1, q2, q3⟩, q4, q5⟩ := hSw; have q1 := (cells_of_heap q1).1; have q2 := (cells_of_heap q2).1; have q3 := (cells_of_heap q3).1; have q4 := (cells_of_heap q4).1 0; go_simp; try with_reducible rfl)
  try simp only [Act.put, List.setIfInBounds_toArray, List.set_cons_zero, List.set_cons_succ, List.getElem_toArray, List.getElem_cons_succ, List.getElem_cons_zero]
  have HHld := Lib.hid hHeld
  refine wpAnyH_done (by kernel_rfl) ?_ _
  clear hHeld
  refine NoPanic.normal ?_
  gi_wp2_with fail
  let C : Nat → Prop := fun k => k = pw ∨ k = ps ∨ k = pd ∨ k = 1 ∨ k = 2
  have hC : ∀ k, C k → k < W.heap.size := fun k hk => by rcases hk with rfl | rfl | rfl | rfl | rfl <;> assumption
  have HC := Lib.hid hC
  have HJ := Lib.hid hJ
  have HJx := Lib.hid hJx
  have HY := Lib.hid hY
  have HTz := Lib.hid hTW
  have HKw := Lib.hid kpw
  have HKs := Lib.hid kps
  have hz9 : W.heap.size + 2 ≤ w9.heap.size := by have h1 := HZ0.out; have h2 := HB9.out.size; have h3 : V0.drew.heap.size = V0.heap.size := rfl; omega
  refine wpIn_loop_ghost (MidI false s l pd pw ps W C J M) f0 ?start ?round
  case start =>
    obtain ⟨_, h5, h4⟩ := HHld.out
    refine ⟨[], y * 12 + mo - 1, D0, 0, w9.heap.size, [], by omega, by omega, HDI.out, by omega, by omega, hf0, by rw [HMM.out]; rfl, ?_, Below.movedNew ((HB8.out.alloc HB8.out.size _)), heap_old _ (heap_lt h4) h4, heap_old _ (heap_lt h5) h5, heap_new w9 _, hz9, fun D h => by simp at h, List.nodup_nil, _, _, _, _, _, _, _, _, _, _, _, _, _, _, _, _, _, _, _, _, _, _, _, _, _, _, _, _, _, _, _, _, _, _, _, _, _, _, _, _, _, _, _, _, _, _, rfl⟩
    refine hJ.turn h0 (fun _ h => h.elim) ((Below.movedNew ((HB8.out.alloc HB8.out.size _)))) (fun k hk => ?_) (fun k hk => ?_)
    · rw [World.size_alloc]
      rcases hk with rfl | rfl | rfl | hk
      · omega
      · omega
      · omega
      · simp at hk
    · rcases hk with rfl | rfl | rfl | hk
      · exact .inr (Nat.le_refl _)
      · exact .inr (by omega)
      · exact .inr (by omega)
      · simp at hk
  clear hJ hJx hY hTW kpw kps kpd hC h0 hf0 HHld HMM HDI HB9 HB8 HSi hz9 HZ0 HK0
  case round =>
    intro f a X hI
    obtain ⟨pre, m, days, e, b7, Ds, hm11, hm12, hDI, he0, he1, hfuel, htot, hJX, hMX, x4, x5, x7, hb7, hDs, hnd, u8, u9, u10, u11, u12, u13, u14, u15, u16, u17, u18, u19, u20, u21, u22, u23, u24, u25, u26, u27, u28, u29, u30, u31, u32, u33, u34, u35, u36, u37, u38, u39, u40, u41, u42, u43, u44, u45, u46, u47, u48, u49, u50, u51, u52, u53, rfl⟩ := hI
    have zX := hMX.size
    have c5 := cell_of_row X (W.heap.size + 1) 0 _ _ _ x5
    have c7 := cell_of_row X b7 0 _ _ _ x7
    have hownX : OwnO W.heap.size (fun k => k = W.heap.size ∨ k = W.heap.size + 1 ∨ k = b7 ∨ k ∈ Ds) X := fun k hk => by
      rcases hk with rfl | rfl | rfl | hk
      · exact ⟨Nat.le_refl _, heap_lt x4⟩
      · exact ⟨by omega, heap_lt x5⟩
      · exact ⟨by omega, heap_lt x7⟩
      · exact ⟨by have := (hDs k hk).1; omega, heap_lt (hDs k hk).2⟩
    have HJX := Lib.hid hJX
    have HMX := Lib.hid hMX
    have HX4 := Lib.hid x4
    have HX5 := Lib.hid x5
    have HX7 := Lib.hid x7
    have HDs := Lib.hid hDs
    have HND := Lib.hid hnd
    have HOX := Lib.hid hownX
    have HTot := Lib.hid htot
    have HFu := Lib.hid hfuel
    have HDI := Lib.hid hDI
    clear hJX hMX x4 x5 x7 hDs hnd hownX htot hfuel hDI
    by_cases hgd : e ≤ 4800 ∧ 12 ≤ m ∧ m ≤ 119999
    · obtain ⟨g1, g2, g3⟩ := hgd
      obtain ⟨f, rfl⟩ : ∃ f', f = f' + 1 := by
        cases f with
        | zero => exfalso; have h9 := HFu.out; simp only [Fuel, if_true, Bool.false_eq_true, if_false] at h9; omega
        | succ f => exact ⟨f, rfl⟩
      have xw := HMX.out.heap HKw.out (fun hn => hn (.inl rfl))
      have xs := HMX.out.heap HKs.out (fun hn => hn (.inr (.inl rfl)))
      have w0 := (cells_of_heap xw).1
      have hTzX : TzTab X := HTz.out.moved HMX.out (fun hn => hn (.inr (.inr (.inr (.inl rfl)))))
      have htX : Tab X := fun k hk => HMX.out.cell (HTW.out W (Below.refl _ _) k hk) (fun hn => hn (.inr (.inr (.inr (.inr rfl)))))
      have HXw := Lib.hid xw
      have HXs := Lib.hid xs
      have HTzX := Lib.hid hTzX
      have HtX := Lib.hid htX
      clear xw xs hTzX htX
      have hn1 : 1 ≤ n := by omega
      gi_wp2_with (refine ⟨trivial, ?_⟩; gi_at_call 66; refine (callsIn_wide.2 (eachMk_bw _ _)).mono ?_; rintro e w9 ⟨rfl, hw9⟩; rw [hw9]; clear hw9 w9)
      clear w0 c5 c7
      refine at_world (C := fun V => Code.wpIn _ _ _ _ _ _ V) (P := fun V6 => Below X.heap.size X V6 ∧ V6.heap.size = X.heap.size + 2 ∧ V6.heap[X.heap.size]? = some (.cells bwC 45 (0, 0)) ∧ V6.heap[X.heap.size + 1]? = some (.cells #[.int .u64 (days : Nat)] 22 (0, 0)))
        ⟨((below_alloc X _).alloc (by simp) _), by simp, heap_old _ (by simp) (heap_new X _), by
          have h8 := heap_new (X.alloc (.cells bwC 45)) (.cells #[.int .u64 (days : Nat)] 22)
          rw [World.size_alloc] at h8; exact h8⟩ (fun V6 hV6 => ?_)
      obtain ⟨hB6, z6, v6w, v6s⟩ := hV6
      have hl4 := heap_lt HX4.out
      have hl5 := heap_lt HX5.out
      have hl7 := heap_lt HX7.out
      let Q : Nat → Prop := fun k => k = W.heap.size ∨ k = W.heap.size + 1 ∨ k = b7 ∨ k ∈ Ds ∨ k = X.heap.size ∨ k = X.heap.size + 1
      let K : Nat → Prop := fun k => C k ∨ k = W.heap.size ∨ k = W.heap.size + 1 ∨ k ∈ Ds ∨ k = X.heap.size
      let f2 : List Nat → List Int := fun pre2 => pre ++ pre2.map (midA m)
      have hQ : ∀ k, Q k → W.heap.size ≤ k ∧ k < V6.heap.size := fun k hk => by
        rcases hk with rfl | rfl | rfl | hk | rfl | rfl
        · omega
        · omega
        · omega
        · have := HOX.out k (.inr (.inr (.inr hk))); omega
        · omega
        · omega
      have hK : ∀ k, K k → k < V6.heap.size := fun k hk => by
        rcases hk with hk | rfl | rfl | hk | rfl
        · have := HC.out k hk; omega
        · omega
        · omega
        · have := HOX.out k (.inr (.inr (.inr hk))); omega
        · omega
      have m6 : Moved (fun _ => False) X V6 := Below.movedNew hB6
      have HM6 := Lib.hid m6
      have y64 : V6.heap[W.heap.size]? = _ := m6.heap HX4.out (fun h => h)
      have y65 : V6.heap[W.heap.size + 1]? = _ := m6.heap HX5.out (fun h => h)
      have y67 : V6.heap[b7]? = _ := m6.heap HX7.out (fun h => h)
      have H64 := Lib.hid y64
      have H65 := Lib.hid y65
      have H67 := Lib.hid y67
      have HKK := Lib.hid hK
      have HQQ := Lib.hid hQ
      have hb74 : ¬ b7 = W.heap.size := by omega
      have hb75 : ¬ b7 = W.heap.size + 1 := by omega
      have hbC : ¬ C b7 := fun h => by have := HC.out _ h; omega
      have hbD : b7 ∉ Ds := fun h => by
        have h1 := (HDs.out _ h).2
        rw [HX7.out] at h1; cases h1
      have hbK : Hid (¬ K b7) := Lib.hid (fun h => by
        rcases h with h | h | h | h | h
        · exact hbC h
        · exact hb74 h
        · exact hb75 h
        · exact hbD h
        · omega)
      have HBC := Lib.hid hbC
      have hI6 : AbidesO V6.heap.size (fun O (pre2 : List Nat) Y => Mine J Q K V6 f2 O pre2 Y ∧ Y.heap[b7]? = some (.cells #[.int .i64 (if pre2 = [] then e else 0)] 3 (0, 0))) := fun O O' p A B hh hs =>
        ⟨mine_abides HJ.out (by omega) hQ hK O O' p A B hh.1 hs, hs.moved.heap hh.2 (fun ho => by have := (hs.own _ ho).1; omega)⟩
      have hX6 := fun c => minex_abides (α := Nat) (Q := Q) (K := K) (V := V6) (M := M) HJx.out (by omega) hQ hK c
      have hJ6 : J Q pre V6 := HJ.out.turn HJX.out HOX.out (m6.weaken (fun _ _ h => h.elim)) hQ (fun k hk => by
        rcases hk with h | h | h | h | h | h
        · exact .inl (.inl h)
        · exact .inl (.inr (.inl h))
        · exact .inl (.inr (.inr (.inl h)))
        · exact .inl (.inr (.inr (.inr h)))
        · exact .inr (by omega)
        · exact .inr (by omega))
      have hI60 : Mine J Q K V6 f2 (fun _ => False) [] V6 ∧ V6.heap[b7]? = some (.cells #[.int .i64 (if ([] : List Nat) = [] then e else 0)] 3 (0, 0)) :=
        ⟨⟨by simp only [f2, List.map_nil, List.append_nil]; exact HJ.out.turn hJ6 (fun k hk => hQ k hk) (Moved.refl _ _) (fun k hk => by rcases hk with hk | hk; exact hk.elim; exact hQ k hk) (fun k hk => by rcases hk with hk | hk; exact hk.elim; exact .inl hk), Moved.refl _ _⟩, by simpa using y67⟩
      have HSplit : Hid (pre ++ (vals false days).map (midA m) ++ midL false s f (m + (-1)) (mdays s (m + (-1))) ((if vals false days = [] then e else 0) + 1) = M) := Lib.hid (by
        have h9 := HTot.out
        simp only [midL] at h9
        rw [if_pos ⟨g1, g2, g3⟩, ← List.append_assoc] at h9
        exact h9)
      clear hQ hK m6 y64 y65 y67 hJ6
      refine wpIn_rangeFunc_O rfl hn1 (gf := 76) (lb := #[ptrV (X.heap.size + 1), ptrV X.heap.size]) rfl trivial (enters_of Tryd.func76 (by kernel_rfl) rfl)
        (each_bw (n - 1) (by omega) days HDI.out.1 (X.heap.size + 1) X.heap.size V6 (by omega) (by omega) (cell_of_row _ _ 0 _ _ _ v6s) (cell_of_row _ _ 1 _ _ _ v6w) (HTzX.out.moved HM6.out (fun h => h))) (Below.refl _ _) (fun k hk => by
          rcases hk with rfl | rfl
          · omega
          · have := HC.out _ (.inr (.inr (.inr (.inl rfl)))); omega) (fun _ => rfl)
        (fun O (pre2 : List Nat) Y => Mine J Q K V6 f2 O pre2 Y ∧ Y.heap[b7]? = some (.cells #[.int .i64 (if pre2 = [] then e else 0)] 3 (0, 0))) (fun c O _ Y => MineX Jx Q K V6 M c O Y) hI6 hX6 hI60 ?hround ?hdone ?hstop
      clear hI6 hX6 hI60 v6w v6s
      case hround =>
        intro l2 O2 pre2 v Y hOl2 hO2 hI2 hpre2
        obtain ⟨⟨hJ2, hM2⟩, h7⟩ := hI2
        have hv := HDI.out.2 v (mem_vals.1 (prefix_mem hpre2)).2
        have hv64 := (mem_vals.1 (prefix_mem hpre2)).1
        have HO2 := Lib.hid hO2
        have HP2 := Lib.hid hpre2
        have HJ2 := Lib.hid hJ2
        have HM2 := Lib.hid hM2
        have HOl2 := Lib.hid hOl2
        have H7 := Lib.hid h7
        clear hO2 hpre2 hJ2 hM2 hOl2 h7
        simp only [List.zip_toArray, List.zip_cons_cons, List.zip_nil_left, List.zip_nil_right, List.size_toArray, List.length_cons, List.length_nil, List.foldl_toArray', List.foldl_cons, List.foldl_nil, List.setIfInBounds_toArray, List.set_cons_succ, List.set_cons_zero]
        gi_wp2_with fail
        refine ⟨Moved.refl _ Y, fun r2 Y3 hY3 => ?_⟩
        have mY : Moved (fun k => k = l2) Y Y3 := by rw [hY3]; exact moved_putObjO _ _ rfl
        clear hY3
        have hl2 := HO2.out _ HOl2.out
        have zM2 := HM2.out.size
        have zY3 := mY.size
        have y7 := mY.heap H7.out (fun h => by omega)
        have hfr := (cells_of_heap y7).2 0
        have hc7 := cell_of_row Y3 b7 0 _ _ _ y7
        have HY7 := Lib.hid y7
        have HMY := Lib.hid mY
        clear y7 mY
        gi_wp2_with fail
        refine at_world (C := fun V => Code.wpIn _ _ _ _ _ _ V) (P := fun Y8 => Moved (fun k => k = b7) Y3 Y8 ∧ Y8.heap[b7]? = some (.cells #[.int .i64 0] 3 (0, 0)))
          ⟨Moved.setCell (p := fun k => k = b7) (Moved.refl _ _) (.inr rfl) _, heap_set HY7.out 0 (.int .i64 0)⟩ (fun Y8 hY8 => ?_)
        obtain ⟨m8, y87⟩ := hY8
        have m68 : Moved (fun k => ¬ K k) V6 Y8 := (HM2.out.trans HMY.out (fun k hk e hn => by have := HKK.out k hn; omega)).trans m8 (fun k hk e hn => hbK.out (e ▸ hn))
        have y84 := cell_of_row Y8 W.heap.size 0 _ _ _ (m68.heap H64.out (fun hn => hn (.inr (.inl rfl))))
        have y85 := cell_of_row Y8 (W.heap.size + 1) 0 _ _ _ (m68.heap H65.out (fun hn => hn (.inr (.inr (.inl rfl)))))
        have t8 : Tab Y8 := fun k hk => m68.cell ((HM6.out.cell (HtX.out k hk) (fun h => h))) (fun hn => hn (.inl (.inr (.inr (.inr (.inr rfl))))))
        have hown : OwnO W.heap.size (fun k => O2 k ∨ Q k) Y := fun k hk => by
          rcases hk with hk | hk
          · have := HO2.out k hk; omega
          · have := HQQ.out k hk; omega
        have hown8 : OwnO W.heap.size (fun k => O2 k ∨ Q k) Y8.drew := fun k hk => by have h1 := hown k hk; have h2 := m8.size; exact ⟨h1.1, show k < Y8.heap.size by omega⟩
        have hJ8 : J (fun k => O2 k ∨ Q k) (f2 pre2) Y8.drew := HJ.out.turn HJ2.out hown (((HMY.out.weaken (fun k _ e => .inl (e ▸ HOl2.out))).trans m8 (fun k _ e => .inr (.inr (.inr (.inl e))))).drew) hown8 (fun k hk => .inl hk)
        have hpf : f2 pre2 ++ [midA m v] <+: M := by
          have h1 := map_prefix (f := midA m) HP2.out
          rw [List.map_append] at h1
          obtain ⟨r, hr⟩ := h1
          exact ⟨r ++ midL false s f (m + (-1)) (mdays s (m + (-1))) ((if vals false days = [] then e else 0) + 1), by rw [← HSplit.out, ← hr]; simp [f2, List.append_assoc]⟩
        obtain ⟨fn, tmps, assign, body, hy, hR⟩ := ((HY.out (fun k => O2 k ∨ Q k) (f2 pre2) (midA m v) Y8.drew hown8 hJ8 hpf).deep (l0 := l2) (m' := n - 1 - 1 - 1)).mono (R' := fun e W' => ∃ b : Bool, e = .returned (.bool b) ∧ (b = true → J (fun k => O2 k ∨ Q k) (f2 pre2 ++ [midA m v]) W') ∧ (b = false → Jx (fun k => O2 k ∨ Q k) (f2 pre2 ++ [midA m v]) W') ∧ Moved (fun k => ¬ (O2 k ∨ Q k) ∧ ¬ C k) Y8.drew W') (fun e W' h9 => by
          obtain ⟨h9 | h9, h10⟩ := h9
          · exact ⟨true, h9.1, (fun _ => h9.2), (fun h => nomatch h), h10⟩
          · exact ⟨false, h9.1, (fun h => nomatch h), (fun _ => h9.2), h10⟩)
        have HR := Lib.hid hR
        have HPf := Lib.hid hpf
        have HM68 := Lib.hid m68
        have HM8 := Lib.hid m8
        have H87 := Lib.hid y87
        have HMid := Lib.hid (midnight_any m v g2 g3 hv.1 hv.2 Y8.drew t8)
        have HT8 := Lib.hid t8
        have hmx : Tryd.prog.follows .mixedOrders = true := by kernel_rfl
        have hn3 : 1 ≤ n - 1 - 1 := by omega
        have hv1 := hv.1
        clear hR hpf m68 m8 y87 hJ8 hown hown8 t8 hfr hc7 hl2 zM2 zY3 hv
        gi_region_with_o (first | (refine ⟨trivial, ?_⟩; gi_at_call 67; refine (CallsIn.inRound l2 (callsIn_wide.2 HMid.out)).mono ?_; rintro e w9 ⟨rfl, hw9⟩; rw [hw9]; clear hw9 w9) | (refine HR.out.mono ?_; rintro e Y4 ⟨b, rfl, hb⟩))
        all_goals
          obtain ⟨hbt, hbf, hM4⟩ := hb
          have mR : Moved (fun k => ¬ O2 k ∧ ¬ (k = X.heap.size ∨ k = 1)) Y3 Y4 := (HM8.out.weaken (q := fun k => ¬ O2 k ∧ ¬ (k = X.heap.size ∨ k = 1)) (fun k _ e => by
            subst e
            refine ⟨fun h => by have := (HO2.out _ h).1; omega, fun h => ?_⟩
            rcases h with h | h
            · omega
            · exact HBC.out (.inr (.inr (.inr (.inl h)))))).drew.trans hM4 (fun k _ hk => ⟨fun h => hk.1 (.inl h), fun h => by
            rcases h with h | h
            · exact hk.1 (.inr (.inr (.inr (.inr (.inr (.inl h))))))
            · exact hk.2 (.inr (.inr (.inr (.inl h))))⟩)
          have mV4 : Moved (fun k => ¬ K k) V6 Y4 := HM68.out.drew.trans hM4 (fun k _ hk hn => by
            rcases hn with h | h | h | h | h
            · exact hk.2 h
            · exact hk.1 (.inr (.inl h))
            · exact hk.1 (.inr (.inr (.inl h)))
            · exact hk.1 (.inr (.inr (.inr (.inr (.inl h)))))
            · exact hk.1 (.inr (.inr (.inr (.inr (.inr (.inl h))))))) 
          have y74 : Y4.heap[b7]? = some (.cells #[.int .i64 0] 3 (0, 0)) := hM4.heap (show Y8.drew.heap[b7]? = _ from H87.out) (fun hn => hn.1 (.inr (.inr (.inr (.inl rfl)))))
          have hne : (if pre2 ++ [v] = [] then e else 0) = 0 := if_neg (by simp)
          have hfs : f2 pre2 ++ [midA m v] = f2 (pre2 ++ [v]) := by simp [f2, List.append_assoc]
          have HMR := Lib.hid mR
          have HMV4 := Lib.hid mV4
          have H74 := Lib.hid y74
          have HNe := Lib.hid hne
          have HFs := Lib.hid hfs
          have Hbt := Lib.hid hbt
          have Hbf := Lib.hid hbf
          clear mR mV4 y74 hne hfs hbt hbf hM4
          cases b
          · gi_wp2_with fail
            exact ⟨HMR.out, rfl, ⟨_, HPf.out, Hbf.out trivial⟩, HMV4.out⟩
          · gi_wp2_with fail
            exact ⟨HMR.out, ⟨HFs.out ▸ Hbt.out trivial, HMV4.out⟩, by rw [HNe.out]; exact H74.out⟩
      case hdone =>
        rintro D O Y hD hOD hO ⟨⟨hJ2, hM2⟩, h7⟩ hKd
        have zM2 := hM2.size
        have hown : OwnO W.heap.size (fun k => O k ∨ Q k) Y := fun k hk => by
          rcases hk with hk | hk
          · have := hO k hk; omega
          · have := HQQ.out k hk; omega
        have y4 := hM2.heap H64.out (fun hn => hn (.inr (.inl rfl)))
        have y5 := hM2.heap H65.out (fun hn => hn (.inr (.inr (.inl rfl))))
        have yw := hM2.heap (HM6.out.heap HXw.out (fun h => h)) (fun hn => hn (.inl (.inl rfl)))
        have ys := hM2.heap (HM6.out.heap HXs.out (fun h => h)) (fun hn => hn (.inl (.inr (.inl rfl))))
        have c0 := cell_of_row Y pw 0 _ _ _ yw
        have c5 := cell_of_row Y (W.heap.size + 1) 0 _ _ _ y5
        have f5 := (cells_of_heap y5).2 0
        have hl5 := heap_lt y5
        have HJ2 := Lib.hid hJ2
        have HM2 := Lib.hid hM2
        have H7 := Lib.hid h7
        have HKd := Lib.hid hKd
        have HO := Lib.hid hO
        have HOw := Lib.hid hown
        have HY4 := Lib.hid y4
        have HY5 := Lib.hid y5
        have HYs := Lib.hid ys
        clear hJ2 hM2 h7 hKd hO hown y4 y5 yw ys
        have m10 : ∀ v, Moved (fun k => k = W.heap.size + 1) Y (Y.setCell ⟨W.heap.size + 1, 0, none⟩ v) := fun v => Moved.setCell (p := fun k => k = W.heap.size + 1) (Moved.refl _ _) (.inr rfl) v
        have HM10 := Lib.hid m10
        have cS : ∀ v i, (Y.setCell ⟨W.heap.size + 1, 0, none⟩ v).cell? ⟨ps, i, none⟩ = (specC s.mi s.ho s.da s.mo s.we s.ad s.aw)[i]? := fun v => (cells_of_heap ((m10 v).heap HYs.out (fun h => by omega))).1
        have cM : ∀ v, (Y.setCell ⟨W.heap.size + 1, 0, none⟩ v).cell? ⟨W.heap.size + 1, 0, none⟩ = some v := fun v => cell_of_row _ _ 0 _ _ _ (heap_set HY5.out 0 v)
        have HTM : Hid (∀ v, Tab (Y.setCell ⟨W.heap.size + 1, 0, none⟩ v)) := Lib.hid (fun v k hk => (m10 v).cell (HM2.out.cell (HM6.out.cell (HtX.out k hk) (fun h => h)) (fun hn => hn (.inl (.inr (.inr (.inr (.inr rfl))))))) (fun h => by have h9 : 2 = W.heap.size + 1 := h; omega))
        have HMn := Lib.hid (fun V hV => monthDays_any s hs (m + (-1)) (by omega) (by omega) V hV)
        have HDn := Lib.hid (mdays_in s (m + (-1)))
        have HSp := Lib.hid HSplit.out
        have he2 : ∃ e2 : Int, e2 = (if vals false days = [] then e else 0) := ⟨_, rfl⟩
        obtain ⟨e2, he2⟩ := he2
        have hb2 : 0 ≤ e2 ∧ e2 ≤ 4800 := by rw [he2]; split <;> omega
        obtain ⟨hb20, hb21⟩ := hb2
        rw [← he2] at H7 HSp
        clear m10 he2 HSplit
        gi_wp2_with (refine ⟨trivial, ?_⟩; gi_at_call 53; refine (callsIn_wide.2 (HMn.out _ (HTM.out _))).mono ?_; rintro e w9 ⟨rfl, hb9⟩; have w97 := (hb9.block _ (by simpa using heap_lt H7.out)).trans ((HM10.out _).heap H7.out (fun h => hb75 h)); have c97 := cell_of_row w9 b7 0 _ _ _ w97; have HB9 := Lib.hid hb9; clear hb9 w97)
        have hB9 := HB9.out
        have zB9 := hB9.size
        simp at zB9
        have mYf : Moved (fun k => k = W.heap.size + 1) Y (w9.alloc (.cells #[.int .i64 (e2 + 1)] 3)) := ((HM10.out _).trans (Below.movedNew (p := fun _ => False) hB9) (fun _ _ h => h.elim)).alloc _
        have hlD := heap_lt HKd.out
        refine ⟨f, by omega, pre ++ (vals false days).map (midA m), m + (-1), mdays s (m + (-1)), e2 + 1, w9.heap.size, D :: Ds, by omega, by omega, HDn.out, by omega, by omega, ?_, HSp.out, ?_, ?_, mYf.heap HY4.out (fun h => by omega), heap_old _ (by omega) ((hB9.block _ (by simpa using hl5)).trans (heap_set HY5.out 0 _)), heap_new w9 _, by omega, ?_, ?_, _, _, _, _, _, _, _, _, _, _, _, _, _, _, _, _, _, _, _, _, _, _, _, _, _, _, _, _, _, _, _, _, _, _, _, _, _, _, _, _, _, _, _, _, _, _, rfl⟩
        · have h9 := HFu.out
          simp only [Fuel, if_true, Bool.false_eq_true, if_false] at h9 ⊢; omega
        · refine HJ.out.turn HJ2.out HOw.out (mYf.weaken (fun k _ e => .inr (.inr (.inl e)))) (fun k hk => ?_) (fun k hk => ?_)
          · rw [World.size_alloc]
            rcases hk with rfl | rfl | rfl | hk
            · omega
            · omega
            · omega
            · rcases List.mem_cons.1 hk with rfl | hk
              · omega
              · have := HOX.out k (.inr (.inr (.inr hk))); omega
          · rcases hk with h | h | h | hk
            · exact .inl (.inr (.inl h))
            · exact .inl (.inr (.inr (.inl h)))
            · exact .inr (by omega)
            · rcases List.mem_cons.1 hk with rfl | hk
              · exact .inl (.inl hOD)
              · exact .inl (.inr (.inr (.inr (.inr (.inl hk)))))
        · exact ((HMX.out.trans HM6.out (fun _ _ h => h.elim)).trans HM2.out (fun k _ h hn => h (.inl hn))).trans mYf (fun k hk e hn => by have := HC.out k hn; omega)
        · intro E hE
          rcases List.mem_cons.1 hE with rfl | hE
          · exact ⟨by omega, mYf.heap HKd.out (fun h => by omega)⟩
          · have h1 := HDs.out E hE
            exact ⟨h1.1, mYf.heap (HM2.out.heap (HM6.out.heap h1.2 (fun h => h)) (fun hn => hn (.inr (.inr (.inr (.inl hE)))))) (fun h => by omega)⟩
        · exact List.nodup_cons.2 ⟨fun h => by have := HOX.out D (.inr (.inr (.inr h))); omega, HND.out⟩
      case hstop =>
        rintro D c O pre2 Y hD hOD hO hpre2 ⟨rfl, ⟨q, hq, hx⟩, hM2⟩ hKd
        have hown : OwnO W.heap.size (fun k => O k ∨ Q k) Y := fun k hk => by
          have zM2 := hM2.size
          rcases hk with hk | hk
          · have := hO k hk; omega
          · have := HQQ.out k hk; omega
        have HOw := Lib.hid hown
        have HJ2 := Lib.hid hx
        have HM2 := Lib.hid hM2
        have HKd := Lib.hid hKd
        have HQq := Lib.hid hq
        clear hx hM2 hKd hq hO hown
        gi_wp2_with fail
        refine leaves_marks (D :: Ds) Y (List.nodup_cons.2 ⟨fun h => by have := HOX.out D (.inr (.inr (.inr h))); omega, HND.out⟩) (fun E hE => ?_) (fun w' hm => ?_)
        · rcases List.mem_cons.1 hE with rfl | hE
          · exact HKd.out
          · exact HM2.out.heap (HM6.out.heap (HDs.out E hE).2 (fun h => h)) (fun hn => hn (.inr (.inr (.inr (.inl hE)))))
        · have hmm : Moved (fun k => O k ∨ Q k) Y w' := hm.weaken (fun k _ hk => by
            rcases List.mem_cons.1 hk with rfl | hk
            · exact .inl hOD
            · exact .inr (.inr (.inr (.inr (.inl hk)))))
          have hown' : OwnO W.heap.size (fun k => O k ∨ Q k) w' := fun k hk => by have := HOw.out k hk; have := hm.size; omega
          have hfin := HJx.out.turn HJ2.out HOw.out hmm hown' (fun k hk => .inl hk)
          refine ⟨_, results_none rfl _ _ _, ⟨_, rfl⟩, .inr ?_⟩
          first | exact ⟨fun k => O k ∨ Q k, q, hown', HQq.out, hfin⟩ | exact ⟨fun k => O k ∨ Q k, hown', q, HQq.out, hfin⟩
    · have hend : midL false s f m days e = [] := by
        cases f with
        | zero => rfl
        | succ f => simp only [midL]; rw [if_neg hgd]
      have HE := Lib.hid hend
      clear hend
      have h3 : 4800 < e ∨ (e ≤ 4800 ∧ m < 12) ∨ (e ≤ 4800 ∧ 12 ≤ m ∧ 119999 < m) := by omega
      clear hgd
      rcases h3 with h3 | ⟨h3, h4⟩ | ⟨h3, h4, h5⟩
      all_goals
        gi_wp2_with fail
        refine leaves_marks Ds X HND.out (fun D h => (HDs.out D h).2) (fun w' hm => ?_)
        have h9 := HTot.out
        rw [HE.out, List.append_nil] at h9
        refine ⟨_, results_none rfl _ _ _, ⟨_, rfl⟩, .inl ⟨fun k => k = W.heap.size ∨ k = W.heap.size + 1 ∨ k = b7 ∨ k ∈ Ds, fun k hk => ?_, ?_⟩⟩
        · have := HOX.out k hk; have := hm.size; omega
        · rw [← h9]
          exact HJ.out.turn HJX.out HOX.out (hm.weaken (fun k _ hk => .inr (.inr (.inr hk)))) (fun k hk => by have := HOX.out k hk; have := hm.size; omega) (fun k hk => .inl hk)
end Go.Proofs.YtnijneajlmgkjaaDoor
