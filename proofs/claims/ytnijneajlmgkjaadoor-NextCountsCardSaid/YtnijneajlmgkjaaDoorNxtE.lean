/- The iterator over a day's seconds, on both ways. -/
import Derived.Test.YtnijneajlmgkjaaDoorNxtD
import Derived.Test.YtnijneajlmgkjaaDoorNxtE0
set_option linter.unusedSimpArgs false
set_option linter.unusedVariables false
namespace Go.Proofs.YtnijneajlmgkjaaDoor
open Go.ChangeShapes Go.WideShapes Go.ChangeAt Go.RowKit Go.Base Go.Civ Go.Nxt Go.Shelf
attribute [local go_sem] Oper.semAt_some
abbrev specC (mi ho da mo we : Int) (ad aw : Bool) : Array Value := #[.int .u64 mi, .int .u64 ho, .int .u64 da, .int .u64 mo, .int .u64 we, .bool ad, .bool aw]
/-- What three blocks hold. -/
abbrev Hold3 (pw ps pd : Nat) (cw cs cd : Array Value) (V : World) : Prop := V.heap[pw]? = some (.cells cw 45 (0, 0)) ∧ V.heap[ps]? = some (.cells cs 24 (0, 0)) ∧ V.heap[pd]? = some (.cells cd 43 (0, 0))
theorem Hold3.below {pw ps pd : Nat} {cw cs cd : Array Value} {V V' : World} (h : Hold3 pw ps pd cw cs cd V) (hb : Below V.heap.size V V') : Hold3 pw ps pd cw cs cd V' :=
  ⟨(hb.block _ (heap_lt h.1)).trans h.1, (hb.block _ (heap_lt h.2.1)).trans h.2.1, (hb.block _ (heap_lt h.2.2)).trans h.2.2⟩

set_option maxRecDepth 100000 in
set_option maxHeartbeats 4000000 in
theorem clock_fw (n : Nat) (hn : 9 ≤ n) (M H fh fm : Nat) (da mo we : Int) (ad aw : Bool) (y m d sc wk : Int) (hM : M < 18446744073709551616) (hH : H < 18446744073709551616) (hfh : fh ≤ 62) (hfm : fm ≤ 62) (pw ps pd : Nat) (w : World)
    (hpw : w.heap[pw]? = some (.cells fwC 45 (0, 0))) (hps : w.heap[ps]? = some (.cells (specC M H da mo we ad aw) 24 (0, 0))) (hpd : w.heap[pd]? = some (.cells (dateC y m d fh fm sc wk) 43 (0, 0))) (hT : TzTab w) (hg : 1 < w.heap.size) :
    SeqO Fence.wide n Tryd.prog 68 #[ptrV pw, ptrV ps, ptrV pd] (fun x : Int => #[.int .i64 x])
      (fun k => k = pw ∨ k = ps ∨ k = pd ∨ k = 1) (clockL true H M fh fm) w := fun l J Jx W hWb hJ hJx hY h0 => by
  refine callsIn_of_wp_marks Tryd.func68 rfl trivial ?_ rfl
  simp only [Tryd.ntmps68, List.size_toArray, List.length_cons, List.length_nil, Nat.reduceAdd, Nat.reduceSub, Array.replicate_succ, Array.replicate_zero, List.push_toArray, List.append_toArray, List.nil_append, List.cons_append]
  have hbW : ∀ {k : Nat} {o : Obj}, w.heap[k]? = some o → W.heap[k]? = some o := fun h => (hWb.block _ (heap_lt h)).trans h
  have kpw := hbW hpw
  have kps := hbW hps
  have kpd := hbW hpd
  have hTW : TzTab W := hT.later hWb
  have hgW : 1 < W.heap.size := Nat.lt_of_lt_of_le hg hWb.size
  have lpw := heap_lt kpw
  have lps := heap_lt kps
  have lpd := heap_lt kpd
  clear hpw hps hpd hT hg hbW
  gi_wp2_with fail
  have hS0 : Hold3 pw ps pd fwC (specC M H da mo we ad aw) (dateC y m d fh fm sc wk) (W.alloc (.cells #[.func (.yield l) #[] #[]] 66)).drew :=
    ⟨heap_old _ lpw kpw, heap_old _ lps kps, heap_old _ lpd kpd⟩
  have HSi := Lib.hid (fun V => fwSince_any H fh hH (by omega) V)
  have HSl : Hid (since true H fh < 18446744073709551616) := Lib.hid (since_lt hH)
  refine wpIn_mono ?_ NoPanic.imp
  refine wpIn_region_heldW (S := Hold3 pw ps pd fwC (specC M H da mo we ad aw) (dateC y m d fh fm sc wk)) (by kernel_rfl) (by kernel_rfl) (by rintro ⟨_, _, ⟨v, hv⟩, _⟩; cases hv) hS0 (fun hHeld => ?_)
  refine wpAnyH_take (i := 0) (v := fwV) rfl (by kernel_rfl) (by kernel_rfl) (by kernel_rfl) (fun _ _ _ h => h) (Or.inl ⟨by rfl, ?hy1⟩) hHeld ?rr1
  case hy1 => (intro w' hSw; obtain ⟨q1, q2, q3⟩ := hSw; have q1 := (cells_of_heap q1).1; have q2 := (cells_of_heap q2).1; have q3 := (cells_of_heap q3).1; go_simp; try with_reducible rfl)
  try simp only [Act.put, List.setIfInBounds_toArray, List.set_cons_zero, List.set_cons_succ, List.getElem_toArray, List.getElem_cons_succ, List.getElem_cons_zero]
  refine wpAnyH_take (i := 1) (v := (.pointer (some ⟨pw, 2, none⟩))) rfl (by kernel_rfl) (by kernel_rfl) (by kernel_rfl) (fun _ _ _ h => h) (Or.inl ⟨by rfl, ?hy2⟩) hHeld ?rr2
  case hy2 => (intro w' hSw; obtain ⟨q1, q2, q3⟩ := hSw; have q1 := (cells_of_heap q1).1; have q2 := (cells_of_heap q2).1; have q3 := (cells_of_heap q3).1; go_simp; try with_reducible rfl)
  try simp only [Act.put, List.setIfInBounds_toArray, List.set_cons_zero, List.set_cons_succ, List.getElem_toArray, List.getElem_cons_succ, List.getElem_cons_zero]
  refine wpAnyH_take (i := 2) (v := (.func (.func 45) #[] #[])) rfl (by kernel_rfl) (by kernel_rfl) (by kernel_rfl) (fun _ _ _ h => h) (Or.inl ⟨by rfl, ?hy3⟩) hHeld ?rr3
  case hy3 => (intro w' hSw; obtain ⟨q1, q2, q3⟩ := hSw; have q1 := (cells_of_heap q1).1; have q2 := (cells_of_heap q2).1; have q3 := (cells_of_heap q3).1; go_simp; try with_reducible rfl)
  try simp only [Act.put, List.setIfInBounds_toArray, List.set_cons_zero, List.set_cons_succ, List.getElem_toArray, List.getElem_cons_succ, List.getElem_cons_zero]
  refine wpAnyH_take (i := 3) (v := (.pointer (some ⟨ps, 1, none⟩))) rfl (by kernel_rfl) (by kernel_rfl) (by kernel_rfl) (fun _ _ _ h => h) (Or.inl ⟨by rfl, ?hy4⟩) hHeld ?rr4
  case hy4 => (intro w' hSw; obtain ⟨q1, q2, q3⟩ := hSw; have q1 := (cells_of_heap q1).1; have q2 := (cells_of_heap q2).1; have q3 := (cells_of_heap q3).1; go_simp; try with_reducible rfl)
  try simp only [Act.put, List.setIfInBounds_toArray, List.set_cons_zero, List.set_cons_succ, List.getElem_toArray, List.getElem_cons_succ, List.getElem_cons_zero]
  refine wpAnyH_take (i := 4) (v := (.int .u64 H)) rfl (by kernel_rfl) (by kernel_rfl) (by kernel_rfl) (fun _ _ _ h => h) (Or.inl ⟨by rfl, ?hy5⟩) hHeld ?rr5
  case hy5 => (intro w' hSw; obtain ⟨q1, q2, q3⟩ := hSw; have q1 := (cells_of_heap q1).1; have q2 := (cells_of_heap q2).1; have q3 := (cells_of_heap q3).1; go_simp; try with_reducible rfl)
  try simp only [Act.put, List.setIfInBounds_toArray, List.set_cons_zero, List.set_cons_succ, List.getElem_toArray, List.getElem_cons_succ, List.getElem_cons_zero]
  refine wpAnyH_take (i := 5) (v := (.pointer (some ⟨pd, 3, none⟩))) rfl (by kernel_rfl) (by kernel_rfl) (by kernel_rfl) (fun _ _ _ h => h) (Or.inl ⟨by rfl, ?hy6⟩) hHeld ?rr6
  case hy6 => (intro w' hSw; obtain ⟨q1, q2, q3⟩ := hSw; have q1 := (cells_of_heap q1).1; have q2 := (cells_of_heap q2).1; have q3 := (cells_of_heap q3).1; go_simp; try with_reducible rfl)
  try simp only [Act.put, List.setIfInBounds_toArray, List.set_cons_zero, List.set_cons_succ, List.getElem_toArray, List.getElem_cons_succ, List.getElem_cons_zero]
  refine wpAnyH_take (i := 6) (v := (.int .i64 fh)) rfl (by kernel_rfl) (by kernel_rfl) (by kernel_rfl) (fun _ _ _ h => h) (Or.inl ⟨by rfl, ?hy7⟩) hHeld ?rr7
  case hy7 => (intro w' hSw; obtain ⟨q1, q2, q3⟩ := hSw; have q1 := (cells_of_heap q1).1; have q2 := (cells_of_heap q2).1; have q3 := (cells_of_heap q3).1; go_simp; try with_reducible rfl)
  try simp only [Act.put, List.setIfInBounds_toArray, List.set_cons_zero, List.set_cons_succ, List.getElem_toArray, List.getElem_cons_succ, List.getElem_cons_zero]
  refine wpAnyH_ready (rs := [7]) (by kernel_rfl) (by simp) ?_
  refine AllReadyH.cons rfl (fun K hK => ?_) AllReadyH.nil
  try rw [if_pos (by rfl)]
  go_simp
  go_at_call 45
  refine Calls.mono (HSi.out _) ?_
  rintro e w9 ⟨rfl, rfl⟩
  go_wp2_with fail
  refine hK.out _ _ hHeld (fun hHeld2 => ?_)
  clear hK K hHeld
  have hHeld := hHeld2
  clear hHeld2
  try simp only [Act.put, List.setIfInBounds_toArray, List.set_cons_zero, List.set_cons_succ, List.getElem_toArray, List.getElem_cons_succ, List.getElem_cons_zero]
  refine wpAnyH_ready (rs := [8]) (by kernel_rfl) (by simp) ?_
  refine AllReadyH.cons rfl (fun K hK => ?_) AllReadyH.nil
  try rw [if_pos (by rfl)]
  go_simp
  go_at_call 66
  refine Calls.mono (eachMk_fw _ _) ?_
  rintro e w9 ⟨rfl, rfl⟩
  go_wp2_with fail
  refine hK.out _ _ (Hold3.below (V := W.alloc (.cells #[.func (.yield l) #[] #[]] 66)) hHeld (((below_alloc _ _).alloc (by simp) _).drew)) (fun hHeld2 => ?_)
  clear hK K hHeld
  have hHeld := hHeld2
  clear hHeld2
  try simp only [Act.put, List.setIfInBounds_toArray, List.set_cons_zero, List.set_cons_succ, List.getElem_toArray, List.getElem_cons_succ, List.getElem_cons_zero]
  refine wpAnyH_done (by kernel_rfl) ?_ _
  clear hHeld
  refine NoPanic.normal ?_
  -- the world where the outer loop begins
  gi_wp2_with fail
  refine at_world (C := fun V => Code.wpIn _ _ _ _ _ _ V) (P := fun V => Below W.heap.size W V ∧ V.heap.size = W.heap.size + 3 ∧ V.heap[W.heap.size]? = some (.cells #[.func (.yield l) #[] #[]] 66 (0, 0)) ∧ V.heap[W.heap.size + 1]? = some (.cells fwC 45 (0, 0)) ∧ V.heap[W.heap.size + 2]? = some (.cells #[.int .u64 (since true H fh : Nat)] 22 (0, 0)))
    ⟨((((below_alloc W _).alloc (by simp) _).alloc (by simp; omega) _).drew), by simp, heap_old _ (by simp; omega) (heap_old _ (by simp) (heap_new W _)), by
      have h8 := heap_old (.cells #[.int .u64 (since true H fh : Nat)] 22) (by simp) (heap_new (W.alloc (.cells #[.func (.yield l) #[] #[]] 66)) (.cells fwC 45))
      rw [World.size_alloc] at h8; exact h8, by
      have h8 := heap_new ((W.alloc (.cells #[.func (.yield l) #[] #[]] 66)).alloc (.cells fwC 45)) (.cells #[.int .u64 (since true H fh : Nat)] 22)
      rw [World.size_alloc, World.size_alloc] at h8; exact h8⟩ (fun V hV => ?_)
  obtain ⟨hBV, zV, vy, vw, vs⟩ := hV
  have vpw := (hBV.block _ lpw).trans kpw
  have vps := (hBV.block _ lps).trans kps
  have vpd := (hBV.block _ lpd).trans kpd
  have hTV : TzTab V := hTW.later hBV
  clear hS0 kpw kps kpd hTW
  let Q : Nat → Prop := fun k => W.heap.size ≤ k ∧ k < W.heap.size + 3
  let C : Nat → Prop := fun k => k = pw ∨ k = ps ∨ k = pd ∨ k = 1
  let K : Nat → Prop := fun k => C k ∨ Q k
  let f : List Nat → List Int := fun pre => pre.flatMap (minsL true M fh fm)
  have hQ : ∀ k, Q k → W.heap.size ≤ k ∧ k < V.heap.size := fun k hk => ⟨hk.1, by rw [zV]; exact hk.2⟩
  have hK : ∀ k, K k → k < V.heap.size := fun k hk => by
    rcases hk with (rfl | rfl | rfl | rfl) | hk
    · omega
    · omega
    · omega
    · omega
    · exact (hQ k hk).2
  have HJ := Lib.hid hJ
  have HJx := Lib.hid hJx
  have HY := Lib.hid hY
  have HQ := Lib.hid hQ
  have HK := Lib.hid hK
  have HZ := Lib.hid zV
  have HVY := Lib.hid vy
  have HVW := Lib.hid vpw
  have HVS := Lib.hid vps
  have HVD := Lib.hid vpd
  have HTV := Lib.hid hTV
  have HI1 := Lib.hid (mine_abides (Q := Q) (K := K) (V := V) (f := f) hJ (by omega) hQ hK)
  have HX1 := Lib.hid (fun c => minex_abides (α := Nat) (Q := Q) (K := K) (V := V) (M := clockL true H M fh fm) hJx (by omega) hQ hK c)
  have hI0 : Mine J Q K V f (fun _ => False) [] V := ⟨hJ.turn h0 (fun _ h => h.elim) (Moved.weaken (Below.movedNew (p := fun _ => False) hBV) (fun _ _ h => h.elim)) (fun k hk => by
      rcases hk with hk | hk
      · exact hk.elim
      · exact hQ k hk) (fun k hk => by
      rcases hk with hk | hk
      · exact hk.elim
      · exact .inr hk.1), Moved.refl _ _⟩
  refine wpIn_rangeFunc_O rfl (by omega) (gf := 76) (lb := #[ptrV (W.heap.size + 1 + 1), ptrV (W.heap.size + 1)]) rfl trivial (enters_of Tryd.func76 (by kernel_rfl) rfl)
    (each_fw (n - 1) (by omega) _ HSl.out (W.heap.size + 1 + 1) (W.heap.size + 1) V (by omega) (by omega) (cell_of_row _ _ 0 _ _ _ vs) (cell_of_row _ _ 1 _ _ _ vw) hTV) (Below.refl _ _) (fun k hk => by
      rcases hk with rfl | rfl
      · omega
      · omega) (fun _ => rfl)
    (Mine J Q K V f) (fun c O _ X => MineX Jx Q K V (clockL true H M fh fm) c O X) HI1.out HX1.out hI0 ?hround ?hdone ?hstop
  clear hJ hJx hY hQ hK vy vw vs vpw vps vpd hTV hI0 h0
  case hround =>
    intro l1 O1 pre h X hOl hO1 hI hpre
    obtain ⟨hJ1, hM1⟩ := hI
    have hmem : h < 64 := (mem_vals.1 (prefix_mem hpre)).1
    have HJ1 := Lib.hid hJ1
    have HM1 := Lib.hid hM1
    have HO1 := Lib.hid hO1
    have HOl := Lib.hid hOl
    have HP1 := Lib.hid hpre
    have zX := hM1.size
    have HZX : Hid (W.heap.size + 3 ≤ X.heap.size) := Lib.hid (by omega)
    clear hJ1 hM1 hO1 hOl hpre zX
    simp only [List.zip_toArray, List.zip_cons_cons, List.zip_nil_left, List.zip_nil_right, List.size_toArray, List.length_cons, List.length_nil, List.foldl_toArray', List.foldl_cons, List.foldl_nil, List.setIfInBounds_toArray, List.set_cons_succ, List.set_cons_zero]
    gi_wp2_with fail
    refine ⟨(Moved.refl _ X).alloc _, fun r X3 hX3 => ?_⟩
    have hl1X : l1 < X.heap.size := (HO1.out l1 HOl.out).2
    have z3 : X3.heap.size = X.heap.size + 1 := by rw [hX3]; simp [World.putObj]
    have m3 : Moved O1 X X3 := by
      rw [hX3]; exact ((Moved.refl _ X).alloc _).trans (moved_putObjO _ _ HOl.out) (fun _ _ h => h)
    have x5 : X3.heap[X.heap.size]? = some (.cells #[.int .i64 h] 3 (0, 0)) := by
      rw [hX3]; exact (World.putObj_heap_other (by omega)).trans (heap_new X _)
    have xl : X3.heap[l1]? = some (.loop r) := by
      rw [hX3]; exact World.putObj_heap_same (by simp; omega)
    clear hX3 hl1X
    have mV : Moved (fun k => ¬ K k) V X3 := HM1.out.trans m3 (fun k hk ho hn => by have := (HO1.out k ho).1; omega)
    have keep : ∀ {k : Nat} {o : Obj}, K k → V.heap[k]? = some o → X3.heap[k]? = some o := fun hk ho => mV.heap ho (fun hn => hn hk)
    have ky := cell_of_row X3 W.heap.size 0 _ _ _ (keep (.inr ⟨Nat.le_refl _, by omega⟩) HVY.out)
    have kw := cells_of_heap (keep (.inl (.inl rfl)) HVW.out)
    have ks := cells_of_heap (keep (.inl (.inr (.inl rfl))) HVS.out)
    have kd := cells_of_heap (keep (.inl (.inr (.inr (.inl rfl)))) HVD.out)
    have hTX : TzTab X3 := HTV.out.moved mV (fun hn => hn (.inl (.inr (.inr (.inr rfl)))))
    have w0 := kw.1
    have s0 := ks.1 0
    have d3 := kd.1 3
    have d4 := kd.1 4
    have k5 := cell_of_row X3 X.heap.size 0 _ _ _ x5
    simp at s0 d3 d4
    have HZ3 := Lib.hid z3
    have HM3 := Lib.hid m3
    have HMV := Lib.hid mV
    have HX5 := Lib.hid x5
    have HXl := Lib.hid xl
    have HTX := Lib.hid hTX
    have HKY := Lib.hid ky
    clear m3 mV z3 hTX kw ks kd ky keep x5 xl
    have hn2 : 1 ≤ n - 1 - 1 := by omega
    have hn4 : 1 ≤ n - 1 - 1 - 1 - 1 := by omega
    by_cases hh : h = fh
    · have hhb : ((h : Int) == (fh : Int)) = true := by simp; omega
      have HSm := Lib.hid (fun V => fwSince_any M fm hM (by omega) V)
      have hf : minsL true M fh fm h = (vals true (since true M fm)).map fun m : Nat => (h : Int) * 3600 + (m : Int) * 60 := by simp [minsL, hh]
      have HF := Lib.hid hf
      have HSl2 : Hid (since true M fm < 18446744073709551616) := Lib.hid (since_lt hM)
      generalize since true M fm = S' at *
      clear hf hh
      gi_wp2_with (first | (refine ⟨trivial, ?_⟩; gi_at_call 45; refine (CallsIn.inRound l1 (callsIn_wide.2 (HSm.out _))).mono ?_; rintro e w9 ⟨rfl, hw9⟩; rw [hw9]; clear hw9 w9) | (refine ⟨trivial, ?_⟩; gi_at_call 66; refine (CallsIn.inRound l1 (callsIn_wide.2 (eachMk_fw _ _))).mono ?_; rintro e w9 ⟨rfl, rfl⟩))
      refine at_world (C := fun V6 => Code.wpIn _ _ _ _ _ _ V6) (P := fun V6 => Below X3.heap.size X3 V6 ∧ V6.heap.size = X3.heap.size + 2 ∧ V6.heap[X3.heap.size]? = some (.cells fwC 45 (0, 0)) ∧ V6.heap[X3.heap.size + 1]? = some (.cells #[.int .u64 (S' : Nat)] 22 (0, 0)))
        ⟨((below_alloc X3 _).alloc (by simp) _), by simp, heap_old _ (by simp) (heap_new X3 _), by
          have h8 := heap_new (X3.alloc (.cells fwC 45)) (.cells #[.int .u64 (S' : Nat)] 22)
          rw [World.size_alloc] at h8; exact h8⟩ (fun V6 hV6 => ?_)
      obtain ⟨hB6, z6, v6w, v6s⟩ := hV6
      have z3 := HZ3.out
      have zX := HZX.out
      have zV := HZ.out
      let Q2 : Nat → Prop := fun k => O1 k ∨ Q k ∨ (X.heap.size ≤ k ∧ k < V6.heap.size)
      let K2 : Nat → Prop := fun k => K k ∨ Q2 k
      let f2 : List Nat → List Int := fun pre2 => f pre ++ pre2.map fun m : Nat => (h : Int) * 3600 + (m : Int) * 60
      have hQ2 : ∀ k, Q2 k → W.heap.size ≤ k ∧ k < V6.heap.size := fun k hk => by
        rcases hk with hk | hk | hk
        · have := HO1.out k hk; omega
        · have := HQ.out k hk; omega
        · omega
      have hK2 : ∀ k, K2 k → k < V6.heap.size := fun k hk => by
        rcases hk with hk | hk
        · have := HK.out k hk; omega
        · exact (hQ2 k hk).2
      have m36 : Moved (fun _ => False) X3 V6 := Below.movedNew hB6
      have hI20 : Mine J Q2 K2 V6 f2 (fun _ => False) [] V6 := by
        refine ⟨?_, Moved.refl _ _⟩
        have h9 := HJ1.out
        simp only [f2, List.map_nil, List.append_nil]
        refine HJ.out.turn h9 (fun k hk => ?_) ((HM3.out.trans m36 (fun _ _ h => h.elim)).weaken (fun k _ h => .inl h)) (fun k hk => ?_) (fun k hk => ?_)
        · rcases hk with hk | hk
          · have := HO1.out k hk; omega
          · have := HQ.out k hk; omega
        · rcases hk with hk | hk
          · exact hk.elim
          · exact hQ2 k hk
        · rcases hk with hk | hk | hk | hk
          · exact hk.elim
          · exact .inl (.inl hk)
          · exact .inl (.inr hk)
          · exact .inr hk.1
      have HI2 := Lib.hid (mine_abides (Q := Q2) (K := K2) (V := V6) (f := f2) HJ.out (by omega) hQ2 hK2)
      have HX2 := Lib.hid (fun c => minex_abides (α := Nat) (Q := Q2) (K := K2) (V := V6) (M := clockL true H M fh fm) HJx.out (by omega) hQ2 hK2 c)
      have HQ2 := Lib.hid hQ2
      have HK2 := Lib.hid hK2
      have HM36 := Lib.hid m36
      have HY6 : Hid (V6.heap[W.heap.size]? = some (.cells #[.func (.yield l) #[] #[]] 66 (0, 0))) := Lib.hid (m36.heap (HMV.out.heap HVY.out (fun hn => hn (.inr ⟨Nat.le_refl _, by omega⟩))) (fun h => h))
      have HX56 : Hid (V6.heap[X.heap.size]? = some (.cells #[.int .i64 h] 3 (0, 0))) := Lib.hid (m36.heap HX5.out (fun h => h))
      have hT6 : TzTab V6 := HTX.out.moved m36 (fun h => h)
      have hl6 : V6.heap[l1]? = some (.loop r) := m36.heap HXl.out (fun h => h)
      have hKm : Hid (∀ k, K2 k → O1 k ∨ K k ∨ (X.heap.size ≤ k ∧ k < V6.heap.size)) := Lib.hid (fun k hk => by
        rcases hk with hk | hk | hk | hk
        · exact .inr (.inl hk)
        · exact .inl hk
        · exact .inr (.inl (.inr hk))
        · exact .inr (.inr hk))
      have hKC : Hid (∀ k, K2 k → Q2 k ∨ C k) := Lib.hid (fun k hk => by
        rcases hk with (hk | hk) | hk
        · exact .inr hk
        · exact .inl (.inr (.inl hk))
        · exact .inl hk)
      clear hQ2 hK2 m36
      refine wpIn_rangeFunc_ON (F := Fence.wide.inRound l1) (l₀ := l1) (r₀ := r) rfl hl6 hn2 (gf := 76) (lb := #[ptrV (X3.heap.size + 1), ptrV X3.heap.size]) rfl trivial (enters_of Tryd.func76 (by kernel_rfl) rfl)
        (SeqO.inRound l1 (each_fw (n - 1 - 1 - 1) (by omega) S' HSl2.out (X3.heap.size + 1) X3.heap.size V6 (by omega) (by omega) (cell_of_row _ _ 0 _ _ _ v6s) (cell_of_row _ _ 1 _ _ _ v6w) hT6)) (Below.refl _ _) (fun k hk => by
          rcases hk with rfl | rfl
          · omega
          · have := HK.out _ (.inl (.inr (.inr (.inr rfl)))); omega) (fun _ => rfl)
        (Mine J Q2 K2 V6 f2) (fun c O _ Y => MineX Jx Q2 K2 V6 (clockL true H M fh fm) c O Y) HI2.out HX2.out hI20 ?hround2 ?hdone2 ?hstop2
      case hround2 =>
        intro l2 O2 pre2 m Y hOl2 hO2 hI hpre2
        obtain ⟨hJ2, hM2⟩ := hI
        have hm64 : m < 64 := (mem_vals.1 (prefix_mem hpre2)).1
        have HO2 := Lib.hid hO2
        have HP2 := Lib.hid hpre2
        have HJ2 := Lib.hid hJ2
        have HM2 := Lib.hid hM2
        have HOl2 := Lib.hid hOl2
        clear hO2 hpre2 hJ2 hM2 hOl2 v6w v6s hT6 hl6 hI20 s0 w0 d3 d4 k5
        simp only [List.zip_toArray, List.zip_cons_cons, List.zip_nil_left, List.zip_nil_right, List.size_toArray, List.length_cons, List.length_nil, List.foldl_toArray', List.foldl_cons, List.foldl_nil, List.setIfInBounds_toArray, List.set_cons_succ, List.set_cons_zero]
        gi_wp2_with fail
        refine ⟨Moved.refl _ Y, fun r2 Y3 hY3 => ?_⟩
        have mY : Moved (fun k => k = l2) Y Y3 := by rw [hY3]; exact moved_putObjO _ _ rfl
        clear hY3
        have hl2 := HO2.out _ HOl2.out
        have zM2 := HM2.out.size
        have hO2V : ∀ k, O2 k → V6.heap.size ≤ k := fun k hk => (HO2.out k hk).1
        have mV6 : Moved (fun k => ¬ K2 k) V6 Y3 := HM2.out.trans mY (fun k hk e hn => by have := HK2.out k hn; omega)
        have hY9 := cell_of_row Y3 W.heap.size 0 _ _ _ (mV6.heap HY6.out (fun hn => hn (.inr (.inr (.inl ⟨Nat.le_refl _, by omega⟩)))))
        have hY5 := cell_of_row Y3 X.heap.size 0 _ _ _ (mV6.heap HX56.out (fun hn => hn (.inr (.inr (.inr ⟨Nat.le_refl _, by omega⟩)))))
        have hown3 : OwnO W.heap.size (fun k => O2 k ∨ Q2 k) Y := fun k hk => by
          rcases hk with hk | hk
          · have := HO2.out k hk; omega
          · have := HQ2.out k hk; omega
        have hown : OwnO W.heap.size (fun k => O2 k ∨ Q2 k) Y3 := fun k hk => by have := hown3 k hk; have := mY.size; omega
        have hJ3 : J (fun k => O2 k ∨ Q2 k) (f2 pre2) Y3 := HJ.out.turn HJ2.out hown3 (mY.weaken (fun k _ e => .inl (e ▸ HOl2.out))) hown (fun k hk => .inl hk)
        have hpf : f2 pre2 ++ [(h : Int) * 3600 + (m : Int) * 60] <+: clockL true H M fh fm := by
          have h1 := map_prefix (f := fun m : Nat => (h : Int) * 3600 + (m : Int) * 60) HP2.out
          rw [← HF.out, List.map_append] at h1
          have h2 := flat_prefix (f := minsL true M fh fm) HP1.out h1
          simpa [f2, f, clockL, List.append_assoc] using h2
        obtain ⟨fn, tmps, assign, body, hy, hR⟩ := (HY.out (fun k => O2 k ∨ Q2 k) (f2 pre2) ((h : Int) * 3600 + (m : Int) * 60) Y3 hown hJ3 hpf).deep (l0 := l2) (m' := n - 1 - 1 - 1 - 1 - 1)
        have HR := Lib.hid hR
        have HPf := Lib.hid hpf
        have HMY := Lib.hid mV6
        clear hR hpf mV6 hJ3 hown hown3 hO2V mY zM2 hl2
        gi_wp2_with fail
        refine HR.out.mono ?_
        rintro e Y4 ⟨hcase, hM4⟩
        have mV4 : Moved (fun k => ¬ K2 k) V6 Y4 := HMY.out.trans hM4 (fun k _ hk hn => by
          rcases hKC.out k hn with h9 | h9
          · exact hk.1 (.inr h9)
          · exact hk.2 h9)
        have mR : Moved (fun k => ¬ O2 k ∧ ¬ (k = X3.heap.size ∨ k = 1)) Y3 Y4 := hM4.weaken (fun k _ hk => ⟨fun h9 => hk.1 (.inl h9), fun h9 => by
          rcases h9 with rfl | rfl
          · exact hk.1 (.inr (.inr (.inr ⟨by omega, by omega⟩)))
          · exact hk.2 (.inr (.inr (.inr rfl)))⟩)
        have HMR := Lib.hid mR
        have HMV4 := Lib.hid mV4
        have HM4 := Lib.hid hM4
        have hfs : f2 pre2 ++ [(h : Int) * 3600 + (m : Int) * 60] = f2 (pre2 ++ [m]) := by simp [f2, List.append_assoc]
        have HFs := Lib.hid hfs
        clear hM4 mV4 mR hfs
        rcases hcase with ⟨rfl, hJ4⟩ | ⟨rfl, hJx4⟩
        · have HJ4 := Lib.hid hJ4
          clear hJ4
          gi_wp2_with fail
          exact ⟨HMR.out, HFs.out ▸ HJ4.out, HMV4.out⟩
        · have HJ4 := Lib.hid hJx4
          clear hJx4
          gi_wp2_with fail
          exact ⟨HMR.out, rfl, ⟨_, HPf.out, HJ4.out⟩, HMV4.out⟩
      case hdone2 =>
        rintro O2 Y hO2 ⟨hJ2, hM2⟩
        have zM2 := hM2.size
        have hfs : f2 (vals true S') = f (pre ++ [h]) := by simp only [f2, f, List.flatMap_append, List.flatMap_cons, List.flatMap_nil, List.append_nil, HF.out]
        have hown3 : OwnO W.heap.size (fun k => O2 k ∨ Q2 k) Y := fun k hk => by
          rcases hk with hk | hk
          · have := hO2 k hk; omega
          · have := HQ2.out k hk; omega
        have hJ5 : J (fun k => O1 k ∨ Q k) (f (pre ++ [h])) Y := HJ.out.turn (hfs ▸ hJ2) hown3 (Moved.refl _ _) (fun k hk => by
          rcases hk with hk | hk
          · have := HO1.out k hk; omega
          · have := HQ.out k hk; omega) (fun k hk => by
          rcases hk with hk | hk
          · exact .inl (.inr (.inl hk))
          · exact .inl (.inr (.inr (.inl hk))))
        have m3Y : Moved (fun k => ¬ K2 k) X3 Y := (HM36.out.weaken (q := fun k => ¬ K2 k) (fun _ _ h => h.elim)).trans hM2 (fun _ _ h => h)
        have HM3Y := Lib.hid m3Y
        have HJ5 := Lib.hid hJ5
        clear hJ2 hM2 hJ5 m3Y hown3 hfs
        gi_wp2_with fail
        refine ⟨HM3Y.out.weaken (fun k _ hk => ⟨fun h9 => hk (.inr (.inl h9)), fun h9 => hk (.inl ?_)⟩), HJ5.out, HMV.out.trans HM3Y.out (fun k _ h9 hn => h9 (.inl hn))⟩
        rcases h9 with rfl | rfl
        · exact .inr ⟨by omega, by omega⟩
        · exact .inl (.inr (.inr (.inr rfl)))
      case hstop2 =>
        rintro c O2 pre2 Y hO2 hpre2 ⟨rfl, ⟨q, hq, hx⟩, hM2⟩
        have zM2 := hM2.size
        have hown3 : OwnO W.heap.size (fun k => O2 k ∨ Q2 k) Y := fun k hk => by
          rcases hk with hk | hk
          · have := hO2 k hk; omega
          · have := HQ2.out k hk; omega
        have hJ5 : Jx (fun k => O1 k ∨ Q k) q Y := HJx.out.turn hx hown3 (Moved.refl _ _) (fun k hk => by
          rcases hk with hk | hk
          · have := HO1.out k hk; omega
          · have := HQ.out k hk; omega) (fun k hk => by
          rcases hk with hk | hk
          · exact .inl (.inr (.inl hk))
          · exact .inl (.inr (.inr (.inl hk))))
        have m3Y : Moved (fun k => ¬ K2 k) X3 Y := (HM36.out.weaken (q := fun k => ¬ K2 k) (fun _ _ h => h.elim)).trans hM2 (fun _ _ h => h)
        have HM3Y := Lib.hid m3Y
        have HJ5 := Lib.hid hJ5
        have HQq := Lib.hid hq
        clear hx hM2 hJ5 m3Y hown3 hq
        gi_wp2_with fail
        refine ⟨HM3Y.out.weaken (fun k _ hk => ⟨fun h9 => hk (.inr (.inl h9)), fun h9 => hk (.inl ?_)⟩), rfl, ⟨_, HQq.out, HJ5.out⟩, HMV.out.trans HM3Y.out (fun k _ h9 hn => h9 (.inl hn))⟩
        rcases h9 with rfl | rfl
        · exact .inr ⟨by omega, by omega⟩
        · exact .inl (.inr (.inr (.inr rfl)))
    · have hhb : ((h : Int) == (fh : Int)) = false := by simp; omega
      have hf : minsL true M fh fm h = (vals true M).map fun m : Nat => (h : Int) * 3600 + (m : Int) * 60 := by simp [minsL, hh]
      have HSl2 := Lib.hid hM
      obtain ⟨S', hS'⟩ : ∃ S', S' = M := ⟨_, rfl⟩
      rw [← hS'] at HSl2 s0
      have HF : Hid (minsL true M fh fm h = (vals true S').map fun m : Nat => (h : Int) * 3600 + (m : Int) * 60) := Lib.hid (by rw [hS']; exact hf)
      clear hf hh hS'
      gi_wp2_with (refine ⟨trivial, ?_⟩; gi_at_call 66; refine (CallsIn.inRound l1 (callsIn_wide.2 (eachMk_fw _ _))).mono ?_; rintro e w9 ⟨rfl, rfl⟩)
      refine at_world (C := fun V6 => Code.wpIn _ _ _ _ _ _ V6) (P := fun V6 => Below X3.heap.size X3 V6 ∧ V6.heap.size = X3.heap.size + 2 ∧ V6.heap[X3.heap.size]? = some (.cells fwC 45 (0, 0)) ∧ V6.heap[X3.heap.size + 1]? = some (.cells #[.int .u64 (S' : Nat)] 22 (0, 0)))
        ⟨((below_alloc X3 _).alloc (by simp) _), by simp, heap_old _ (by simp) (heap_new X3 _), by
          have h8 := heap_new (X3.alloc (.cells fwC 45)) (.cells #[.int .u64 (S' : Nat)] 22)
          rw [World.size_alloc] at h8; exact h8⟩ (fun V6 hV6 => ?_)
      obtain ⟨hB6, z6, v6w, v6s⟩ := hV6
      have z3 := HZ3.out
      have zX := HZX.out
      have zV := HZ.out
      let Q2 : Nat → Prop := fun k => O1 k ∨ Q k ∨ (X.heap.size ≤ k ∧ k < V6.heap.size)
      let K2 : Nat → Prop := fun k => K k ∨ Q2 k
      let f2 : List Nat → List Int := fun pre2 => f pre ++ pre2.map fun m : Nat => (h : Int) * 3600 + (m : Int) * 60
      have hQ2 : ∀ k, Q2 k → W.heap.size ≤ k ∧ k < V6.heap.size := fun k hk => by
        rcases hk with hk | hk | hk
        · have := HO1.out k hk; omega
        · have := HQ.out k hk; omega
        · omega
      have hK2 : ∀ k, K2 k → k < V6.heap.size := fun k hk => by
        rcases hk with hk | hk
        · have := HK.out k hk; omega
        · exact (hQ2 k hk).2
      have m36 : Moved (fun _ => False) X3 V6 := Below.movedNew hB6
      have hI20 : Mine J Q2 K2 V6 f2 (fun _ => False) [] V6 := by
        refine ⟨?_, Moved.refl _ _⟩
        have h9 := HJ1.out
        simp only [f2, List.map_nil, List.append_nil]
        refine HJ.out.turn h9 (fun k hk => ?_) ((HM3.out.trans m36 (fun _ _ h => h.elim)).weaken (fun k _ h => .inl h)) (fun k hk => ?_) (fun k hk => ?_)
        · rcases hk with hk | hk
          · have := HO1.out k hk; omega
          · have := HQ.out k hk; omega
        · rcases hk with hk | hk
          · exact hk.elim
          · exact hQ2 k hk
        · rcases hk with hk | hk | hk | hk
          · exact hk.elim
          · exact .inl (.inl hk)
          · exact .inl (.inr hk)
          · exact .inr hk.1
      have HI2 := Lib.hid (mine_abides (Q := Q2) (K := K2) (V := V6) (f := f2) HJ.out (by omega) hQ2 hK2)
      have HX2 := Lib.hid (fun c => minex_abides (α := Nat) (Q := Q2) (K := K2) (V := V6) (M := clockL true H M fh fm) HJx.out (by omega) hQ2 hK2 c)
      have HQ2 := Lib.hid hQ2
      have HK2 := Lib.hid hK2
      have HM36 := Lib.hid m36
      have HY6 : Hid (V6.heap[W.heap.size]? = some (.cells #[.func (.yield l) #[] #[]] 66 (0, 0))) := Lib.hid (m36.heap (HMV.out.heap HVY.out (fun hn => hn (.inr ⟨Nat.le_refl _, by omega⟩))) (fun h => h))
      have HX56 : Hid (V6.heap[X.heap.size]? = some (.cells #[.int .i64 h] 3 (0, 0))) := Lib.hid (m36.heap HX5.out (fun h => h))
      have hT6 : TzTab V6 := HTX.out.moved m36 (fun h => h)
      have hl6 : V6.heap[l1]? = some (.loop r) := m36.heap HXl.out (fun h => h)
      have hKm : Hid (∀ k, K2 k → O1 k ∨ K k ∨ (X.heap.size ≤ k ∧ k < V6.heap.size)) := Lib.hid (fun k hk => by
        rcases hk with hk | hk | hk | hk
        · exact .inr (.inl hk)
        · exact .inl hk
        · exact .inr (.inl (.inr hk))
        · exact .inr (.inr hk))
      have hKC : Hid (∀ k, K2 k → Q2 k ∨ C k) := Lib.hid (fun k hk => by
        rcases hk with (hk | hk) | hk
        · exact .inr hk
        · exact .inl (.inr (.inl hk))
        · exact .inl hk)
      clear hQ2 hK2 m36
      refine wpIn_rangeFunc_ON (F := Fence.wide.inRound l1) (l₀ := l1) (r₀ := r) rfl hl6 hn2 (gf := 76) (lb := #[ptrV (X3.heap.size + 1), ptrV X3.heap.size]) rfl trivial (enters_of Tryd.func76 (by kernel_rfl) rfl)
        (SeqO.inRound l1 (each_fw (n - 1 - 1 - 1) (by omega) S' HSl2.out (X3.heap.size + 1) X3.heap.size V6 (by omega) (by omega) (cell_of_row _ _ 0 _ _ _ v6s) (cell_of_row _ _ 1 _ _ _ v6w) hT6)) (Below.refl _ _) (fun k hk => by
          rcases hk with rfl | rfl
          · omega
          · have := HK.out _ (.inl (.inr (.inr (.inr rfl)))); omega) (fun _ => rfl)
        (Mine J Q2 K2 V6 f2) (fun c O _ Y => MineX Jx Q2 K2 V6 (clockL true H M fh fm) c O Y) HI2.out HX2.out hI20 ?hround2 ?hdone2 ?hstop2
      case hround2 =>
        intro l2 O2 pre2 m Y hOl2 hO2 hI hpre2
        obtain ⟨hJ2, hM2⟩ := hI
        have hm64 : m < 64 := (mem_vals.1 (prefix_mem hpre2)).1
        have HO2 := Lib.hid hO2
        have HP2 := Lib.hid hpre2
        have HJ2 := Lib.hid hJ2
        have HM2 := Lib.hid hM2
        have HOl2 := Lib.hid hOl2
        clear hO2 hpre2 hJ2 hM2 hOl2 v6w v6s hT6 hl6 hI20 s0 w0 d3 d4 k5
        simp only [List.zip_toArray, List.zip_cons_cons, List.zip_nil_left, List.zip_nil_right, List.size_toArray, List.length_cons, List.length_nil, List.foldl_toArray', List.foldl_cons, List.foldl_nil, List.setIfInBounds_toArray, List.set_cons_succ, List.set_cons_zero]
        gi_wp2_with fail
        refine ⟨Moved.refl _ Y, fun r2 Y3 hY3 => ?_⟩
        have mY : Moved (fun k => k = l2) Y Y3 := by rw [hY3]; exact moved_putObjO _ _ rfl
        clear hY3
        have hl2 := HO2.out _ HOl2.out
        have zM2 := HM2.out.size
        have hO2V : ∀ k, O2 k → V6.heap.size ≤ k := fun k hk => (HO2.out k hk).1
        have mV6 : Moved (fun k => ¬ K2 k) V6 Y3 := HM2.out.trans mY (fun k hk e hn => by have := HK2.out k hn; omega)
        have hY9 := cell_of_row Y3 W.heap.size 0 _ _ _ (mV6.heap HY6.out (fun hn => hn (.inr (.inr (.inl ⟨Nat.le_refl _, by omega⟩)))))
        have hY5 := cell_of_row Y3 X.heap.size 0 _ _ _ (mV6.heap HX56.out (fun hn => hn (.inr (.inr (.inr ⟨Nat.le_refl _, by omega⟩)))))
        have hown3 : OwnO W.heap.size (fun k => O2 k ∨ Q2 k) Y := fun k hk => by
          rcases hk with hk | hk
          · have := HO2.out k hk; omega
          · have := HQ2.out k hk; omega
        have hown : OwnO W.heap.size (fun k => O2 k ∨ Q2 k) Y3 := fun k hk => by have := hown3 k hk; have := mY.size; omega
        have hJ3 : J (fun k => O2 k ∨ Q2 k) (f2 pre2) Y3 := HJ.out.turn HJ2.out hown3 (mY.weaken (fun k _ e => .inl (e ▸ HOl2.out))) hown (fun k hk => .inl hk)
        have hpf : f2 pre2 ++ [(h : Int) * 3600 + (m : Int) * 60] <+: clockL true H M fh fm := by
          have h1 := map_prefix (f := fun m : Nat => (h : Int) * 3600 + (m : Int) * 60) HP2.out
          rw [← HF.out, List.map_append] at h1
          have h2 := flat_prefix (f := minsL true M fh fm) HP1.out h1
          simpa [f2, f, clockL, List.append_assoc] using h2
        obtain ⟨fn, tmps, assign, body, hy, hR⟩ := (HY.out (fun k => O2 k ∨ Q2 k) (f2 pre2) ((h : Int) * 3600 + (m : Int) * 60) Y3 hown hJ3 hpf).deep (l0 := l2) (m' := n - 1 - 1 - 1 - 1 - 1)
        have HR := Lib.hid hR
        have HPf := Lib.hid hpf
        have HMY := Lib.hid mV6
        clear hR hpf mV6 hJ3 hown hown3 hO2V mY zM2 hl2
        gi_wp2_with fail
        refine HR.out.mono ?_
        rintro e Y4 ⟨hcase, hM4⟩
        have mV4 : Moved (fun k => ¬ K2 k) V6 Y4 := HMY.out.trans hM4 (fun k _ hk hn => by
          rcases hKC.out k hn with h9 | h9
          · exact hk.1 (.inr h9)
          · exact hk.2 h9)
        have mR : Moved (fun k => ¬ O2 k ∧ ¬ (k = X3.heap.size ∨ k = 1)) Y3 Y4 := hM4.weaken (fun k _ hk => ⟨fun h9 => hk.1 (.inl h9), fun h9 => by
          rcases h9 with rfl | rfl
          · exact hk.1 (.inr (.inr (.inr ⟨by omega, by omega⟩)))
          · exact hk.2 (.inr (.inr (.inr rfl)))⟩)
        have HMR := Lib.hid mR
        have HMV4 := Lib.hid mV4
        have HM4 := Lib.hid hM4
        have hfs : f2 pre2 ++ [(h : Int) * 3600 + (m : Int) * 60] = f2 (pre2 ++ [m]) := by simp [f2, List.append_assoc]
        have HFs := Lib.hid hfs
        clear hM4 mV4 mR hfs
        rcases hcase with ⟨rfl, hJ4⟩ | ⟨rfl, hJx4⟩
        · have HJ4 := Lib.hid hJ4
          clear hJ4
          gi_wp2_with fail
          exact ⟨HMR.out, HFs.out ▸ HJ4.out, HMV4.out⟩
        · have HJ4 := Lib.hid hJx4
          clear hJx4
          gi_wp2_with fail
          exact ⟨HMR.out, rfl, ⟨_, HPf.out, HJ4.out⟩, HMV4.out⟩
      case hdone2 =>
        rintro O2 Y hO2 ⟨hJ2, hM2⟩
        have zM2 := hM2.size
        have hfs : f2 (vals true S') = f (pre ++ [h]) := by simp only [f2, f, List.flatMap_append, List.flatMap_cons, List.flatMap_nil, List.append_nil, HF.out]
        have hown3 : OwnO W.heap.size (fun k => O2 k ∨ Q2 k) Y := fun k hk => by
          rcases hk with hk | hk
          · have := hO2 k hk; omega
          · have := HQ2.out k hk; omega
        have hJ5 : J (fun k => O1 k ∨ Q k) (f (pre ++ [h])) Y := HJ.out.turn (hfs ▸ hJ2) hown3 (Moved.refl _ _) (fun k hk => by
          rcases hk with hk | hk
          · have := HO1.out k hk; omega
          · have := HQ.out k hk; omega) (fun k hk => by
          rcases hk with hk | hk
          · exact .inl (.inr (.inl hk))
          · exact .inl (.inr (.inr (.inl hk))))
        have m3Y : Moved (fun k => ¬ K2 k) X3 Y := (HM36.out.weaken (q := fun k => ¬ K2 k) (fun _ _ h => h.elim)).trans hM2 (fun _ _ h => h)
        have HM3Y := Lib.hid m3Y
        have HJ5 := Lib.hid hJ5
        clear hJ2 hM2 hJ5 m3Y hown3 hfs
        gi_wp2_with fail
        refine ⟨HM3Y.out.weaken (fun k _ hk => ⟨fun h9 => hk (.inr (.inl h9)), fun h9 => hk (.inl ?_)⟩), HJ5.out, HMV.out.trans HM3Y.out (fun k _ h9 hn => h9 (.inl hn))⟩
        rcases h9 with rfl | rfl
        · exact .inr ⟨by omega, by omega⟩
        · exact .inl (.inr (.inr (.inr rfl)))
      case hstop2 =>
        rintro c O2 pre2 Y hO2 hpre2 ⟨rfl, ⟨q, hq, hx⟩, hM2⟩
        have zM2 := hM2.size
        have hown3 : OwnO W.heap.size (fun k => O2 k ∨ Q2 k) Y := fun k hk => by
          rcases hk with hk | hk
          · have := hO2 k hk; omega
          · have := HQ2.out k hk; omega
        have hJ5 : Jx (fun k => O1 k ∨ Q k) q Y := HJx.out.turn hx hown3 (Moved.refl _ _) (fun k hk => by
          rcases hk with hk | hk
          · have := HO1.out k hk; omega
          · have := HQ.out k hk; omega) (fun k hk => by
          rcases hk with hk | hk
          · exact .inl (.inr (.inl hk))
          · exact .inl (.inr (.inr (.inl hk))))
        have m3Y : Moved (fun k => ¬ K2 k) X3 Y := (HM36.out.weaken (q := fun k => ¬ K2 k) (fun _ _ h => h.elim)).trans hM2 (fun _ _ h => h)
        have HM3Y := Lib.hid m3Y
        have HJ5 := Lib.hid hJ5
        have HQq := Lib.hid hq
        clear hx hM2 hJ5 m3Y hown3 hq
        gi_wp2_with fail
        refine ⟨HM3Y.out.weaken (fun k _ hk => ⟨fun h9 => hk (.inr (.inl h9)), fun h9 => hk (.inl ?_)⟩), rfl, ⟨_, HQq.out, HJ5.out⟩, HMV.out.trans HM3Y.out (fun k _ h9 hn => h9 (.inl hn))⟩
        rcases h9 with rfl | rfl
        · exact .inr ⟨by omega, by omega⟩
        · exact .inl (.inr (.inr (.inr rfl)))
  case hdone =>
    rintro D O Wd hD hOD hO ⟨hJd, hMd⟩ hK9
    have zd := hMd.size
    have zV := HZ.out
    have hown3 : OwnO W.heap.size (fun k => O k ∨ Q k) Wd := fun k hk => by
      rcases hk with hk | hk
      · have := hO k hk; omega
      · have := HQ.out k hk; omega
    have hJe : J (fun k => O k ∨ Q k) (clockL true H M fh fm) (Wd.putObj D (.deferred none)) := HJ.out.turn hJd hown3 (moved_putObjO _ _ (.inl hOD)) (fun k hk => by have := hown3 k hk; simpa [World.putObj] using this) (fun k hk => .inl hk)
    have hown4 : OwnO W.heap.size (fun k => O k ∨ Q k) (Wd.putObj D (.deferred none)) := fun k hk => by have := hown3 k hk; simpa [World.putObj] using this
    have HKd := Lib.hid hK9
    have HJe := Lib.hid hJe
    have HO4 := Lib.hid hown4
    clear hJd hMd hJe hown3 hown4 hK9 hO
    gi_wp2_with fail
    refine ⟨by simp, .inl ⟨_, _, rfl, run_takeDeferred HKd.out, ?_⟩⟩
    exact ⟨_, results_none rfl _ _ _, ⟨_, rfl⟩, .inl ⟨_, HO4.out, HJe.out⟩⟩
  case hstop =>
    rintro D c O pre Wd hD hOD hO hpre ⟨rfl, ⟨q, hq, hx⟩, hMd⟩ hK9
    have zd := hMd.size
    have zV := HZ.out
    have hown3 : OwnO W.heap.size (fun k => O k ∨ Q k) Wd := fun k hk => by
      rcases hk with hk | hk
      · have := hO k hk; omega
      · have := HQ.out k hk; omega
    have hJe : Jx (fun k => O k ∨ Q k) q (Wd.putObj D (.deferred none)) := HJx.out.turn hx hown3 (moved_putObjO _ _ (.inl hOD)) (fun k hk => by have := hown3 k hk; simpa [World.putObj] using this) (fun k hk => .inl hk)
    have hown4 : OwnO W.heap.size (fun k => O k ∨ Q k) (Wd.putObj D (.deferred none)) := fun k hk => by have := hown3 k hk; simpa [World.putObj] using this
    have HKd := Lib.hid hK9
    have HJe := Lib.hid hJe
    have HO4 := Lib.hid hown4
    have HQq := Lib.hid hq
    clear hx hMd hJe hown3 hown4 hK9 hO hq
    gi_wp2_with fail
    refine ⟨by simp, .inl ⟨_, _, rfl, run_takeDeferred HKd.out, ?_⟩⟩
    exact ⟨_, results_none rfl _ _ _, ⟨_, rfl⟩, .inr ⟨_, _, HO4.out, HQq.out, HJe.out⟩⟩

set_option maxRecDepth 100000 in
set_option maxHeartbeats 4000000 in
theorem clock_bw (n : Nat) (hn : 9 ≤ n) (M H fh fm : Nat) (da mo we : Int) (ad aw : Bool) (y m d sc wk : Int) (hM : M < 18446744073709551616) (hH : H < 18446744073709551616) (hfh : fh ≤ 62) (hfm : fm ≤ 62) (pw ps pd : Nat) (w : World)
    (hpw : w.heap[pw]? = some (.cells bwC 45 (0, 0))) (hps : w.heap[ps]? = some (.cells (specC M H da mo we ad aw) 24 (0, 0))) (hpd : w.heap[pd]? = some (.cells (dateC y m d fh fm sc wk) 43 (0, 0))) (hT : TzTab w) (hg : 1 < w.heap.size) :
    SeqO Fence.wide n Tryd.prog 68 #[ptrV pw, ptrV ps, ptrV pd] (fun x : Int => #[.int .i64 x])
      (fun k => k = pw ∨ k = ps ∨ k = pd ∨ k = 1) (clockL false H M fh fm) w := fun l J Jx W hWb hJ hJx hY h0 => by
  refine callsIn_of_wp_marks Tryd.func68 rfl trivial ?_ rfl
  simp only [Tryd.ntmps68, List.size_toArray, List.length_cons, List.length_nil, Nat.reduceAdd, Nat.reduceSub, Array.replicate_succ, Array.replicate_zero, List.push_toArray, List.append_toArray, List.nil_append, List.cons_append]
  have hbW : ∀ {k : Nat} {o : Obj}, w.heap[k]? = some o → W.heap[k]? = some o := fun h => (hWb.block _ (heap_lt h)).trans h
  have kpw := hbW hpw
  have kps := hbW hps
  have kpd := hbW hpd
  have hTW : TzTab W := hT.later hWb
  have hgW : 1 < W.heap.size := Nat.lt_of_lt_of_le hg hWb.size
  have lpw := heap_lt kpw
  have lps := heap_lt kps
  have lpd := heap_lt kpd
  clear hpw hps hpd hT hg hbW
  gi_wp2_with fail
  have hS0 : Hold3 pw ps pd bwC (specC M H da mo we ad aw) (dateC y m d fh fm sc wk) (W.alloc (.cells #[.func (.yield l) #[] #[]] 66)).drew :=
    ⟨heap_old _ lpw kpw, heap_old _ lps kps, heap_old _ lpd kpd⟩
  have HSi := Lib.hid (fun V => bwSince_any H fh hH (by omega) V)
  have HSl : Hid (since false H fh < 18446744073709551616) := Lib.hid (since_lt hH)
  refine wpIn_mono ?_ NoPanic.imp
  refine wpIn_region_heldW (S := Hold3 pw ps pd bwC (specC M H da mo we ad aw) (dateC y m d fh fm sc wk)) (by kernel_rfl) (by kernel_rfl) (by rintro ⟨_, _, ⟨v, hv⟩, _⟩; cases hv) hS0 (fun hHeld => ?_)
  refine wpAnyH_take (i := 0) (v := bwV) rfl (by kernel_rfl) (by kernel_rfl) (by kernel_rfl) (fun _ _ _ h => h) (Or.inl ⟨by rfl, ?hy1⟩) hHeld ?rr1
  case hy1 => (intro w' hSw; obtain ⟨q1, q2, q3⟩ := hSw; have q1 := (cells_of_heap q1).1; have q2 := (cells_of_heap q2).1; have q3 := (cells_of_heap q3).1; go_simp; try with_reducible rfl)
  try simp only [Act.put, List.setIfInBounds_toArray, List.set_cons_zero, List.set_cons_succ, List.getElem_toArray, List.getElem_cons_succ, List.getElem_cons_zero]
  refine wpAnyH_take (i := 1) (v := (.pointer (some ⟨pw, 2, none⟩))) rfl (by kernel_rfl) (by kernel_rfl) (by kernel_rfl) (fun _ _ _ h => h) (Or.inl ⟨by rfl, ?hy2⟩) hHeld ?rr2
  case hy2 => (intro w' hSw; obtain ⟨q1, q2, q3⟩ := hSw; have q1 := (cells_of_heap q1).1; have q2 := (cells_of_heap q2).1; have q3 := (cells_of_heap q3).1; go_simp; try with_reducible rfl)
  try simp only [Act.put, List.setIfInBounds_toArray, List.set_cons_zero, List.set_cons_succ, List.getElem_toArray, List.getElem_cons_succ, List.getElem_cons_zero]
  refine wpAnyH_take (i := 2) (v := (.func (.func 64) #[] #[])) rfl (by kernel_rfl) (by kernel_rfl) (by kernel_rfl) (fun _ _ _ h => h) (Or.inl ⟨by rfl, ?hy3⟩) hHeld ?rr3
  case hy3 => (intro w' hSw; obtain ⟨q1, q2, q3⟩ := hSw; have q1 := (cells_of_heap q1).1; have q2 := (cells_of_heap q2).1; have q3 := (cells_of_heap q3).1; go_simp; try with_reducible rfl)
  try simp only [Act.put, List.setIfInBounds_toArray, List.set_cons_zero, List.set_cons_succ, List.getElem_toArray, List.getElem_cons_succ, List.getElem_cons_zero]
  refine wpAnyH_take (i := 3) (v := (.pointer (some ⟨ps, 1, none⟩))) rfl (by kernel_rfl) (by kernel_rfl) (by kernel_rfl) (fun _ _ _ h => h) (Or.inl ⟨by rfl, ?hy4⟩) hHeld ?rr4
  case hy4 => (intro w' hSw; obtain ⟨q1, q2, q3⟩ := hSw; have q1 := (cells_of_heap q1).1; have q2 := (cells_of_heap q2).1; have q3 := (cells_of_heap q3).1; go_simp; try with_reducible rfl)
  try simp only [Act.put, List.setIfInBounds_toArray, List.set_cons_zero, List.set_cons_succ, List.getElem_toArray, List.getElem_cons_succ, List.getElem_cons_zero]
  refine wpAnyH_take (i := 4) (v := (.int .u64 H)) rfl (by kernel_rfl) (by kernel_rfl) (by kernel_rfl) (fun _ _ _ h => h) (Or.inl ⟨by rfl, ?hy5⟩) hHeld ?rr5
  case hy5 => (intro w' hSw; obtain ⟨q1, q2, q3⟩ := hSw; have q1 := (cells_of_heap q1).1; have q2 := (cells_of_heap q2).1; have q3 := (cells_of_heap q3).1; go_simp; try with_reducible rfl)
  try simp only [Act.put, List.setIfInBounds_toArray, List.set_cons_zero, List.set_cons_succ, List.getElem_toArray, List.getElem_cons_succ, List.getElem_cons_zero]
  refine wpAnyH_take (i := 5) (v := (.pointer (some ⟨pd, 3, none⟩))) rfl (by kernel_rfl) (by kernel_rfl) (by kernel_rfl) (fun _ _ _ h => h) (Or.inl ⟨by rfl, ?hy6⟩) hHeld ?rr6
  case hy6 => (intro w' hSw; obtain ⟨q1, q2, q3⟩ := hSw; have q1 := (cells_of_heap q1).1; have q2 := (cells_of_heap q2).1; have q3 := (cells_of_heap q3).1; go_simp; try with_reducible rfl)
  try simp only [Act.put, List.setIfInBounds_toArray, List.set_cons_zero, List.set_cons_succ, List.getElem_toArray, List.getElem_cons_succ, List.getElem_cons_zero]
  refine wpAnyH_take (i := 6) (v := (.int .i64 fh)) rfl (by kernel_rfl) (by kernel_rfl) (by kernel_rfl) (fun _ _ _ h => h) (Or.inl ⟨by rfl, ?hy7⟩) hHeld ?rr7
  case hy7 => (intro w' hSw; obtain ⟨q1, q2, q3⟩ := hSw; have q1 := (cells_of_heap q1).1; have q2 := (cells_of_heap q2).1; have q3 := (cells_of_heap q3).1; go_simp; try with_reducible rfl)
  try simp only [Act.put, List.setIfInBounds_toArray, List.set_cons_zero, List.set_cons_succ, List.getElem_toArray, List.getElem_cons_succ, List.getElem_cons_zero]
  refine wpAnyH_ready (rs := [7]) (by kernel_rfl) (by simp) ?_
  refine AllReadyH.cons rfl (fun K hK => ?_) AllReadyH.nil
  try rw [if_pos (by rfl)]
  go_simp
  go_at_call 64
  refine Calls.mono (HSi.out _) ?_
  rintro e w9 ⟨rfl, rfl⟩
  go_wp2_with fail
  refine hK.out _ _ hHeld (fun hHeld2 => ?_)
  clear hK K hHeld
  have hHeld := hHeld2
  clear hHeld2
  try simp only [Act.put, List.setIfInBounds_toArray, List.set_cons_zero, List.set_cons_succ, List.getElem_toArray, List.getElem_cons_succ, List.getElem_cons_zero]
  refine wpAnyH_ready (rs := [8]) (by kernel_rfl) (by simp) ?_
  refine AllReadyH.cons rfl (fun K hK => ?_) AllReadyH.nil
  try rw [if_pos (by rfl)]
  go_simp
  go_at_call 66
  refine Calls.mono (eachMk_bw _ _) ?_
  rintro e w9 ⟨rfl, rfl⟩
  go_wp2_with fail
  refine hK.out _ _ (Hold3.below (V := W.alloc (.cells #[.func (.yield l) #[] #[]] 66)) hHeld (((below_alloc _ _).alloc (by simp) _).drew)) (fun hHeld2 => ?_)
  clear hK K hHeld
  have hHeld := hHeld2
  clear hHeld2
  try simp only [Act.put, List.setIfInBounds_toArray, List.set_cons_zero, List.set_cons_succ, List.getElem_toArray, List.getElem_cons_succ, List.getElem_cons_zero]
  refine wpAnyH_done (by kernel_rfl) ?_ _
  clear hHeld
  refine NoPanic.normal ?_
  -- the world where the outer loop begins
  gi_wp2_with fail
  refine at_world (C := fun V => Code.wpIn _ _ _ _ _ _ V) (P := fun V => Below W.heap.size W V ∧ V.heap.size = W.heap.size + 3 ∧ V.heap[W.heap.size]? = some (.cells #[.func (.yield l) #[] #[]] 66 (0, 0)) ∧ V.heap[W.heap.size + 1]? = some (.cells bwC 45 (0, 0)) ∧ V.heap[W.heap.size + 2]? = some (.cells #[.int .u64 (since false H fh : Nat)] 22 (0, 0)))
    ⟨((((below_alloc W _).alloc (by simp) _).alloc (by simp; omega) _).drew), by simp, heap_old _ (by simp; omega) (heap_old _ (by simp) (heap_new W _)), by
      have h8 := heap_old (.cells #[.int .u64 (since false H fh : Nat)] 22) (by simp) (heap_new (W.alloc (.cells #[.func (.yield l) #[] #[]] 66)) (.cells bwC 45))
      rw [World.size_alloc] at h8; exact h8, by
      have h8 := heap_new ((W.alloc (.cells #[.func (.yield l) #[] #[]] 66)).alloc (.cells bwC 45)) (.cells #[.int .u64 (since false H fh : Nat)] 22)
      rw [World.size_alloc, World.size_alloc] at h8; exact h8⟩ (fun V hV => ?_)
  obtain ⟨hBV, zV, vy, vw, vs⟩ := hV
  have vpw := (hBV.block _ lpw).trans kpw
  have vps := (hBV.block _ lps).trans kps
  have vpd := (hBV.block _ lpd).trans kpd
  have hTV : TzTab V := hTW.later hBV
  clear hS0 kpw kps kpd hTW
  let Q : Nat → Prop := fun k => W.heap.size ≤ k ∧ k < W.heap.size + 3
  let C : Nat → Prop := fun k => k = pw ∨ k = ps ∨ k = pd ∨ k = 1
  let K : Nat → Prop := fun k => C k ∨ Q k
  let f : List Nat → List Int := fun pre => pre.flatMap (minsL false M fh fm)
  have hQ : ∀ k, Q k → W.heap.size ≤ k ∧ k < V.heap.size := fun k hk => ⟨hk.1, by rw [zV]; exact hk.2⟩
  have hK : ∀ k, K k → k < V.heap.size := fun k hk => by
    rcases hk with (rfl | rfl | rfl | rfl) | hk
    · omega
    · omega
    · omega
    · omega
    · exact (hQ k hk).2
  have HJ := Lib.hid hJ
  have HJx := Lib.hid hJx
  have HY := Lib.hid hY
  have HQ := Lib.hid hQ
  have HK := Lib.hid hK
  have HZ := Lib.hid zV
  have HVY := Lib.hid vy
  have HVW := Lib.hid vpw
  have HVS := Lib.hid vps
  have HVD := Lib.hid vpd
  have HTV := Lib.hid hTV
  have HI1 := Lib.hid (mine_abides (Q := Q) (K := K) (V := V) (f := f) hJ (by omega) hQ hK)
  have HX1 := Lib.hid (fun c => minex_abides (α := Nat) (Q := Q) (K := K) (V := V) (M := clockL false H M fh fm) hJx (by omega) hQ hK c)
  have hI0 : Mine J Q K V f (fun _ => False) [] V := ⟨hJ.turn h0 (fun _ h => h.elim) (Moved.weaken (Below.movedNew (p := fun _ => False) hBV) (fun _ _ h => h.elim)) (fun k hk => by
      rcases hk with hk | hk
      · exact hk.elim
      · exact hQ k hk) (fun k hk => by
      rcases hk with hk | hk
      · exact hk.elim
      · exact .inr hk.1), Moved.refl _ _⟩
  refine wpIn_rangeFunc_O rfl (by omega) (gf := 76) (lb := #[ptrV (W.heap.size + 1 + 1), ptrV (W.heap.size + 1)]) rfl trivial (enters_of Tryd.func76 (by kernel_rfl) rfl)
    (each_bw (n - 1) (by omega) _ HSl.out (W.heap.size + 1 + 1) (W.heap.size + 1) V (by omega) (by omega) (cell_of_row _ _ 0 _ _ _ vs) (cell_of_row _ _ 1 _ _ _ vw) hTV) (Below.refl _ _) (fun k hk => by
      rcases hk with rfl | rfl
      · omega
      · omega) (fun _ => rfl)
    (Mine J Q K V f) (fun c O _ X => MineX Jx Q K V (clockL false H M fh fm) c O X) HI1.out HX1.out hI0 ?hround ?hdone ?hstop
  clear hJ hJx hY hQ hK vy vw vs vpw vps vpd hTV hI0 h0
  case hround =>
    intro l1 O1 pre h X hOl hO1 hI hpre
    obtain ⟨hJ1, hM1⟩ := hI
    have hmem : h < 64 := (mem_vals.1 (prefix_mem hpre)).1
    have HJ1 := Lib.hid hJ1
    have HM1 := Lib.hid hM1
    have HO1 := Lib.hid hO1
    have HOl := Lib.hid hOl
    have HP1 := Lib.hid hpre
    have zX := hM1.size
    have HZX : Hid (W.heap.size + 3 ≤ X.heap.size) := Lib.hid (by omega)
    clear hJ1 hM1 hO1 hOl hpre zX
    simp only [List.zip_toArray, List.zip_cons_cons, List.zip_nil_left, List.zip_nil_right, List.size_toArray, List.length_cons, List.length_nil, List.foldl_toArray', List.foldl_cons, List.foldl_nil, List.setIfInBounds_toArray, List.set_cons_succ, List.set_cons_zero]
    gi_wp2_with fail
    refine ⟨(Moved.refl _ X).alloc _, fun r X3 hX3 => ?_⟩
    have hl1X : l1 < X.heap.size := (HO1.out l1 HOl.out).2
    have z3 : X3.heap.size = X.heap.size + 1 := by rw [hX3]; simp [World.putObj]
    have m3 : Moved O1 X X3 := by
      rw [hX3]; exact ((Moved.refl _ X).alloc _).trans (moved_putObjO _ _ HOl.out) (fun _ _ h => h)
    have x5 : X3.heap[X.heap.size]? = some (.cells #[.int .i64 h] 3 (0, 0)) := by
      rw [hX3]; exact (World.putObj_heap_other (by omega)).trans (heap_new X _)
    have xl : X3.heap[l1]? = some (.loop r) := by
      rw [hX3]; exact World.putObj_heap_same (by simp; omega)
    clear hX3 hl1X
    have mV : Moved (fun k => ¬ K k) V X3 := HM1.out.trans m3 (fun k hk ho hn => by have := (HO1.out k ho).1; omega)
    have keep : ∀ {k : Nat} {o : Obj}, K k → V.heap[k]? = some o → X3.heap[k]? = some o := fun hk ho => mV.heap ho (fun hn => hn hk)
    have ky := cell_of_row X3 W.heap.size 0 _ _ _ (keep (.inr ⟨Nat.le_refl _, by omega⟩) HVY.out)
    have kw := cells_of_heap (keep (.inl (.inl rfl)) HVW.out)
    have ks := cells_of_heap (keep (.inl (.inr (.inl rfl))) HVS.out)
    have kd := cells_of_heap (keep (.inl (.inr (.inr (.inl rfl)))) HVD.out)
    have hTX : TzTab X3 := HTV.out.moved mV (fun hn => hn (.inl (.inr (.inr (.inr rfl)))))
    have w0 := kw.1
    have s0 := ks.1 0
    have d3 := kd.1 3
    have d4 := kd.1 4
    have k5 := cell_of_row X3 X.heap.size 0 _ _ _ x5
    simp at s0 d3 d4
    have HZ3 := Lib.hid z3
    have HM3 := Lib.hid m3
    have HMV := Lib.hid mV
    have HX5 := Lib.hid x5
    have HXl := Lib.hid xl
    have HTX := Lib.hid hTX
    have HKY := Lib.hid ky
    clear m3 mV z3 hTX kw ks kd ky keep x5 xl
    have hn2 : 1 ≤ n - 1 - 1 := by omega
    have hn4 : 1 ≤ n - 1 - 1 - 1 - 1 := by omega
    by_cases hh : h = fh
    · have hhb : ((h : Int) == (fh : Int)) = true := by simp; omega
      have HSm := Lib.hid (fun V => bwSince_any M fm hM (by omega) V)
      have hf : minsL false M fh fm h = (vals false (since false M fm)).map fun m : Nat => (h : Int) * 3600 + (m : Int) * 60 := by simp [minsL, hh]
      have HF := Lib.hid hf
      have HSl2 : Hid (since false M fm < 18446744073709551616) := Lib.hid (since_lt hM)
      generalize since false M fm = S' at *
      clear hf hh
      gi_wp2_with (first | (refine ⟨trivial, ?_⟩; gi_at_call 64; refine (CallsIn.inRound l1 (callsIn_wide.2 (HSm.out _))).mono ?_; rintro e w9 ⟨rfl, hw9⟩; rw [hw9]; clear hw9 w9) | (refine ⟨trivial, ?_⟩; gi_at_call 66; refine (CallsIn.inRound l1 (callsIn_wide.2 (eachMk_bw _ _))).mono ?_; rintro e w9 ⟨rfl, rfl⟩))
      refine at_world (C := fun V6 => Code.wpIn _ _ _ _ _ _ V6) (P := fun V6 => Below X3.heap.size X3 V6 ∧ V6.heap.size = X3.heap.size + 2 ∧ V6.heap[X3.heap.size]? = some (.cells bwC 45 (0, 0)) ∧ V6.heap[X3.heap.size + 1]? = some (.cells #[.int .u64 (S' : Nat)] 22 (0, 0)))
        ⟨((below_alloc X3 _).alloc (by simp) _), by simp, heap_old _ (by simp) (heap_new X3 _), by
          have h8 := heap_new (X3.alloc (.cells bwC 45)) (.cells #[.int .u64 (S' : Nat)] 22)
          rw [World.size_alloc] at h8; exact h8⟩ (fun V6 hV6 => ?_)
      obtain ⟨hB6, z6, v6w, v6s⟩ := hV6
      have z3 := HZ3.out
      have zX := HZX.out
      have zV := HZ.out
      let Q2 : Nat → Prop := fun k => O1 k ∨ Q k ∨ (X.heap.size ≤ k ∧ k < V6.heap.size)
      let K2 : Nat → Prop := fun k => K k ∨ Q2 k
      let f2 : List Nat → List Int := fun pre2 => f pre ++ pre2.map fun m : Nat => (h : Int) * 3600 + (m : Int) * 60
      have hQ2 : ∀ k, Q2 k → W.heap.size ≤ k ∧ k < V6.heap.size := fun k hk => by
        rcases hk with hk | hk | hk
        · have := HO1.out k hk; omega
        · have := HQ.out k hk; omega
        · omega
      have hK2 : ∀ k, K2 k → k < V6.heap.size := fun k hk => by
        rcases hk with hk | hk
        · have := HK.out k hk; omega
        · exact (hQ2 k hk).2
      have m36 : Moved (fun _ => False) X3 V6 := Below.movedNew hB6
      have hI20 : Mine J Q2 K2 V6 f2 (fun _ => False) [] V6 := by
        refine ⟨?_, Moved.refl _ _⟩
        have h9 := HJ1.out
        simp only [f2, List.map_nil, List.append_nil]
        refine HJ.out.turn h9 (fun k hk => ?_) ((HM3.out.trans m36 (fun _ _ h => h.elim)).weaken (fun k _ h => .inl h)) (fun k hk => ?_) (fun k hk => ?_)
        · rcases hk with hk | hk
          · have := HO1.out k hk; omega
          · have := HQ.out k hk; omega
        · rcases hk with hk | hk
          · exact hk.elim
          · exact hQ2 k hk
        · rcases hk with hk | hk | hk | hk
          · exact hk.elim
          · exact .inl (.inl hk)
          · exact .inl (.inr hk)
          · exact .inr hk.1
      have HI2 := Lib.hid (mine_abides (Q := Q2) (K := K2) (V := V6) (f := f2) HJ.out (by omega) hQ2 hK2)
      have HX2 := Lib.hid (fun c => minex_abides (α := Nat) (Q := Q2) (K := K2) (V := V6) (M := clockL false H M fh fm) HJx.out (by omega) hQ2 hK2 c)
      have HQ2 := Lib.hid hQ2
      have HK2 := Lib.hid hK2
      have HM36 := Lib.hid m36
      have HY6 : Hid (V6.heap[W.heap.size]? = some (.cells #[.func (.yield l) #[] #[]] 66 (0, 0))) := Lib.hid (m36.heap (HMV.out.heap HVY.out (fun hn => hn (.inr ⟨Nat.le_refl _, by omega⟩))) (fun h => h))
      have HX56 : Hid (V6.heap[X.heap.size]? = some (.cells #[.int .i64 h] 3 (0, 0))) := Lib.hid (m36.heap HX5.out (fun h => h))
      have hT6 : TzTab V6 := HTX.out.moved m36 (fun h => h)
      have hl6 : V6.heap[l1]? = some (.loop r) := m36.heap HXl.out (fun h => h)
      have hKm : Hid (∀ k, K2 k → O1 k ∨ K k ∨ (X.heap.size ≤ k ∧ k < V6.heap.size)) := Lib.hid (fun k hk => by
        rcases hk with hk | hk | hk | hk
        · exact .inr (.inl hk)
        · exact .inl hk
        · exact .inr (.inl (.inr hk))
        · exact .inr (.inr hk))
      have hKC : Hid (∀ k, K2 k → Q2 k ∨ C k) := Lib.hid (fun k hk => by
        rcases hk with (hk | hk) | hk
        · exact .inr hk
        · exact .inl (.inr (.inl hk))
        · exact .inl hk)
      clear hQ2 hK2 m36
      refine wpIn_rangeFunc_ON (F := Fence.wide.inRound l1) (l₀ := l1) (r₀ := r) rfl hl6 hn2 (gf := 76) (lb := #[ptrV (X3.heap.size + 1), ptrV X3.heap.size]) rfl trivial (enters_of Tryd.func76 (by kernel_rfl) rfl)
        (SeqO.inRound l1 (each_bw (n - 1 - 1 - 1) (by omega) S' HSl2.out (X3.heap.size + 1) X3.heap.size V6 (by omega) (by omega) (cell_of_row _ _ 0 _ _ _ v6s) (cell_of_row _ _ 1 _ _ _ v6w) hT6)) (Below.refl _ _) (fun k hk => by
          rcases hk with rfl | rfl
          · omega
          · have := HK.out _ (.inl (.inr (.inr (.inr rfl)))); omega) (fun _ => rfl)
        (Mine J Q2 K2 V6 f2) (fun c O _ Y => MineX Jx Q2 K2 V6 (clockL false H M fh fm) c O Y) HI2.out HX2.out hI20 ?hround2 ?hdone2 ?hstop2
      case hround2 =>
        intro l2 O2 pre2 m Y hOl2 hO2 hI hpre2
        obtain ⟨hJ2, hM2⟩ := hI
        have hm64 : m < 64 := (mem_vals.1 (prefix_mem hpre2)).1
        have HO2 := Lib.hid hO2
        have HP2 := Lib.hid hpre2
        have HJ2 := Lib.hid hJ2
        have HM2 := Lib.hid hM2
        have HOl2 := Lib.hid hOl2
        clear hO2 hpre2 hJ2 hM2 hOl2 v6w v6s hT6 hl6 hI20 s0 w0 d3 d4 k5
        simp only [List.zip_toArray, List.zip_cons_cons, List.zip_nil_left, List.zip_nil_right, List.size_toArray, List.length_cons, List.length_nil, List.foldl_toArray', List.foldl_cons, List.foldl_nil, List.setIfInBounds_toArray, List.set_cons_succ, List.set_cons_zero]
        gi_wp2_with fail
        refine ⟨Moved.refl _ Y, fun r2 Y3 hY3 => ?_⟩
        have mY : Moved (fun k => k = l2) Y Y3 := by rw [hY3]; exact moved_putObjO _ _ rfl
        clear hY3
        have hl2 := HO2.out _ HOl2.out
        have zM2 := HM2.out.size
        have hO2V : ∀ k, O2 k → V6.heap.size ≤ k := fun k hk => (HO2.out k hk).1
        have mV6 : Moved (fun k => ¬ K2 k) V6 Y3 := HM2.out.trans mY (fun k hk e hn => by have := HK2.out k hn; omega)
        have hY9 := cell_of_row Y3 W.heap.size 0 _ _ _ (mV6.heap HY6.out (fun hn => hn (.inr (.inr (.inl ⟨Nat.le_refl _, by omega⟩)))))
        have hY5 := cell_of_row Y3 X.heap.size 0 _ _ _ (mV6.heap HX56.out (fun hn => hn (.inr (.inr (.inr ⟨Nat.le_refl _, by omega⟩)))))
        have hown3 : OwnO W.heap.size (fun k => O2 k ∨ Q2 k) Y := fun k hk => by
          rcases hk with hk | hk
          · have := HO2.out k hk; omega
          · have := HQ2.out k hk; omega
        have hown : OwnO W.heap.size (fun k => O2 k ∨ Q2 k) Y3 := fun k hk => by have := hown3 k hk; have := mY.size; omega
        have hJ3 : J (fun k => O2 k ∨ Q2 k) (f2 pre2) Y3 := HJ.out.turn HJ2.out hown3 (mY.weaken (fun k _ e => .inl (e ▸ HOl2.out))) hown (fun k hk => .inl hk)
        have hpf : f2 pre2 ++ [(h : Int) * 3600 + (m : Int) * 60] <+: clockL false H M fh fm := by
          have h1 := map_prefix (f := fun m : Nat => (h : Int) * 3600 + (m : Int) * 60) HP2.out
          rw [← HF.out, List.map_append] at h1
          have h2 := flat_prefix (f := minsL false M fh fm) HP1.out h1
          simpa [f2, f, clockL, List.append_assoc] using h2
        obtain ⟨fn, tmps, assign, body, hy, hR⟩ := (HY.out (fun k => O2 k ∨ Q2 k) (f2 pre2) ((h : Int) * 3600 + (m : Int) * 60) Y3 hown hJ3 hpf).deep (l0 := l2) (m' := n - 1 - 1 - 1 - 1 - 1)
        have HR := Lib.hid hR
        have HPf := Lib.hid hpf
        have HMY := Lib.hid mV6
        clear hR hpf mV6 hJ3 hown hown3 hO2V mY zM2 hl2
        gi_wp2_with fail
        refine HR.out.mono ?_
        rintro e Y4 ⟨hcase, hM4⟩
        have mV4 : Moved (fun k => ¬ K2 k) V6 Y4 := HMY.out.trans hM4 (fun k _ hk hn => by
          rcases hKC.out k hn with h9 | h9
          · exact hk.1 (.inr h9)
          · exact hk.2 h9)
        have mR : Moved (fun k => ¬ O2 k ∧ ¬ (k = X3.heap.size ∨ k = 1)) Y3 Y4 := hM4.weaken (fun k _ hk => ⟨fun h9 => hk.1 (.inl h9), fun h9 => by
          rcases h9 with rfl | rfl
          · exact hk.1 (.inr (.inr (.inr ⟨by omega, by omega⟩)))
          · exact hk.2 (.inr (.inr (.inr rfl)))⟩)
        have HMR := Lib.hid mR
        have HMV4 := Lib.hid mV4
        have HM4 := Lib.hid hM4
        have hfs : f2 pre2 ++ [(h : Int) * 3600 + (m : Int) * 60] = f2 (pre2 ++ [m]) := by simp [f2, List.append_assoc]
        have HFs := Lib.hid hfs
        clear hM4 mV4 mR hfs
        rcases hcase with ⟨rfl, hJ4⟩ | ⟨rfl, hJx4⟩
        · have HJ4 := Lib.hid hJ4
          clear hJ4
          gi_wp2_with fail
          exact ⟨HMR.out, HFs.out ▸ HJ4.out, HMV4.out⟩
        · have HJ4 := Lib.hid hJx4
          clear hJx4
          gi_wp2_with fail
          exact ⟨HMR.out, rfl, ⟨_, HPf.out, HJ4.out⟩, HMV4.out⟩
      case hdone2 =>
        rintro O2 Y hO2 ⟨hJ2, hM2⟩
        have zM2 := hM2.size
        have hfs : f2 (vals false S') = f (pre ++ [h]) := by simp only [f2, f, List.flatMap_append, List.flatMap_cons, List.flatMap_nil, List.append_nil, HF.out]
        have hown3 : OwnO W.heap.size (fun k => O2 k ∨ Q2 k) Y := fun k hk => by
          rcases hk with hk | hk
          · have := hO2 k hk; omega
          · have := HQ2.out k hk; omega
        have hJ5 : J (fun k => O1 k ∨ Q k) (f (pre ++ [h])) Y := HJ.out.turn (hfs ▸ hJ2) hown3 (Moved.refl _ _) (fun k hk => by
          rcases hk with hk | hk
          · have := HO1.out k hk; omega
          · have := HQ.out k hk; omega) (fun k hk => by
          rcases hk with hk | hk
          · exact .inl (.inr (.inl hk))
          · exact .inl (.inr (.inr (.inl hk))))
        have m3Y : Moved (fun k => ¬ K2 k) X3 Y := (HM36.out.weaken (q := fun k => ¬ K2 k) (fun _ _ h => h.elim)).trans hM2 (fun _ _ h => h)
        have HM3Y := Lib.hid m3Y
        have HJ5 := Lib.hid hJ5
        clear hJ2 hM2 hJ5 m3Y hown3 hfs
        gi_wp2_with fail
        refine ⟨HM3Y.out.weaken (fun k _ hk => ⟨fun h9 => hk (.inr (.inl h9)), fun h9 => hk (.inl ?_)⟩), HJ5.out, HMV.out.trans HM3Y.out (fun k _ h9 hn => h9 (.inl hn))⟩
        rcases h9 with rfl | rfl
        · exact .inr ⟨by omega, by omega⟩
        · exact .inl (.inr (.inr (.inr rfl)))
      case hstop2 =>
        rintro c O2 pre2 Y hO2 hpre2 ⟨rfl, ⟨q, hq, hx⟩, hM2⟩
        have zM2 := hM2.size
        have hown3 : OwnO W.heap.size (fun k => O2 k ∨ Q2 k) Y := fun k hk => by
          rcases hk with hk | hk
          · have := hO2 k hk; omega
          · have := HQ2.out k hk; omega
        have hJ5 : Jx (fun k => O1 k ∨ Q k) q Y := HJx.out.turn hx hown3 (Moved.refl _ _) (fun k hk => by
          rcases hk with hk | hk
          · have := HO1.out k hk; omega
          · have := HQ.out k hk; omega) (fun k hk => by
          rcases hk with hk | hk
          · exact .inl (.inr (.inl hk))
          · exact .inl (.inr (.inr (.inl hk))))
        have m3Y : Moved (fun k => ¬ K2 k) X3 Y := (HM36.out.weaken (q := fun k => ¬ K2 k) (fun _ _ h => h.elim)).trans hM2 (fun _ _ h => h)
        have HM3Y := Lib.hid m3Y
        have HJ5 := Lib.hid hJ5
        have HQq := Lib.hid hq
        clear hx hM2 hJ5 m3Y hown3 hq
        gi_wp2_with fail
        refine ⟨HM3Y.out.weaken (fun k _ hk => ⟨fun h9 => hk (.inr (.inl h9)), fun h9 => hk (.inl ?_)⟩), rfl, ⟨_, HQq.out, HJ5.out⟩, HMV.out.trans HM3Y.out (fun k _ h9 hn => h9 (.inl hn))⟩
        rcases h9 with rfl | rfl
        · exact .inr ⟨by omega, by omega⟩
        · exact .inl (.inr (.inr (.inr rfl)))
    · have hhb : ((h : Int) == (fh : Int)) = false := by simp; omega
      have hf : minsL false M fh fm h = (vals false M).map fun m : Nat => (h : Int) * 3600 + (m : Int) * 60 := by simp [minsL, hh]
      have HSl2 := Lib.hid hM
      obtain ⟨S', hS'⟩ : ∃ S', S' = M := ⟨_, rfl⟩
      rw [← hS'] at HSl2 s0
      have HF : Hid (minsL false M fh fm h = (vals false S').map fun m : Nat => (h : Int) * 3600 + (m : Int) * 60) := Lib.hid (by rw [hS']; exact hf)
      clear hf hh hS'
      gi_wp2_with (refine ⟨trivial, ?_⟩; gi_at_call 66; refine (CallsIn.inRound l1 (callsIn_wide.2 (eachMk_bw _ _))).mono ?_; rintro e w9 ⟨rfl, rfl⟩)
      refine at_world (C := fun V6 => Code.wpIn _ _ _ _ _ _ V6) (P := fun V6 => Below X3.heap.size X3 V6 ∧ V6.heap.size = X3.heap.size + 2 ∧ V6.heap[X3.heap.size]? = some (.cells bwC 45 (0, 0)) ∧ V6.heap[X3.heap.size + 1]? = some (.cells #[.int .u64 (S' : Nat)] 22 (0, 0)))
        ⟨((below_alloc X3 _).alloc (by simp) _), by simp, heap_old _ (by simp) (heap_new X3 _), by
          have h8 := heap_new (X3.alloc (.cells bwC 45)) (.cells #[.int .u64 (S' : Nat)] 22)
          rw [World.size_alloc] at h8; exact h8⟩ (fun V6 hV6 => ?_)
      obtain ⟨hB6, z6, v6w, v6s⟩ := hV6
      have z3 := HZ3.out
      have zX := HZX.out
      have zV := HZ.out
      let Q2 : Nat → Prop := fun k => O1 k ∨ Q k ∨ (X.heap.size ≤ k ∧ k < V6.heap.size)
      let K2 : Nat → Prop := fun k => K k ∨ Q2 k
      let f2 : List Nat → List Int := fun pre2 => f pre ++ pre2.map fun m : Nat => (h : Int) * 3600 + (m : Int) * 60
      have hQ2 : ∀ k, Q2 k → W.heap.size ≤ k ∧ k < V6.heap.size := fun k hk => by
        rcases hk with hk | hk | hk
        · have := HO1.out k hk; omega
        · have := HQ.out k hk; omega
        · omega
      have hK2 : ∀ k, K2 k → k < V6.heap.size := fun k hk => by
        rcases hk with hk | hk
        · have := HK.out k hk; omega
        · exact (hQ2 k hk).2
      have m36 : Moved (fun _ => False) X3 V6 := Below.movedNew hB6
      have hI20 : Mine J Q2 K2 V6 f2 (fun _ => False) [] V6 := by
        refine ⟨?_, Moved.refl _ _⟩
        have h9 := HJ1.out
        simp only [f2, List.map_nil, List.append_nil]
        refine HJ.out.turn h9 (fun k hk => ?_) ((HM3.out.trans m36 (fun _ _ h => h.elim)).weaken (fun k _ h => .inl h)) (fun k hk => ?_) (fun k hk => ?_)
        · rcases hk with hk | hk
          · have := HO1.out k hk; omega
          · have := HQ.out k hk; omega
        · rcases hk with hk | hk
          · exact hk.elim
          · exact hQ2 k hk
        · rcases hk with hk | hk | hk | hk
          · exact hk.elim
          · exact .inl (.inl hk)
          · exact .inl (.inr hk)
          · exact .inr hk.1
      have HI2 := Lib.hid (mine_abides (Q := Q2) (K := K2) (V := V6) (f := f2) HJ.out (by omega) hQ2 hK2)
      have HX2 := Lib.hid (fun c => minex_abides (α := Nat) (Q := Q2) (K := K2) (V := V6) (M := clockL false H M fh fm) HJx.out (by omega) hQ2 hK2 c)
      have HQ2 := Lib.hid hQ2
      have HK2 := Lib.hid hK2
      have HM36 := Lib.hid m36
      have HY6 : Hid (V6.heap[W.heap.size]? = some (.cells #[.func (.yield l) #[] #[]] 66 (0, 0))) := Lib.hid (m36.heap (HMV.out.heap HVY.out (fun hn => hn (.inr ⟨Nat.le_refl _, by omega⟩))) (fun h => h))
      have HX56 : Hid (V6.heap[X.heap.size]? = some (.cells #[.int .i64 h] 3 (0, 0))) := Lib.hid (m36.heap HX5.out (fun h => h))
      have hT6 : TzTab V6 := HTX.out.moved m36 (fun h => h)
      have hl6 : V6.heap[l1]? = some (.loop r) := m36.heap HXl.out (fun h => h)
      have hKm : Hid (∀ k, K2 k → O1 k ∨ K k ∨ (X.heap.size ≤ k ∧ k < V6.heap.size)) := Lib.hid (fun k hk => by
        rcases hk with hk | hk | hk | hk
        · exact .inr (.inl hk)
        · exact .inl hk
        · exact .inr (.inl (.inr hk))
        · exact .inr (.inr hk))
      have hKC : Hid (∀ k, K2 k → Q2 k ∨ C k) := Lib.hid (fun k hk => by
        rcases hk with (hk | hk) | hk
        · exact .inr hk
        · exact .inl (.inr (.inl hk))
        · exact .inl hk)
      clear hQ2 hK2 m36
      refine wpIn_rangeFunc_ON (F := Fence.wide.inRound l1) (l₀ := l1) (r₀ := r) rfl hl6 hn2 (gf := 76) (lb := #[ptrV (X3.heap.size + 1), ptrV X3.heap.size]) rfl trivial (enters_of Tryd.func76 (by kernel_rfl) rfl)
        (SeqO.inRound l1 (each_bw (n - 1 - 1 - 1) (by omega) S' HSl2.out (X3.heap.size + 1) X3.heap.size V6 (by omega) (by omega) (cell_of_row _ _ 0 _ _ _ v6s) (cell_of_row _ _ 1 _ _ _ v6w) hT6)) (Below.refl _ _) (fun k hk => by
          rcases hk with rfl | rfl
          · omega
          · have := HK.out _ (.inl (.inr (.inr (.inr rfl)))); omega) (fun _ => rfl)
        (Mine J Q2 K2 V6 f2) (fun c O _ Y => MineX Jx Q2 K2 V6 (clockL false H M fh fm) c O Y) HI2.out HX2.out hI20 ?hround2 ?hdone2 ?hstop2
      case hround2 =>
        intro l2 O2 pre2 m Y hOl2 hO2 hI hpre2
        obtain ⟨hJ2, hM2⟩ := hI
        have hm64 : m < 64 := (mem_vals.1 (prefix_mem hpre2)).1
        have HO2 := Lib.hid hO2
        have HP2 := Lib.hid hpre2
        have HJ2 := Lib.hid hJ2
        have HM2 := Lib.hid hM2
        have HOl2 := Lib.hid hOl2
        clear hO2 hpre2 hJ2 hM2 hOl2 v6w v6s hT6 hl6 hI20 s0 w0 d3 d4 k5
        simp only [List.zip_toArray, List.zip_cons_cons, List.zip_nil_left, List.zip_nil_right, List.size_toArray, List.length_cons, List.length_nil, List.foldl_toArray', List.foldl_cons, List.foldl_nil, List.setIfInBounds_toArray, List.set_cons_succ, List.set_cons_zero]
        gi_wp2_with fail
        refine ⟨Moved.refl _ Y, fun r2 Y3 hY3 => ?_⟩
        have mY : Moved (fun k => k = l2) Y Y3 := by rw [hY3]; exact moved_putObjO _ _ rfl
        clear hY3
        have hl2 := HO2.out _ HOl2.out
        have zM2 := HM2.out.size
        have hO2V : ∀ k, O2 k → V6.heap.size ≤ k := fun k hk => (HO2.out k hk).1
        have mV6 : Moved (fun k => ¬ K2 k) V6 Y3 := HM2.out.trans mY (fun k hk e hn => by have := HK2.out k hn; omega)
        have hY9 := cell_of_row Y3 W.heap.size 0 _ _ _ (mV6.heap HY6.out (fun hn => hn (.inr (.inr (.inl ⟨Nat.le_refl _, by omega⟩)))))
        have hY5 := cell_of_row Y3 X.heap.size 0 _ _ _ (mV6.heap HX56.out (fun hn => hn (.inr (.inr (.inr ⟨Nat.le_refl _, by omega⟩)))))
        have hown3 : OwnO W.heap.size (fun k => O2 k ∨ Q2 k) Y := fun k hk => by
          rcases hk with hk | hk
          · have := HO2.out k hk; omega
          · have := HQ2.out k hk; omega
        have hown : OwnO W.heap.size (fun k => O2 k ∨ Q2 k) Y3 := fun k hk => by have := hown3 k hk; have := mY.size; omega
        have hJ3 : J (fun k => O2 k ∨ Q2 k) (f2 pre2) Y3 := HJ.out.turn HJ2.out hown3 (mY.weaken (fun k _ e => .inl (e ▸ HOl2.out))) hown (fun k hk => .inl hk)
        have hpf : f2 pre2 ++ [(h : Int) * 3600 + (m : Int) * 60] <+: clockL false H M fh fm := by
          have h1 := map_prefix (f := fun m : Nat => (h : Int) * 3600 + (m : Int) * 60) HP2.out
          rw [← HF.out, List.map_append] at h1
          have h2 := flat_prefix (f := minsL false M fh fm) HP1.out h1
          simpa [f2, f, clockL, List.append_assoc] using h2
        obtain ⟨fn, tmps, assign, body, hy, hR⟩ := (HY.out (fun k => O2 k ∨ Q2 k) (f2 pre2) ((h : Int) * 3600 + (m : Int) * 60) Y3 hown hJ3 hpf).deep (l0 := l2) (m' := n - 1 - 1 - 1 - 1 - 1)
        have HR := Lib.hid hR
        have HPf := Lib.hid hpf
        have HMY := Lib.hid mV6
        clear hR hpf mV6 hJ3 hown hown3 hO2V mY zM2 hl2
        gi_wp2_with fail
        refine HR.out.mono ?_
        rintro e Y4 ⟨hcase, hM4⟩
        have mV4 : Moved (fun k => ¬ K2 k) V6 Y4 := HMY.out.trans hM4 (fun k _ hk hn => by
          rcases hKC.out k hn with h9 | h9
          · exact hk.1 (.inr h9)
          · exact hk.2 h9)
        have mR : Moved (fun k => ¬ O2 k ∧ ¬ (k = X3.heap.size ∨ k = 1)) Y3 Y4 := hM4.weaken (fun k _ hk => ⟨fun h9 => hk.1 (.inl h9), fun h9 => by
          rcases h9 with rfl | rfl
          · exact hk.1 (.inr (.inr (.inr ⟨by omega, by omega⟩)))
          · exact hk.2 (.inr (.inr (.inr rfl)))⟩)
        have HMR := Lib.hid mR
        have HMV4 := Lib.hid mV4
        have HM4 := Lib.hid hM4
        have hfs : f2 pre2 ++ [(h : Int) * 3600 + (m : Int) * 60] = f2 (pre2 ++ [m]) := by simp [f2, List.append_assoc]
        have HFs := Lib.hid hfs
        clear hM4 mV4 mR hfs
        rcases hcase with ⟨rfl, hJ4⟩ | ⟨rfl, hJx4⟩
        · have HJ4 := Lib.hid hJ4
          clear hJ4
          gi_wp2_with fail
          exact ⟨HMR.out, HFs.out ▸ HJ4.out, HMV4.out⟩
        · have HJ4 := Lib.hid hJx4
          clear hJx4
          gi_wp2_with fail
          exact ⟨HMR.out, rfl, ⟨_, HPf.out, HJ4.out⟩, HMV4.out⟩
      case hdone2 =>
        rintro O2 Y hO2 ⟨hJ2, hM2⟩
        have zM2 := hM2.size
        have hfs : f2 (vals false S') = f (pre ++ [h]) := by simp only [f2, f, List.flatMap_append, List.flatMap_cons, List.flatMap_nil, List.append_nil, HF.out]
        have hown3 : OwnO W.heap.size (fun k => O2 k ∨ Q2 k) Y := fun k hk => by
          rcases hk with hk | hk
          · have := hO2 k hk; omega
          · have := HQ2.out k hk; omega
        have hJ5 : J (fun k => O1 k ∨ Q k) (f (pre ++ [h])) Y := HJ.out.turn (hfs ▸ hJ2) hown3 (Moved.refl _ _) (fun k hk => by
          rcases hk with hk | hk
          · have := HO1.out k hk; omega
          · have := HQ.out k hk; omega) (fun k hk => by
          rcases hk with hk | hk
          · exact .inl (.inr (.inl hk))
          · exact .inl (.inr (.inr (.inl hk))))
        have m3Y : Moved (fun k => ¬ K2 k) X3 Y := (HM36.out.weaken (q := fun k => ¬ K2 k) (fun _ _ h => h.elim)).trans hM2 (fun _ _ h => h)
        have HM3Y := Lib.hid m3Y
        have HJ5 := Lib.hid hJ5
        clear hJ2 hM2 hJ5 m3Y hown3 hfs
        gi_wp2_with fail
        refine ⟨HM3Y.out.weaken (fun k _ hk => ⟨fun h9 => hk (.inr (.inl h9)), fun h9 => hk (.inl ?_)⟩), HJ5.out, HMV.out.trans HM3Y.out (fun k _ h9 hn => h9 (.inl hn))⟩
        rcases h9 with rfl | rfl
        · exact .inr ⟨by omega, by omega⟩
        · exact .inl (.inr (.inr (.inr rfl)))
      case hstop2 =>
        rintro c O2 pre2 Y hO2 hpre2 ⟨rfl, ⟨q, hq, hx⟩, hM2⟩
        have zM2 := hM2.size
        have hown3 : OwnO W.heap.size (fun k => O2 k ∨ Q2 k) Y := fun k hk => by
          rcases hk with hk | hk
          · have := hO2 k hk; omega
          · have := HQ2.out k hk; omega
        have hJ5 : Jx (fun k => O1 k ∨ Q k) q Y := HJx.out.turn hx hown3 (Moved.refl _ _) (fun k hk => by
          rcases hk with hk | hk
          · have := HO1.out k hk; omega
          · have := HQ.out k hk; omega) (fun k hk => by
          rcases hk with hk | hk
          · exact .inl (.inr (.inl hk))
          · exact .inl (.inr (.inr (.inl hk))))
        have m3Y : Moved (fun k => ¬ K2 k) X3 Y := (HM36.out.weaken (q := fun k => ¬ K2 k) (fun _ _ h => h.elim)).trans hM2 (fun _ _ h => h)
        have HM3Y := Lib.hid m3Y
        have HJ5 := Lib.hid hJ5
        have HQq := Lib.hid hq
        clear hx hM2 hJ5 m3Y hown3 hq
        gi_wp2_with fail
        refine ⟨HM3Y.out.weaken (fun k _ hk => ⟨fun h9 => hk (.inr (.inl h9)), fun h9 => hk (.inl ?_)⟩), rfl, ⟨_, HQq.out, HJ5.out⟩, HMV.out.trans HM3Y.out (fun k _ h9 hn => h9 (.inl hn))⟩
        rcases h9 with rfl | rfl
        · exact .inr ⟨by omega, by omega⟩
        · exact .inl (.inr (.inr (.inr rfl)))
  case hdone =>
    rintro D O Wd hD hOD hO ⟨hJd, hMd⟩ hK9
    have zd := hMd.size
    have zV := HZ.out
    have hown3 : OwnO W.heap.size (fun k => O k ∨ Q k) Wd := fun k hk => by
      rcases hk with hk | hk
      · have := hO k hk; omega
      · have := HQ.out k hk; omega
    have hJe : J (fun k => O k ∨ Q k) (clockL false H M fh fm) (Wd.putObj D (.deferred none)) := HJ.out.turn hJd hown3 (moved_putObjO _ _ (.inl hOD)) (fun k hk => by have := hown3 k hk; simpa [World.putObj] using this) (fun k hk => .inl hk)
    have hown4 : OwnO W.heap.size (fun k => O k ∨ Q k) (Wd.putObj D (.deferred none)) := fun k hk => by have := hown3 k hk; simpa [World.putObj] using this
    have HKd := Lib.hid hK9
    have HJe := Lib.hid hJe
    have HO4 := Lib.hid hown4
    clear hJd hMd hJe hown3 hown4 hK9 hO
    gi_wp2_with fail
    refine ⟨by simp, .inl ⟨_, _, rfl, run_takeDeferred HKd.out, ?_⟩⟩
    exact ⟨_, results_none rfl _ _ _, ⟨_, rfl⟩, .inl ⟨_, HO4.out, HJe.out⟩⟩
  case hstop =>
    rintro D c O pre Wd hD hOD hO hpre ⟨rfl, ⟨q, hq, hx⟩, hMd⟩ hK9
    have zd := hMd.size
    have zV := HZ.out
    have hown3 : OwnO W.heap.size (fun k => O k ∨ Q k) Wd := fun k hk => by
      rcases hk with hk | hk
      · have := hO k hk; omega
      · have := HQ.out k hk; omega
    have hJe : Jx (fun k => O k ∨ Q k) q (Wd.putObj D (.deferred none)) := HJx.out.turn hx hown3 (moved_putObjO _ _ (.inl hOD)) (fun k hk => by have := hown3 k hk; simpa [World.putObj] using this) (fun k hk => .inl hk)
    have hown4 : OwnO W.heap.size (fun k => O k ∨ Q k) (Wd.putObj D (.deferred none)) := fun k hk => by have := hown3 k hk; simpa [World.putObj] using this
    have HKd := Lib.hid hK9
    have HJe := Lib.hid hJe
    have HO4 := Lib.hid hown4
    have HQq := Lib.hid hq
    clear hx hMd hJe hown3 hown4 hK9 hO hq
    gi_wp2_with fail
    refine ⟨by simp, .inl ⟨_, _, rfl, run_takeDeferred HKd.out, ?_⟩⟩
    exact ⟨_, results_none rfl _ _ _, ⟨_, rfl⟩, .inr ⟨_, _, HO4.out, HQq.out, HJe.out⟩⟩
end Go.Proofs.YtnijneajlmgkjaaDoor
