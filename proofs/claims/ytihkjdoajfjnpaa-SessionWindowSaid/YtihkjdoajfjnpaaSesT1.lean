/- The laws' Do: act 1. -/
import Derived.Test.YtihkjdoajfjnpaaSesS
set_option linter.unusedSimpArgs false
set_option linter.unusedVariables false
namespace Go.Proofs.Ytihkjdoajfjnpaa
open Go.ChangeShapes Go.WideShapes Go.ChangeAt Go.RowKit Go.Base Go.Ses

section
variable {B pp i : Nat} {w w1 w' : World} {X : Nat → Side} {P : Nat → Nat} {F : Nat → Nat → Prop} {G : Nat → Prop} {Q S C : Nat → Value} {q : Nat → Prop}
set_option maxHeartbeats 8000000 in
set_option maxRecDepth 20000 in
theorem do_one (h : PairX B w pp X P F G Q S C) (hi : i < 2) (b now : Int) (hby : bits BinOp.and IntKind.i64 b 1 = (i : Int)) (hnow : -9223372036854775808 ≤ now ∧ now ≤ 9223372036854775807) (A0 : Option Addr) (body : Bytes) (c0 : Nat) (hy : Bd B w A0 body) (hbl : body.length ≤ 140737488355328) (v3 v4 v5 v6 v7 v8 : Value)
    {NN : Nat} (hs0 : Small NN (X i)) (hs1 : Small NN (X (1 - i))) :
    Calls Try.prog 8 #[.pointer (some ⟨pp, 0, none⟩), .agg #[.int .i64 1, .int .i64 b, .slice A0 body.length c0, v3, v4, v5, v6, v7, v8, .int .i64 now]] w (DoPost B pp i X 1 now body w) := by
  obtain ⟨n0, hn0⟩ : ∃ n, n = body.length := ⟨_, rfl⟩
  obtain ⟨W1, hW1⟩ : ∃ W1, W1 = w.alloc (.cells #[.int .i64 1, .int .i64 b, .slice A0 n0 c0, v3, v4, v5, v6, v7, v8, .int .i64 now] 31) := ⟨_, rfl⟩
  have hB1 : Below w.heap.size w W1 := by rw [hW1]; exact below_alloc _ _
  have kO : OpBox W1 w.heap.size 1 b now A0 n0 c0 v3 v4 v5 v6 v7 v8 := by rw [hW1]; exact heap_new w _
  have HX := Lib.hid h
  have HB1 := Lib.hid hB1
  have HO1 := Lib.hid kO
  have HX1 := Lib.hid (h.later hB1)
  have HW1 := Lib.hid hW1
  have HY := Lib.hid hy
  have HN0 := Lib.hid hn0
  have HBl : Hid (n0 ≤ 140737488355328) := Lib.hid (by rw [hn0]; exact hbl)
  have HS0 := Lib.hid hs0
  have HS1 := Lib.hid hs1
  have HNow := Lib.hid hnow
  obtain ⟨Aq, cq, es, hq, hqe, hqo, hqb⟩ := h.q i hi
  obtain ⟨nl, hnq⟩ : ∃ n, n = (X i).q.length := ⟨_, rfl⟩
  rw [← hnq] at hq hqo
  have HQ := Lib.hid (And.intro hq (And.intro hqe (And.intro hqo (And.intro hqb hnq))))
  obtain ⟨o0, o1, o2, o9⟩ := kO.cells
  have q4 : W1.cell? ⟨pp, 4 + i, none⟩ = some (.slice Aq nl cq) := by rw [← hq]; exact ((h.later hB1).cell hi).2.2.1
  have hi' : (i : Int) < 2 := by omega
  have hi0 : (0 : Int) ≤ (i : Int) := by omega
  have hq64 : (nl : Int) ≤ 1000000 := by rw [hnq]; have := hs0.1; have := hs0.2.2.2; omega
  have HQ64 := Lib.hid hq64
  rw [← hn0]
  clear h hy hs0 hs1 hnow hq hqe hqo hqb hnq hW1 hB1 kO hn0 hbl
  obtain ⟨iu, hiu, hu0, hu1, hu2⟩ := info_parts u8_info
  obtain ⟨i0, hinfo, hz0, hzs, hz2⟩ := info_parts (P := Try.prog) (e := 27) (z := .slice none 0 0) (size := 1) (bytes := 24) (by kernel_rfl)
  go_enter Try.func8, Try.ntmps8
  go_upto_if 20 with (rw [← HW1.out])
  go_cut [6] from 20 to 41 (fun v wx => ∃ a : Nat, v = .int .i64 (a : Int) ∧ Hid (Below W1.heap.size W1 wx ∧ AtIs now nl a))
  case first =>
    by_cases hz : nl = 0
    · subst hz
      go_wp2
      go_meet
      exact ⟨0, rfl, Lib.hid ⟨Below.refl _ _, .inl rfl⟩⟩
    · have hz1 : (0 : Int) < (nl : Int) := by omega
      have hz2 : ((nl : Int) == 0) = false := by simp; omega
      have hz3 : ¬ (nl : Int) = 0 := by omega
      have HZ := Lib.hid hz
      by_cases ht : now.tmod (nl : Int) < 0
      · have HA := Lib.hid (at_neg hz ht)
        have hlt : -(nl : Int) < now.tmod (nl : Int) := Int.lt_tmod_of_pos now hz1
        have kw : IntKind.i64.wrap (now.tmod (nl : Int) + (nl : Int)) = now.tmod (nl : Int) + (nl : Int) := by rw [IntKind.wrap_i64]; omega
        clear hz
        go_wp2_with fail
        go_quiet (fail)
        go_wp2
        go_meet
        exact ⟨(now.tmod (nl : Int) + nl).toNat, by go_num, Lib.hid ⟨below_drewN (Below.refl _ _) _, HA.out⟩⟩
      · have HA := Lib.hid (at_pos hz ht)
        clear hz
        go_wp2_with fail
        go_quiet (fail)
        go_wp2
        go_meet
        exact ⟨(now.tmod (nl : Int)).toNat, by go_num, Lib.hid ⟨below_drewN (Below.refl _ _) _, HA.out⟩⟩
  case rest =>
    obtain ⟨a, rfl, HC⟩ := hcut
    have HXc := Lib.hid (HX1.out.later HC.out.1)
    have hOc : OpBox wc w.heap.size 1 b now A0 n0 c0 v3 v4 v5 v6 v7 v8 := (HC.out.1.block _ (heap_lt HO1.out)).trans HO1.out
    have HOc := Lib.hid hOc
    have hbw : Below w.heap.size w wc := HB1.out.trans (HC.out.1.mono HB1.out.size)
    have HBw := Lib.hid hbw
    clear o0 o1 o2 o9 q4
    obtain ⟨o0, o1, o2, o9⟩ := hOc.cells
    clear hOc hbw
    have HK0 : Hid (doX 1 now body i X = upd X i { X i with ss := (sendS (X i).ss body).2, sent := if (sendS (X i).ss body).1 = 0 then (X i).sent ++ [body] else (X i).sent }) := Lib.hid (by
      unfold doX doS
      simp only [if_true]
      exact upd_pair X hi _)
    have x0 := (HXc.out.cell hi).1
    have HYc := Lib.hid (HY.out.kept (HBw.out.mono HX.out.lowle) (Below.ku HBw.out))
    have hBl2 := HBl.out
    obtain ⟨rs, hrs⟩ : ∃ r, r = (sendS (X i).ss body).1 := ⟨_, rfl⟩
    by_cases hz : rs = 0
    · subst hz
      have HK : Hid (doX 1 now body i X = upd X i { X i with ss := (sendS (X i).ss body).2, sent := (X i).sent ++ [body] }) := Lib.hid (by rw [HK0.out, if_pos hrs.symm])
      have HRs : Hid ((sendS (X i).ss body).1 = 0) := Lib.hid hrs.symm
      clear hrs
      go_wp2_with fail
      refine wp_region_held_drew (S := (fun V => V.cell? ⟨pp, i, none⟩ = some (.pointer (some ⟨P i, 0, none⟩)) ∧ V.cell? ⟨w.heap.size, 2, none⟩ = some (.slice A0 n0 c0))) (by kernel_rfl) ⟨x0, o2⟩ (fun hHeld => ?_)
      refine wpAnyH_take (i := 0) (v := ?vv37) rfl (by kernel_rfl) (by kernel_rfl) (by kernel_rfl) (fun _ _ _ h => h) (Or.inl ⟨by rfl, ?hy37⟩) hHeld ?rr37
      case hy37 => (intro w' hSw; obtain ⟨s0, s1⟩ := hSw; go_simp; try with_reducible rfl)
      try simp only [Act.put, List.setIfInBounds_toArray, List.set_cons_zero, List.set_cons_succ, List.getElem_toArray, List.getElem_cons_succ, List.getElem_cons_zero]
      refine wpAnyH_take (i := 1) (v := ?vv38) rfl (by kernel_rfl) (by kernel_rfl) (by kernel_rfl) (fun _ _ _ h => h) (Or.inl ⟨by rfl, ?hy38⟩) hHeld ?rr38
      case hy38 => (intro w' hSw; obtain ⟨s0, s1⟩ := hSw; go_simp; try with_reducible rfl)
      try simp only [Act.put, List.setIfInBounds_toArray, List.set_cons_zero, List.set_cons_succ, List.getElem_toArray, List.getElem_cons_succ, List.getElem_cons_zero]
      refine wpAnyH_take (i := 2) (v := ?vv39) rfl (by kernel_rfl) (by kernel_rfl) (by kernel_rfl) (fun _ _ _ h => h) (Or.inl ⟨by rfl, ?hy39⟩) hHeld ?rr39
      case hy39 => (intro w' hSw; obtain ⟨s0, s1⟩ := hSw; go_simp; try with_reducible rfl)
      try simp only [Act.put, List.setIfInBounds_toArray, List.set_cons_zero, List.set_cons_succ, List.getElem_toArray, List.getElem_cons_succ, List.getElem_cons_zero]
      refine wpAnyH_take (i := 3) (v := ?vv40) rfl (by kernel_rfl) (by kernel_rfl) (by kernel_rfl) (fun _ _ _ h => h) (Or.inl ⟨by rfl, ?hy40⟩) hHeld ?rr40
      case hy40 => (intro w' hSw; obtain ⟨s0, s1⟩ := hSw; go_simp; try with_reducible rfl)
      try simp only [Act.put, List.setIfInBounds_toArray, List.set_cons_zero, List.set_cons_succ, List.getElem_toArray, List.getElem_cons_succ, List.getElem_cons_zero]
      refine wpAnyH_take (i := 4) (v := ?vv41) rfl (by kernel_rfl) (by kernel_rfl) (by kernel_rfl) (fun _ _ _ h => h) (Or.inl ⟨by rfl, ?hy41⟩) hHeld ?rr41
      case hy41 => (intro w' hSw; obtain ⟨s0, s1⟩ := hSw; go_simp; try with_reducible rfl)
      try simp only [Act.put, List.setIfInBounds_toArray, List.set_cons_zero, List.set_cons_succ, List.getElem_toArray, List.getElem_cons_succ, List.getElem_cons_zero]
      refine wpAnyH_take (i := 5) (v := ?vv42) rfl (by kernel_rfl) (by kernel_rfl) (by kernel_rfl) (fun _ _ _ h => h) (Or.inl ⟨by rfl, ?hy42⟩) hHeld ?rr42
      case hy42 => (intro w' hSw; obtain ⟨s0, s1⟩ := hSw; go_simp; try with_reducible rfl)
      try simp only [Act.put, List.setIfInBounds_toArray, List.set_cons_zero, List.set_cons_succ, List.getElem_toArray, List.getElem_cons_succ, List.getElem_cons_zero]
      refine wpAnyH_take (i := 7) (v := ?vv43) rfl (by kernel_rfl) (by kernel_rfl) (by kernel_rfl) (fun _ _ _ h => h) (Or.inl ⟨by rfl, ?hy43⟩) hHeld ?rr43
      case hy43 => (intro w' hSw; obtain ⟨s0, s1⟩ := hSw; go_simp; try with_reducible rfl)
      try simp only [Act.put, List.setIfInBounds_toArray, List.set_cons_zero, List.set_cons_succ, List.getElem_toArray, List.getElem_cons_succ, List.getElem_cons_zero]
      refine wpAnyH_take (i := 8) (v := ?vv44) rfl (by kernel_rfl) (by kernel_rfl) (by kernel_rfl) (fun _ _ _ h => h) (Or.inl ⟨by rfl, ?hy44⟩) hHeld ?rr44
      case hy44 => (intro w' hSw; obtain ⟨s0, s1⟩ := hSw; go_simp; try with_reducible rfl)
      try simp only [Act.put, List.setIfInBounds_toArray, List.set_cons_zero, List.set_cons_succ, List.getElem_toArray, List.getElem_cons_succ, List.getElem_cons_zero]
      refine wpAnyH_ready (rs := [6]) (by kernel_rfl) (by simp) ?_
      refine AllReadyH.cons rfl (fun K hK => ?_) AllReadyH.nil
      try rw [if_pos (by rfl)]
      go_simp
      refine hK.out _ _ ⟨cell_old _ x0, cell_old _ o2⟩ (fun hHeld2 => ?_)
      clear hK K hHeld
      have hHeld := hHeld2
      clear hHeld2
      try simp only [Act.put, List.setIfInBounds_toArray, List.set_cons_zero, List.set_cons_succ, List.getElem_toArray, List.getElem_cons_succ, List.getElem_cons_zero]
      have HWA : Hid (Below wc.heap.size wc ((wc.alloc (.cells #[] 5)).drew)) := Lib.hid (below_alloc _ _).drew
      obtain ⟨A3, c3, w3, hr3, hown3, hgrow3, hwh3⟩ := run_append_byt (P := Try.prog) (w := (wc.alloc (.cells #[] 5)).drew) 27 27 5 iu Try.underlying27 hiu hu0 hu1 hu2 wc.heap.size (.slice (some ⟨wc.heap.size, 0, none⟩) 0 0) [] (own_moved (p := fun _ => False) (World.ownsRow_made wc #[] 0 (Nat.le_refl _) (by decide) rfl) (Moved.drew (Moved.refl (fun _ => False) _)) (fun _ _ h => h)) A0 c0 body (HYc.out.byt.later HWA.out) (by simp only [List.length_nil, Nat.zero_add]; rw [← HN0.out]; exact HBl.out) HWA.out.size
      simp only [List.nil_append] at hr3 hown3 hwh3
      rw [← HN0.out] at hr3 hown3 hwh3
      have HB3 : Hid (Below wc.heap.size wc w3) := Lib.hid (HWA.out.grown hgrow3 HWA.out.size (fun k e2 => by simp [Value.ownBlock] at e2; omega))
      have H3 := Lib.hid (HXc.out.later HB3.out)
      have hO3 : OpBox w3 w.heap.size 1 b now A0 n0 c0 v3 v4 v5 v6 v7 v8 := (HB3.out.block _ (heap_lt HOc.out)).trans HOc.out
      have HO3 := Lib.hid hO3
      have o2a := hO3.cells.2.2.1
      have x0a := (H3.out.cell hi).1
      obtain ⟨A, c, vs0, bm, D, hS⟩ := H3.out.ses i hi
      have HSn : Hid (Calls Try.prog 11 #[.pointer (some ⟨P i, 0, none⟩), .slice A3 n0 c3] w3 (OpS (F i) (P i) (sendS (X i).ss body).2 (.int .i64 (sendS (X i).ss body).1) w3)) := Lib.hid (by
        have := send_any hS A3 body c3 (by rw [HN0.out] at hown3; exact (own_byu hown3).byt) (by have := HBl.out; rw [HN0.out] at this; omega)
        rw [← HN0.out] at this; exact this)
      clear hS hown3 hgrow3 hwh3 hO3
      refine wpAnyH_ready (rs := [9]) (by kernel_rfl) (by simp) ?_
      refine AllReadyH.cons rfl (fun K hK => ?_) AllReadyH.nil
      try rw [if_pos (by rfl)]
      refine oper_append_run (.tmp 52) (.tmp 54) 27 rfl _ _ _ _ rfl rfl hr3 ?_
      refine hK.out _ _ ⟨x0a, o2a⟩ (fun hHeld2 => ?_)
      clear hK K hHeld
      have hHeld := hHeld2
      clear hHeld2
      try simp only [Act.put, List.setIfInBounds_toArray, List.set_cons_zero, List.set_cons_succ, List.getElem_toArray, List.getElem_cons_succ, List.getElem_cons_zero]
      clear hr3
      refine wpAnyH_ready (rs := [10]) (by kernel_rfl) (by simp) ?_
      refine AllReadyH.cons rfl (fun K hK => ?_) AllReadyH.nil
      try rw [if_pos (by rfl)]
      go_simp
      go_at_call 11
      refine Calls.mono (HSn.out) ?_
      rintro e5 w5 ⟨rfl, hse, hmv, hku⟩
      have h5 := H3.out.call hi hse hmv hku
      have H5 := Lib.hid h5
      have hob : ¬ F i w.heap.size := fun e => by have := (HX.out.tight i hi _ e).2; omega
      have hO5 : OpBox w5 w.heap.size 1 b now A0 n0 c0 v3 v4 v5 v6 v7 v8 := hmv.heap HO3.out hob
      have o2b := hO5.cells.2.2.1
      have x0b := (h5.cell hi).1
      have hbF : Below B w w5 := (HBw.out.mono HX.out.lowle).trans ((HB3.out.mono HXc.out.lowle).trans (hmv.below (fun k _ hk => (H3.out.tight i hi k hk).1) H3.out.lowle))
      have hkF : Ku w w5 := (Below.ku HBw.out).trans ((Below.ku HB3.out).trans hku)
      have HBF := Lib.hid (And.intro hbF hkF)
      have HYb := Lib.hid (HY.out.kept hbF hkF)
      rw [HRs.out]
      clear h5 hse hmv hku hob hO5 hbF hkF
      go_wp2_with fail
      refine hK.out _ _ ⟨x0b, o2b⟩ (fun hHeld2 => ?_)
      clear hK K hHeld
      have hHeld := hHeld2
      clear hHeld2
      try simp only [Act.put, List.setIfInBounds_toArray, List.set_cons_zero, List.set_cons_succ, List.getElem_toArray, List.getElem_cons_succ, List.getElem_cons_zero]
      refine wpAnyH_take (i := 11) (v := ?vv45) rfl (by kernel_rfl) (by kernel_rfl) (by kernel_rfl) (fun _ _ _ h => h) (Or.inl ⟨by rfl, ?hy45⟩) hHeld ?rr45
      case hy45 => (intro w' hSw; obtain ⟨s0, s1⟩ := hSw; go_simp; try with_reducible rfl)
      try simp only [Act.put, List.setIfInBounds_toArray, List.set_cons_zero, List.set_cons_succ, List.getElem_toArray, List.getElem_cons_succ, List.getElem_cons_zero]
      refine wpAnyH_done (by kernel_rfl) ?_ _
      clear hHeld
      clear x0b x0 x0a o2a o2
      go_wp2_with fail
      obtain ⟨As, cs, vs, hsv, hsb, hsr, hsd⟩ := H5.out.s i hi
      have hsl := congrArg List.length hsb
      rw [List.length_map] at hsl
      obtain ⟨ns, hns⟩ : ∃ n, n = vs.length := ⟨_, rfl⟩
      rw [← hsl, ← hns] at hsr hsv
      have g6 := (H5.out.cell hi).2.2.2.1
      rw [hsv] at g6 hsr
      rw [upd_same] at hsb hsl
      have hns2 : ns ≤ 1000000 := by rw [hns, hsl]; have := HS0.out.2.1; have := HS0.out.2.2.2; show (X i).sent.length ≤ _; omega
      have HSd := Lib.hid (And.intro hsb (And.intro hsr (And.intro hsd hns.symm)))
      clear hsv hsb hsr hsd hsl hns
      refine wp_region_heldz_drew (S := (fun V => V.cell? ⟨pp, 6 + i, none⟩ = some (.slice As ns cs) ∧ V.cell? ⟨w.heap.size, 2, none⟩ = some (.slice A0 n0 c0))) 17 (by kernel_rfl) ⟨g6, o2b⟩ (fun hHeld => ?_)
      refine wpAnyZ_take (i := 0) (v := ?vv25) rfl (by kernel_rfl) (by kernel_rfl) (by kernel_rfl) (fun _ _ _ h => h) (Or.inl ⟨by rfl, ?hy25⟩) hHeld ?rr25
      case hy25 => (intro w' hSw; obtain ⟨s0, s1⟩ := hSw; go_simp; try with_reducible rfl)
      try simp only [Act.put, List.setIfInBounds_toArray, List.set_cons_zero, List.set_cons_succ, List.getElem_toArray, List.getElem_cons_succ, List.getElem_cons_zero]
      refine wpAnyZ_take (i := 1) (v := ?vv26) rfl (by kernel_rfl) (by kernel_rfl) (by kernel_rfl) (fun _ _ _ h => h) (Or.inl ⟨by rfl, ?hy26⟩) hHeld ?rr26
      case hy26 => (intro w' hSw; obtain ⟨s0, s1⟩ := hSw; go_simp; try with_reducible rfl)
      try simp only [Act.put, List.setIfInBounds_toArray, List.set_cons_zero, List.set_cons_succ, List.getElem_toArray, List.getElem_cons_succ, List.getElem_cons_zero]
      refine wpAnyZ_take (i := 3) (v := ?vv27) rfl (by kernel_rfl) (by kernel_rfl) (by kernel_rfl) (fun _ _ _ h => h) (Or.inl ⟨by rfl, ?hy27⟩) hHeld ?rr27
      case hy27 => (intro w' hSw; obtain ⟨s0, s1⟩ := hSw; go_simp; try with_reducible rfl)
      try simp only [Act.put, List.setIfInBounds_toArray, List.set_cons_zero, List.set_cons_succ, List.getElem_toArray, List.getElem_cons_succ, List.getElem_cons_zero]
      refine wpAnyZ_take (i := 4) (v := ?vv28) rfl (by kernel_rfl) (by kernel_rfl) (by kernel_rfl) (fun _ _ _ h => h) (Or.inl ⟨by rfl, ?hy28⟩) hHeld ?rr28
      case hy28 => (intro w' hSw; obtain ⟨s0, s1⟩ := hSw; go_simp; try with_reducible rfl)
      try simp only [Act.put, List.setIfInBounds_toArray, List.set_cons_zero, List.set_cons_succ, List.getElem_toArray, List.getElem_cons_succ, List.getElem_cons_zero]
      refine wpAnyZ_take (i := 5) (v := ?vv29) rfl (by kernel_rfl) (by kernel_rfl) (by kernel_rfl) (fun _ _ _ h => h) (Or.inl ⟨by rfl, ?hy29⟩) hHeld ?rr29
      case hy29 => (intro w' hSw; obtain ⟨s0, s1⟩ := hSw; go_simp; try with_reducible rfl)
      try simp only [Act.put, List.setIfInBounds_toArray, List.set_cons_zero, List.set_cons_succ, List.getElem_toArray, List.getElem_cons_succ, List.getElem_cons_zero]
      refine wpAnyZ_take (i := 6) (v := ?vv30) rfl (by kernel_rfl) (by kernel_rfl) (by kernel_rfl) (fun _ _ _ h => h) (Or.inl ⟨by rfl, ?hy30⟩) hHeld ?rr30
      case hy30 => (intro w' hSw; obtain ⟨s0, s1⟩ := hSw; go_simp; try with_reducible rfl)
      try simp only [Act.put, List.setIfInBounds_toArray, List.set_cons_zero, List.set_cons_succ, List.getElem_toArray, List.getElem_cons_succ, List.getElem_cons_zero]
      refine wpAnyZ_take (i := 7) (v := ?vv31) rfl (by kernel_rfl) (by kernel_rfl) (by kernel_rfl) (fun _ _ _ h => h) (Or.inl ⟨by rfl, ?hy31⟩) hHeld ?rr31
      case hy31 => (intro w' hSw; obtain ⟨s0, s1⟩ := hSw; go_simp; try with_reducible rfl)
      try simp only [Act.put, List.setIfInBounds_toArray, List.set_cons_zero, List.set_cons_succ, List.getElem_toArray, List.getElem_cons_succ, List.getElem_cons_zero]
      refine wpAnyZ_take (i := 8) (v := ?vv32) rfl (by kernel_rfl) (by kernel_rfl) (by kernel_rfl) (fun _ _ _ h => h) (Or.inl ⟨by rfl, ?hy32⟩) hHeld ?rr32
      case hy32 => (intro w' hSw; obtain ⟨s0, s1⟩ := hSw; go_simp; try with_reducible rfl)
      try simp only [Act.put, List.setIfInBounds_toArray, List.set_cons_zero, List.set_cons_succ, List.getElem_toArray, List.getElem_cons_succ, List.getElem_cons_zero]
      refine wpAnyZ_take (i := 10) (v := ?vv33) rfl (by kernel_rfl) (by kernel_rfl) (by kernel_rfl) (fun _ _ _ h => h) (Or.inl ⟨by rfl, ?hy33⟩) hHeld ?rr33
      case hy33 => (intro w' hSw; obtain ⟨s0, s1⟩ := hSw; go_simp; try with_reducible rfl)
      try simp only [Act.put, List.setIfInBounds_toArray, List.set_cons_zero, List.set_cons_succ, List.getElem_toArray, List.getElem_cons_succ, List.getElem_cons_zero]
      refine wpAnyZ_take (i := 11) (v := ?vv34) rfl (by kernel_rfl) (by kernel_rfl) (by kernel_rfl) (fun _ _ _ h => h) (Or.inl ⟨by rfl, ?hy34⟩) hHeld ?rr34
      case hy34 => (intro w' hSw; obtain ⟨s0, s1⟩ := hSw; go_simp; try with_reducible rfl)
      try simp only [Act.put, List.setIfInBounds_toArray, List.set_cons_zero, List.set_cons_succ, List.getElem_toArray, List.getElem_cons_succ, List.getElem_cons_zero]
      refine wpAnyZ_takeC [15, 16] (i := 14) (v := ?vv35) rfl (by kernel_rfl) (by kernel_rfl) (by kernel_rfl) (fun _ _ _ h => h) (Or.inl ⟨by rfl, ?hy35⟩) hHeld ?rr35
      case hy35 => (intro w' hSw; obtain ⟨s0, s1⟩ := hSw; go_simp; try with_reducible rfl)
      try simp only [Act.put, List.setIfInBounds_toArray, List.set_cons_zero, List.set_cons_succ, List.getElem_toArray, List.getElem_cons_succ, List.getElem_cons_zero]
      refine wpAnyZ_takeC [16] (i := 15) (v := ?vv36) rfl (by kernel_rfl) (by kernel_rfl) (by kernel_rfl) (fun _ _ _ h => h) (Or.inl ⟨by rfl, ?hy36⟩) hHeld ?rr36
      case hy36 => (intro w' hSw; obtain ⟨s0, s1⟩ := hSw; go_simp; try with_reducible rfl)
      try simp only [Act.put, List.setIfInBounds_toArray, List.set_cons_zero, List.set_cons_succ, List.getElem_toArray, List.getElem_cons_succ, List.getElem_cons_zero]
      refine wpAnyZ_ready (rs := [2, 12]) (by kernel_rfl) (by simp) ?_
      refine AllReadyZ.cons rfl (fun K hK => ?_) (AllReadyZ.cons rfl (fun K hK => ?_) AllReadyZ.nil)
      · try rw [if_pos (by rfl)]
        go_simp
        have hb0 : Below w5.heap.size w5 ((w5.alloc (.cells #[] 27)).drew) := (below_alloc _ _).drew
        have hl0 : Below w5.heap.size w5 ((w5.alloc (.cells #[] 27)).drew) := (below_alloc _ _).drew
        refine hK.out _ _ ⟨cell_later hb0 g6, cell_later hb0 o2b⟩ (fun hHeld2 => ?_)
        clear hK K hHeld
        have hHeld := hHeld2
        clear hHeld2
        try simp only [Act.put, List.setIfInBounds_toArray, List.set_cons_zero, List.set_cons_succ, List.getElem_toArray, List.getElem_cons_succ, List.getElem_cons_zero]
        obtain ⟨wa, hnm⟩ : ∃ x, x = (w5.alloc (.cells #[] 27)).drew := ⟨_, rfl⟩
        rw [← hnm] at hb0 hl0 ⊢
        have HBwa := Lib.hid hb0
        have HLwa := Lib.hid hl0
        have hzwa : w5.heap.size < wa.heap.size := by rw [hnm]; simp
        have HEwa : Hid (wa.ownsRow w5.heap.size 27 1 (.slice (some ⟨w5.heap.size, 0, none⟩) 0 0) 0 []) := Lib.hid (by rw [hnm]; exact own_moved (p := fun _ => False) (World.ownsRow_made w5 #[] 0 (Nat.le_refl _) (by decide) rfl) (Moved.drew (Moved.refl (fun _ => False) _)) (fun _ _ h => h))
        clear hb0 hl0 hnm
        refine wpAnyZ_ready (rs := [9, 12]) (by kernel_rfl) (by simp) ?_
        refine AllReadyZ.cons rfl (fun K hK => ?_) (AllReadyZ.cons rfl (fun K hK => ?_) AllReadyZ.nil)
        · try rw [if_pos (by rfl)]
          refine oper_append_k _ (.tmp 60) (.tmp 66) 34 rfl 27 i0 (.slice none 0 0) 1 24 Try.underlying34 hinfo hz0 hzs hz2 rfl (by decide) w5.heap.size (.slice (some ⟨w5.heap.size, 0, none⟩) 0 0) 0 [] rfl HEwa.out As ns cs (vs.map SlV.val) rfl (by rw [List.length_map, HSd.out.2.2.2, Nat.mul_one]) (own_news (own_moved (p := fun _ => False) HSd.out.2.1 (Below.movedNew HBwa.out) (fun _ _ h => h)) (by decide)) (slv_one vs) (by unfold maxLen; omega) (by omega) HBwa.out.size ?_
          intro A8 c8 w8 hown8 hgrow8 hwh8
          simp only [Nat.zero_add, List.nil_append] at hown8 hgrow8 hwh8 ⊢
          have HBw8 : Hid (Below w5.heap.size w5 w8) := Lib.hid (HBwa.out.grown hgrow8 HBwa.out.size (fun k e2 => by simp [Value.ownBlock] at e2; omega))
          have HO8 := Lib.hid hown8
          have g6w := cell_later HBw8.out g6
          have o2w := cell_later HBw8.out o2b
          clear hown8 hgrow8 hwh8
          refine hK.out _ _ ⟨g6w, o2w⟩ (fun hHeld2 => ?_)
          clear hK K hHeld
          have hHeld := hHeld2
          clear hHeld2
          try simp only [Act.put, List.setIfInBounds_toArray, List.set_cons_zero, List.set_cons_succ, List.getElem_toArray, List.getElem_cons_succ, List.getElem_cons_zero]
          refine wpAnyZ_ready (rs := [12]) (by kernel_rfl) (by simp) ?_
          refine AllReadyZ.cons rfl (fun K hK => ?_) AllReadyZ.nil
          try rw [if_pos (by rfl)]
          go_simp
          have hb0 : Below w5.heap.size w5 (w8.alloc (.cells #[.slice A0 n0 c0] 27)) := HBw8.out.trans ((below_alloc _ _).mono HBw8.out.size)
          have hl0 : Below w8.heap.size w8 (w8.alloc (.cells #[.slice A0 n0 c0] 27)) := below_alloc _ _
          refine hK.out _ _ ⟨cell_later hb0 g6, cell_later hb0 o2b⟩ (fun hHeld2 => ?_)
          clear hK K hHeld
          have hHeld := hHeld2
          clear hHeld2
          try simp only [Act.put, List.setIfInBounds_toArray, List.set_cons_zero, List.set_cons_succ, List.getElem_toArray, List.getElem_cons_succ, List.getElem_cons_zero]
          obtain ⟨wb, hnm⟩ : ∃ x, x = w8.alloc (.cells #[.slice A0 n0 c0] 27) := ⟨_, rfl⟩
          rw [← hnm] at hb0 hl0 ⊢
          have HBwb := Lib.hid hb0
          have HLwb := Lib.hid hl0
          have hzwb : w8.heap.size < wb.heap.size := by rw [hnm]; simp
          have HKwb : Hid (wb.heap[w8.heap.size]? = some (.cells #[.slice A0 n0 c0] 27 (0, 0))) := Lib.hid (by rw [hnm]; exact heap_new w8 _)
          clear hb0 hl0 hnm
          have HO8b : Hid (wb.ownsRow w5.heap.size 27 1 (.slice A8 ns c8) ns (vs.map SlV.val)) := Lib.hid (own_moved (p := fun _ => False) HO8.out (Below.movedNew HLwb.out) (fun _ _ h => h))
          refine wpAnyZ_ready (rs := [13]) (by kernel_rfl) (by simp) ?_
          refine AllReadyZ.cons rfl (fun K hK => ?_) AllReadyZ.nil
          try rw [if_pos (by rfl)]
          refine oper_append_k _ (.tmp 67) (.tmp 70) 34 rfl 27 i0 (.slice none 0 0) 1 24 Try.underlying34 hinfo hz0 hzs hz2 rfl (by decide) w5.heap.size _ ns (vs.map SlV.val) rfl HO8b.out (some ⟨w8.heap.size, 0, none⟩) 1 1 [.slice A0 n0 c0] rfl rfl (fun _ => ⟨_, rfl, cells_of_block HKwb.out⟩) (fun u hu => by rw [List.mem_singleton.1 hu]; rfl) (by unfold maxLen; omega) (by omega) HBwb.out.size ?_
          intro A9 c9 w9 hown9 hgrow9 hwh9
          have HB9 : Hid (Below w5.heap.size w5 w9) := Lib.hid (HBwb.out.grown hgrow9 HBwb.out.size (fun k e2 => (HO8b.out.lt k e2).1))
          have hcat : vs.map SlV.val ++ [Value.slice A0 n0 c0] = (vs ++ [(⟨body, A0, c0⟩ : SlV)]).map SlV.val := by rw [List.map_append, HN0.out]; rfl
          rw [hcat] at hown9
          have HO9 := Lib.hid hown9
          have g6c := cell_later HB9.out g6
          have o2c := cell_later HB9.out o2b
          have f6c : w9.frozen? ⟨pp, 6 + i, none⟩ = false := (H5.out.later HB9.out).free (6 + i)
          clear hown9 hgrow9 hwh9 hcat
          refine hK.out _ _ ⟨g6c, o2c⟩ (fun hHeld2 => ?_)
          clear hK K hHeld
          have hHeld := hHeld2
          clear hHeld2
          try simp only [Act.put, List.setIfInBounds_toArray, List.set_cons_zero, List.set_cons_succ, List.getElem_toArray, List.getElem_cons_succ, List.getElem_cons_zero]
          refine wpAnyZ_take (i := 16) (v := ?vv22) rfl (by kernel_rfl) (by kernel_rfl) (by kernel_rfl) (fun _ _ _ h => h) (Or.inl ⟨by rfl, ?hy22⟩) hHeld ?rr22
          case hy22 => (intro w' hSw; obtain ⟨s0, s1⟩ := hSw; go_simp; try with_reducible rfl)
          try simp only [Act.put, List.setIfInBounds_toArray, List.set_cons_zero, List.set_cons_succ, List.getElem_toArray, List.getElem_cons_succ, List.getElem_cons_zero]
          refine wpAnyZ_ready (rs := [17]) (by kernel_rfl) (by simp) ?_
          refine AllReadyZ.last rfl (fun K hK => ?_)
          try rw [if_pos (by rfl)]
          go_simp
          refine hK.out _ _ ?_
          clear hK K hHeld
          try simp only [Act.put, List.setIfInBounds_toArray, List.set_cons_zero, List.set_cons_succ, List.getElem_toArray, List.getElem_cons_succ, List.getElem_cons_zero]
          refine wpAnyZ_done (by kernel_rfl) ?_ _
          go_wp2
          go_ret
          obtain ⟨q1, q2, q3⟩ := H5.out.newS hi (vs := vs ++ [⟨body, A0, c0⟩]) HB9.out (by rw [List.length_append, HSd.out.2.2.2]; rfl) HO9.out (fun x hx => by
            rcases List.mem_append.1 hx with hx | hx
            · exact (HSd.out.2.2.1 x hx).kept (HB9.out.mono H5.out.lowle) (Below.ku HB9.out)
            · rw [List.mem_singleton.1 hx]; exact HYb.out.kept (HB9.out.mono H5.out.lowle) (Below.ku HB9.out))
          refine ⟨rfl, ?_, HBF.out.1.trans q2, HBF.out.2.trans q3⟩
          have q6 := q1.to
          rw [List.map_append, HSd.out.1, upd_upd, upd_same] at q6
          rw [HK.out]
          exact q6
        · try rw [if_pos (by rfl)]
          go_simp
          have hb0 : Below w5.heap.size w5 (wa.alloc (.cells #[.slice A0 n0 c0] 27)) := HBwa.out.trans ((below_alloc _ _).mono HBwa.out.size)
          have hl0 : Below wa.heap.size wa (wa.alloc (.cells #[.slice A0 n0 c0] 27)) := below_alloc _ _
          refine hK.out _ _ ⟨cell_later hb0 g6, cell_later hb0 o2b⟩ (fun hHeld2 => ?_)
          clear hK K hHeld
          have hHeld := hHeld2
          clear hHeld2
          try simp only [Act.put, List.setIfInBounds_toArray, List.set_cons_zero, List.set_cons_succ, List.getElem_toArray, List.getElem_cons_succ, List.getElem_cons_zero]
          obtain ⟨wb, hnm⟩ : ∃ x, x = wa.alloc (.cells #[.slice A0 n0 c0] 27) := ⟨_, rfl⟩
          rw [← hnm] at hb0 hl0 ⊢
          have HBwb := Lib.hid hb0
          have HLwb := Lib.hid hl0
          have hzwb : wa.heap.size < wb.heap.size := by rw [hnm]; simp
          have HKwb : Hid (wb.heap[wa.heap.size]? = some (.cells #[.slice A0 n0 c0] 27 (0, 0))) := Lib.hid (by rw [hnm]; exact heap_new wa _)
          clear hb0 hl0 hnm
          have HEb : Hid (wb.ownsRow w5.heap.size 27 1 (.slice (some ⟨w5.heap.size, 0, none⟩) 0 0) 0 []) := Lib.hid (own_moved (p := fun _ => False) HEwa.out (Below.movedNew HLwb.out) (fun _ _ h => h))
          refine wpAnyZ_ready (rs := [9]) (by kernel_rfl) (by simp) ?_
          refine AllReadyZ.cons rfl (fun K hK => ?_) AllReadyZ.nil
          try rw [if_pos (by rfl)]
          refine oper_append_k _ (.tmp 60) (.tmp 66) 34 rfl 27 i0 (.slice none 0 0) 1 24 Try.underlying34 hinfo hz0 hzs hz2 rfl (by decide) w5.heap.size (.slice (some ⟨w5.heap.size, 0, none⟩) 0 0) 0 [] rfl HEb.out As ns cs (vs.map SlV.val) rfl (by rw [List.length_map, HSd.out.2.2.2, Nat.mul_one]) (own_news (own_moved (p := fun _ => False) HSd.out.2.1 (Below.movedNew HBwb.out) (fun _ _ h => h)) (by decide)) (slv_one vs) (by unfold maxLen; omega) (by omega) HBwb.out.size ?_
          intro A8 c8 w8 hown8 hgrow8 hwh8
          simp only [Nat.zero_add, List.nil_append] at hown8 hgrow8 hwh8 ⊢
          have HBw8 : Hid (Below w5.heap.size w5 w8) := Lib.hid (HBwb.out.grown hgrow8 HBwb.out.size (fun k e2 => by simp [Value.ownBlock] at e2; omega))
          have HO8 := Lib.hid hown8
          have HK8 : Hid (w8.heap[wa.heap.size]? = some (.cells #[.slice A0 n0 c0] 27 (0, 0))) := Lib.hid ((hgrow8.block wa.heap.size (heap_lt HKwb.out) (fun e => by simp [Value.ownBlock] at e; omega)).trans HKwb.out)
          have g6w := cell_later HBw8.out g6
          have o2w := cell_later HBw8.out o2b
          clear hown8 hgrow8 hwh8
          refine hK.out _ _ ⟨g6w, o2w⟩ (fun hHeld2 => ?_)
          clear hK K hHeld
          have hHeld := hHeld2
          clear hHeld2
          try simp only [Act.put, List.setIfInBounds_toArray, List.set_cons_zero, List.set_cons_succ, List.getElem_toArray, List.getElem_cons_succ, List.getElem_cons_zero]
          refine wpAnyZ_ready (rs := [13]) (by kernel_rfl) (by simp) ?_
          refine AllReadyZ.cons rfl (fun K hK => ?_) AllReadyZ.nil
          try rw [if_pos (by rfl)]
          refine oper_append_k _ (.tmp 67) (.tmp 70) 34 rfl 27 i0 (.slice none 0 0) 1 24 Try.underlying34 hinfo hz0 hzs hz2 rfl (by decide) w5.heap.size _ ns (vs.map SlV.val) rfl HO8.out (some ⟨wa.heap.size, 0, none⟩) 1 1 [.slice A0 n0 c0] rfl rfl (fun _ => ⟨_, rfl, cells_of_block HK8.out⟩) (fun u hu => by rw [List.mem_singleton.1 hu]; rfl) (by unfold maxLen; omega) (by omega) HBw8.out.size ?_
          intro A9 c9 w9 hown9 hgrow9 hwh9
          have HB9 : Hid (Below w5.heap.size w5 w9) := Lib.hid (HBw8.out.grown hgrow9 HBw8.out.size (fun k e2 => (HO8.out.lt k e2).1))
          have hcat : vs.map SlV.val ++ [Value.slice A0 n0 c0] = (vs ++ [(⟨body, A0, c0⟩ : SlV)]).map SlV.val := by rw [List.map_append, HN0.out]; rfl
          rw [hcat] at hown9
          have HO9 := Lib.hid hown9
          have g6c := cell_later HB9.out g6
          have o2c := cell_later HB9.out o2b
          have f6c : w9.frozen? ⟨pp, 6 + i, none⟩ = false := (H5.out.later HB9.out).free (6 + i)
          clear hown9 hgrow9 hwh9 hcat
          refine hK.out _ _ ⟨g6c, o2c⟩ (fun hHeld2 => ?_)
          clear hK K hHeld
          have hHeld := hHeld2
          clear hHeld2
          try simp only [Act.put, List.setIfInBounds_toArray, List.set_cons_zero, List.set_cons_succ, List.getElem_toArray, List.getElem_cons_succ, List.getElem_cons_zero]
          refine wpAnyZ_take (i := 16) (v := ?vv23) rfl (by kernel_rfl) (by kernel_rfl) (by kernel_rfl) (fun _ _ _ h => h) (Or.inl ⟨by rfl, ?hy23⟩) hHeld ?rr23
          case hy23 => (intro w' hSw; obtain ⟨s0, s1⟩ := hSw; go_simp; try with_reducible rfl)
          try simp only [Act.put, List.setIfInBounds_toArray, List.set_cons_zero, List.set_cons_succ, List.getElem_toArray, List.getElem_cons_succ, List.getElem_cons_zero]
          refine wpAnyZ_ready (rs := [17]) (by kernel_rfl) (by simp) ?_
          refine AllReadyZ.last rfl (fun K hK => ?_)
          try rw [if_pos (by rfl)]
          go_simp
          refine hK.out _ _ ?_
          clear hK K hHeld
          try simp only [Act.put, List.setIfInBounds_toArray, List.set_cons_zero, List.set_cons_succ, List.getElem_toArray, List.getElem_cons_succ, List.getElem_cons_zero]
          refine wpAnyZ_done (by kernel_rfl) ?_ _
          go_wp2
          go_ret
          obtain ⟨q1, q2, q3⟩ := H5.out.newS hi (vs := vs ++ [⟨body, A0, c0⟩]) HB9.out (by rw [List.length_append, HSd.out.2.2.2]; rfl) HO9.out (fun x hx => by
            rcases List.mem_append.1 hx with hx | hx
            · exact (HSd.out.2.2.1 x hx).kept (HB9.out.mono H5.out.lowle) (Below.ku HB9.out)
            · rw [List.mem_singleton.1 hx]; exact HYb.out.kept (HB9.out.mono H5.out.lowle) (Below.ku HB9.out))
          refine ⟨rfl, ?_, HBF.out.1.trans q2, HBF.out.2.trans q3⟩
          have q6 := q1.to
          rw [List.map_append, HSd.out.1, upd_upd, upd_same] at q6
          rw [HK.out]
          exact q6
      · try rw [if_pos (by rfl)]
        go_simp
        have hb0 : Below w5.heap.size w5 ((w5.alloc (.cells #[.slice A0 n0 c0] 27)).drew) := (below_alloc _ _).drew
        have hl0 : Below w5.heap.size w5 ((w5.alloc (.cells #[.slice A0 n0 c0] 27)).drew) := (below_alloc _ _).drew
        refine hK.out _ _ ⟨cell_later hb0 g6, cell_later hb0 o2b⟩ (fun hHeld2 => ?_)
        clear hK K hHeld
        have hHeld := hHeld2
        clear hHeld2
        try simp only [Act.put, List.setIfInBounds_toArray, List.set_cons_zero, List.set_cons_succ, List.getElem_toArray, List.getElem_cons_succ, List.getElem_cons_zero]
        obtain ⟨wa, hnm⟩ : ∃ x, x = (w5.alloc (.cells #[.slice A0 n0 c0] 27)).drew := ⟨_, rfl⟩
        rw [← hnm] at hb0 hl0 ⊢
        have HBwa := Lib.hid hb0
        have HLwa := Lib.hid hl0
        have hzwa : w5.heap.size < wa.heap.size := by rw [hnm]; simp
        have HKwa : Hid (wa.heap[w5.heap.size]? = some (.cells #[.slice A0 n0 c0] 27 (0, 0))) := Lib.hid (by rw [hnm]; exact heap_new w5 _)
        clear hb0 hl0 hnm
        refine wpAnyZ_ready (rs := [2]) (by kernel_rfl) (by simp) ?_
        refine AllReadyZ.cons rfl (fun K hK => ?_) AllReadyZ.nil
        try rw [if_pos (by rfl)]
        go_simp
        have hb0 : Below w5.heap.size w5 (wa.alloc (.cells #[] 27)) := HBwa.out.trans ((below_alloc _ _).mono HBwa.out.size)
        have hl0 : Below wa.heap.size wa (wa.alloc (.cells #[] 27)) := below_alloc _ _
        refine hK.out _ _ ⟨cell_later hb0 g6, cell_later hb0 o2b⟩ (fun hHeld2 => ?_)
        clear hK K hHeld
        have hHeld := hHeld2
        clear hHeld2
        try simp only [Act.put, List.setIfInBounds_toArray, List.set_cons_zero, List.set_cons_succ, List.getElem_toArray, List.getElem_cons_succ, List.getElem_cons_zero]
        obtain ⟨wb, hnm⟩ : ∃ x, x = wa.alloc (.cells #[] 27) := ⟨_, rfl⟩
        rw [← hnm] at hb0 hl0 ⊢
        have HBwb := Lib.hid hb0
        have HLwb := Lib.hid hl0
        have hzwb : wa.heap.size < wb.heap.size := by rw [hnm]; simp
        have HEwb : Hid (wb.ownsRow w5.heap.size 27 1 (.slice (some ⟨wa.heap.size, 0, none⟩) 0 0) 0 []) := Lib.hid (by rw [hnm]; exact World.ownsRow_made wa #[] 0 HBwa.out.size (by decide) rfl)
        clear hb0 hl0 hnm
        have HKb : Hid (wb.heap[w5.heap.size]? = some (.cells #[.slice A0 n0 c0] 27 (0, 0))) := Lib.hid ((HLwb.out.block _ (heap_lt HKwa.out)).trans HKwa.out)
        refine wpAnyZ_ready (rs := [9]) (by kernel_rfl) (by simp) ?_
        refine AllReadyZ.cons rfl (fun K hK => ?_) AllReadyZ.nil
        try rw [if_pos (by rfl)]
        refine oper_append_k _ (.tmp 60) (.tmp 66) 34 rfl 27 i0 (.slice none 0 0) 1 24 Try.underlying34 hinfo hz0 hzs hz2 rfl (by decide) w5.heap.size (.slice (some ⟨wa.heap.size, 0, none⟩) 0 0) 0 [] rfl HEwb.out As ns cs (vs.map SlV.val) rfl (by rw [List.length_map, HSd.out.2.2.2, Nat.mul_one]) (own_news (own_moved (p := fun _ => False) HSd.out.2.1 (Below.movedNew HBwb.out) (fun _ _ h => h)) (by decide)) (slv_one vs) (by unfold maxLen; omega) (by omega) HBwb.out.size ?_
        intro A8 c8 w8 hown8 hgrow8 hwh8
        simp only [Nat.zero_add, List.nil_append] at hown8 hgrow8 hwh8 ⊢
        have HBw8 : Hid (Below w5.heap.size w5 w8) := Lib.hid (HBwb.out.grown hgrow8 HBwb.out.size (fun k e2 => by simp [Value.ownBlock] at e2; omega))
        have HO8 := Lib.hid hown8
        have HK8 : Hid (w8.heap[w5.heap.size]? = some (.cells #[.slice A0 n0 c0] 27 (0, 0))) := Lib.hid ((hgrow8.block w5.heap.size (heap_lt HKb.out) (fun e => by simp [Value.ownBlock] at e; omega)).trans HKb.out)
        have g6w := cell_later HBw8.out g6
        have o2w := cell_later HBw8.out o2b
        clear hown8 hgrow8 hwh8
        refine hK.out _ _ ⟨g6w, o2w⟩ (fun hHeld2 => ?_)
        clear hK K hHeld
        have hHeld := hHeld2
        clear hHeld2
        try simp only [Act.put, List.setIfInBounds_toArray, List.set_cons_zero, List.set_cons_succ, List.getElem_toArray, List.getElem_cons_succ, List.getElem_cons_zero]
        refine wpAnyZ_ready (rs := [13]) (by kernel_rfl) (by simp) ?_
        refine AllReadyZ.cons rfl (fun K hK => ?_) AllReadyZ.nil
        try rw [if_pos (by rfl)]
        refine oper_append_k _ (.tmp 67) (.tmp 70) 34 rfl 27 i0 (.slice none 0 0) 1 24 Try.underlying34 hinfo hz0 hzs hz2 rfl (by decide) w5.heap.size _ ns (vs.map SlV.val) rfl HO8.out (some ⟨w5.heap.size, 0, none⟩) 1 1 [.slice A0 n0 c0] rfl rfl (fun _ => ⟨_, rfl, cells_of_block HK8.out⟩) (fun u hu => by rw [List.mem_singleton.1 hu]; rfl) (by unfold maxLen; omega) (by omega) HBw8.out.size ?_
        intro A9 c9 w9 hown9 hgrow9 hwh9
        have HB9 : Hid (Below w5.heap.size w5 w9) := Lib.hid (HBw8.out.grown hgrow9 HBw8.out.size (fun k e2 => (HO8.out.lt k e2).1))
        have hcat : vs.map SlV.val ++ [Value.slice A0 n0 c0] = (vs ++ [(⟨body, A0, c0⟩ : SlV)]).map SlV.val := by rw [List.map_append, HN0.out]; rfl
        rw [hcat] at hown9
        have HO9 := Lib.hid hown9
        have g6c := cell_later HB9.out g6
        have o2c := cell_later HB9.out o2b
        have f6c : w9.frozen? ⟨pp, 6 + i, none⟩ = false := (H5.out.later HB9.out).free (6 + i)
        clear hown9 hgrow9 hwh9 hcat
        refine hK.out _ _ ⟨g6c, o2c⟩ (fun hHeld2 => ?_)
        clear hK K hHeld
        have hHeld := hHeld2
        clear hHeld2
        try simp only [Act.put, List.setIfInBounds_toArray, List.set_cons_zero, List.set_cons_succ, List.getElem_toArray, List.getElem_cons_succ, List.getElem_cons_zero]
        refine wpAnyZ_take (i := 16) (v := ?vv24) rfl (by kernel_rfl) (by kernel_rfl) (by kernel_rfl) (fun _ _ _ h => h) (Or.inl ⟨by rfl, ?hy24⟩) hHeld ?rr24
        case hy24 => (intro w' hSw; obtain ⟨s0, s1⟩ := hSw; go_simp; try with_reducible rfl)
        try simp only [Act.put, List.setIfInBounds_toArray, List.set_cons_zero, List.set_cons_succ, List.getElem_toArray, List.getElem_cons_succ, List.getElem_cons_zero]
        refine wpAnyZ_ready (rs := [17]) (by kernel_rfl) (by simp) ?_
        refine AllReadyZ.last rfl (fun K hK => ?_)
        try rw [if_pos (by rfl)]
        go_simp
        refine hK.out _ _ ?_
        clear hK K hHeld
        try simp only [Act.put, List.setIfInBounds_toArray, List.set_cons_zero, List.set_cons_succ, List.getElem_toArray, List.getElem_cons_succ, List.getElem_cons_zero]
        refine wpAnyZ_done (by kernel_rfl) ?_ _
        go_wp2
        go_ret
        obtain ⟨q1, q2, q3⟩ := H5.out.newS hi (vs := vs ++ [⟨body, A0, c0⟩]) HB9.out (by rw [List.length_append, HSd.out.2.2.2]; rfl) HO9.out (fun x hx => by
          rcases List.mem_append.1 hx with hx | hx
          · exact (HSd.out.2.2.1 x hx).kept (HB9.out.mono H5.out.lowle) (Below.ku HB9.out)
          · rw [List.mem_singleton.1 hx]; exact HYb.out.kept (HB9.out.mono H5.out.lowle) (Below.ku HB9.out))
        refine ⟨rfl, ?_, HBF.out.1.trans q2, HBF.out.2.trans q3⟩
        have q6 := q1.to
        rw [List.map_append, HSd.out.1, upd_upd, upd_same] at q6
        rw [HK.out]
        exact q6
    · have HK : Hid (doX 1 now body i X = upd X i { X i with ss := (sendS (X i).ss body).2 }) := Lib.hid (by rw [HK0.out, if_neg (fun e => hz (hrs.trans e))])
      have HRs : Hid (EqI (sendS (X i).ss body).1 rs) := Lib.hid hrs.symm
      have d0 : (rs == 0) = false := by simpa using hz
      clear hrs hz
      go_wp2_with fail
      refine wp_region_held_drew (S := (fun V => V.cell? ⟨pp, i, none⟩ = some (.pointer (some ⟨P i, 0, none⟩)) ∧ V.cell? ⟨w.heap.size, 2, none⟩ = some (.slice A0 n0 c0))) (by kernel_rfl) ⟨x0, o2⟩ (fun hHeld => ?_)
      refine wpAnyH_take (i := 0) (v := ?vv46) rfl (by kernel_rfl) (by kernel_rfl) (by kernel_rfl) (fun _ _ _ h => h) (Or.inl ⟨by rfl, ?hy46⟩) hHeld ?rr46
      case hy46 => (intro w' hSw; obtain ⟨s0, s1⟩ := hSw; go_simp; try with_reducible rfl)
      try simp only [Act.put, List.setIfInBounds_toArray, List.set_cons_zero, List.set_cons_succ, List.getElem_toArray, List.getElem_cons_succ, List.getElem_cons_zero]
      refine wpAnyH_take (i := 1) (v := ?vv47) rfl (by kernel_rfl) (by kernel_rfl) (by kernel_rfl) (fun _ _ _ h => h) (Or.inl ⟨by rfl, ?hy47⟩) hHeld ?rr47
      case hy47 => (intro w' hSw; obtain ⟨s0, s1⟩ := hSw; go_simp; try with_reducible rfl)
      try simp only [Act.put, List.setIfInBounds_toArray, List.set_cons_zero, List.set_cons_succ, List.getElem_toArray, List.getElem_cons_succ, List.getElem_cons_zero]
      refine wpAnyH_take (i := 2) (v := ?vv48) rfl (by kernel_rfl) (by kernel_rfl) (by kernel_rfl) (fun _ _ _ h => h) (Or.inl ⟨by rfl, ?hy48⟩) hHeld ?rr48
      case hy48 => (intro w' hSw; obtain ⟨s0, s1⟩ := hSw; go_simp; try with_reducible rfl)
      try simp only [Act.put, List.setIfInBounds_toArray, List.set_cons_zero, List.set_cons_succ, List.getElem_toArray, List.getElem_cons_succ, List.getElem_cons_zero]
      refine wpAnyH_take (i := 3) (v := ?vv49) rfl (by kernel_rfl) (by kernel_rfl) (by kernel_rfl) (fun _ _ _ h => h) (Or.inl ⟨by rfl, ?hy49⟩) hHeld ?rr49
      case hy49 => (intro w' hSw; obtain ⟨s0, s1⟩ := hSw; go_simp; try with_reducible rfl)
      try simp only [Act.put, List.setIfInBounds_toArray, List.set_cons_zero, List.set_cons_succ, List.getElem_toArray, List.getElem_cons_succ, List.getElem_cons_zero]
      refine wpAnyH_take (i := 4) (v := ?vv50) rfl (by kernel_rfl) (by kernel_rfl) (by kernel_rfl) (fun _ _ _ h => h) (Or.inl ⟨by rfl, ?hy50⟩) hHeld ?rr50
      case hy50 => (intro w' hSw; obtain ⟨s0, s1⟩ := hSw; go_simp; try with_reducible rfl)
      try simp only [Act.put, List.setIfInBounds_toArray, List.set_cons_zero, List.set_cons_succ, List.getElem_toArray, List.getElem_cons_succ, List.getElem_cons_zero]
      refine wpAnyH_take (i := 5) (v := ?vv51) rfl (by kernel_rfl) (by kernel_rfl) (by kernel_rfl) (fun _ _ _ h => h) (Or.inl ⟨by rfl, ?hy51⟩) hHeld ?rr51
      case hy51 => (intro w' hSw; obtain ⟨s0, s1⟩ := hSw; go_simp; try with_reducible rfl)
      try simp only [Act.put, List.setIfInBounds_toArray, List.set_cons_zero, List.set_cons_succ, List.getElem_toArray, List.getElem_cons_succ, List.getElem_cons_zero]
      refine wpAnyH_take (i := 7) (v := ?vv52) rfl (by kernel_rfl) (by kernel_rfl) (by kernel_rfl) (fun _ _ _ h => h) (Or.inl ⟨by rfl, ?hy52⟩) hHeld ?rr52
      case hy52 => (intro w' hSw; obtain ⟨s0, s1⟩ := hSw; go_simp; try with_reducible rfl)
      try simp only [Act.put, List.setIfInBounds_toArray, List.set_cons_zero, List.set_cons_succ, List.getElem_toArray, List.getElem_cons_succ, List.getElem_cons_zero]
      refine wpAnyH_take (i := 8) (v := ?vv53) rfl (by kernel_rfl) (by kernel_rfl) (by kernel_rfl) (fun _ _ _ h => h) (Or.inl ⟨by rfl, ?hy53⟩) hHeld ?rr53
      case hy53 => (intro w' hSw; obtain ⟨s0, s1⟩ := hSw; go_simp; try with_reducible rfl)
      try simp only [Act.put, List.setIfInBounds_toArray, List.set_cons_zero, List.set_cons_succ, List.getElem_toArray, List.getElem_cons_succ, List.getElem_cons_zero]
      refine wpAnyH_ready (rs := [6]) (by kernel_rfl) (by simp) ?_
      refine AllReadyH.cons rfl (fun K hK => ?_) AllReadyH.nil
      try rw [if_pos (by rfl)]
      go_simp
      refine hK.out _ _ ⟨cell_old _ x0, cell_old _ o2⟩ (fun hHeld2 => ?_)
      clear hK K hHeld
      have hHeld := hHeld2
      clear hHeld2
      try simp only [Act.put, List.setIfInBounds_toArray, List.set_cons_zero, List.set_cons_succ, List.getElem_toArray, List.getElem_cons_succ, List.getElem_cons_zero]
      have HWA : Hid (Below wc.heap.size wc ((wc.alloc (.cells #[] 5)).drew)) := Lib.hid (below_alloc _ _).drew
      obtain ⟨A3, c3, w3, hr3, hown3, hgrow3, hwh3⟩ := run_append_byt (P := Try.prog) (w := (wc.alloc (.cells #[] 5)).drew) 27 27 5 iu Try.underlying27 hiu hu0 hu1 hu2 wc.heap.size (.slice (some ⟨wc.heap.size, 0, none⟩) 0 0) [] (own_moved (p := fun _ => False) (World.ownsRow_made wc #[] 0 (Nat.le_refl _) (by decide) rfl) (Moved.drew (Moved.refl (fun _ => False) _)) (fun _ _ h => h)) A0 c0 body (HYc.out.byt.later HWA.out) (by simp only [List.length_nil, Nat.zero_add]; rw [← HN0.out]; exact HBl.out) HWA.out.size
      simp only [List.nil_append] at hr3 hown3 hwh3
      rw [← HN0.out] at hr3 hown3 hwh3
      have HB3 : Hid (Below wc.heap.size wc w3) := Lib.hid (HWA.out.grown hgrow3 HWA.out.size (fun k e2 => by simp [Value.ownBlock] at e2; omega))
      have H3 := Lib.hid (HXc.out.later HB3.out)
      have hO3 : OpBox w3 w.heap.size 1 b now A0 n0 c0 v3 v4 v5 v6 v7 v8 := (HB3.out.block _ (heap_lt HOc.out)).trans HOc.out
      have HO3 := Lib.hid hO3
      have o2a := hO3.cells.2.2.1
      have x0a := (H3.out.cell hi).1
      obtain ⟨A, c, vs0, bm, D, hS⟩ := H3.out.ses i hi
      have HSn : Hid (Calls Try.prog 11 #[.pointer (some ⟨P i, 0, none⟩), .slice A3 n0 c3] w3 (OpS (F i) (P i) (sendS (X i).ss body).2 (.int .i64 (sendS (X i).ss body).1) w3)) := Lib.hid (by
        have := send_any hS A3 body c3 (by rw [HN0.out] at hown3; exact (own_byu hown3).byt) (by have := HBl.out; rw [HN0.out] at this; omega)
        rw [← HN0.out] at this; exact this)
      clear hS hown3 hgrow3 hwh3 hO3
      refine wpAnyH_ready (rs := [9]) (by kernel_rfl) (by simp) ?_
      refine AllReadyH.cons rfl (fun K hK => ?_) AllReadyH.nil
      try rw [if_pos (by rfl)]
      refine oper_append_run (.tmp 52) (.tmp 54) 27 rfl _ _ _ _ rfl rfl hr3 ?_
      refine hK.out _ _ ⟨x0a, o2a⟩ (fun hHeld2 => ?_)
      clear hK K hHeld
      have hHeld := hHeld2
      clear hHeld2
      try simp only [Act.put, List.setIfInBounds_toArray, List.set_cons_zero, List.set_cons_succ, List.getElem_toArray, List.getElem_cons_succ, List.getElem_cons_zero]
      clear hr3
      refine wpAnyH_ready (rs := [10]) (by kernel_rfl) (by simp) ?_
      refine AllReadyH.cons rfl (fun K hK => ?_) AllReadyH.nil
      try rw [if_pos (by rfl)]
      go_simp
      go_at_call 11
      refine Calls.mono (HSn.out) ?_
      rintro e5 w5 ⟨rfl, hse, hmv, hku⟩
      have h5 := H3.out.call hi hse hmv hku
      have H5 := Lib.hid h5
      have hob : ¬ F i w.heap.size := fun e => by have := (HX.out.tight i hi _ e).2; omega
      have hO5 : OpBox w5 w.heap.size 1 b now A0 n0 c0 v3 v4 v5 v6 v7 v8 := hmv.heap HO3.out hob
      have o2b := hO5.cells.2.2.1
      have x0b := (h5.cell hi).1
      have hbF : Below B w w5 := (HBw.out.mono HX.out.lowle).trans ((HB3.out.mono HXc.out.lowle).trans (hmv.below (fun k _ hk => (H3.out.tight i hi k hk).1) H3.out.lowle))
      have hkF : Ku w w5 := (Below.ku HBw.out).trans ((Below.ku HB3.out).trans hku)
      have HBF := Lib.hid (And.intro hbF hkF)
      have HYb := Lib.hid (HY.out.kept hbF hkF)
      rw [show (sendS (X i).ss body).1 = rs from HRs.out]
      clear h5 hse hmv hku hob hO5 hbF hkF
      go_wp2_with fail
      refine hK.out _ _ ⟨x0b, o2b⟩ (fun hHeld2 => ?_)
      clear hK K hHeld
      have hHeld := hHeld2
      clear hHeld2
      try simp only [Act.put, List.setIfInBounds_toArray, List.set_cons_zero, List.set_cons_succ, List.getElem_toArray, List.getElem_cons_succ, List.getElem_cons_zero]
      refine wpAnyH_take (i := 11) (v := ?vv54) rfl (by kernel_rfl) (by kernel_rfl) (by kernel_rfl) (fun _ _ _ h => h) (Or.inl ⟨by rfl, ?hy54⟩) hHeld ?rr54
      case hy54 => (intro w' hSw; obtain ⟨s0, s1⟩ := hSw; go_simp; try with_reducible rfl)
      try simp only [Act.put, List.setIfInBounds_toArray, List.set_cons_zero, List.set_cons_succ, List.getElem_toArray, List.getElem_cons_succ, List.getElem_cons_zero]
      refine wpAnyH_done (by kernel_rfl) ?_ _
      clear hHeld
      clear x0b x0 x0a o2a o2
      go_wp2
      go_ret
      refine ⟨rfl, ?_, HBF.out.1, HBF.out.2⟩
      rw [HK.out]
      exact H5.out.to
end
end Go.Proofs.Ytihkjdoajfjnpaa
