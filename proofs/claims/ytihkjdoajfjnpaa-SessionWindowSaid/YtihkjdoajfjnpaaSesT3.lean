/- The laws' Do: act 3. -/
import Derived.Test.YtihkjdoajfjnpaaSesS
set_option linter.unusedSimpArgs false
set_option linter.unusedVariables false
namespace Go.Proofs.Ytihkjdoajfjnpaa
open Go.ChangeShapes Go.WideShapes Go.ChangeAt Go.RowKit Go.Base Go.Ses

section
variable {B pp i : Nat} {w w1 w' : World} {X : Nat → Side} {P : Nat → Nat} {F : Nat → Nat → Prop} {G : Nat → Prop} {Q S C : Nat → Value} {q : Nat → Prop}
set_option maxHeartbeats 8000000 in
set_option maxRecDepth 20000 in
theorem do_three (h : PairX B w pp X P F G Q S C) (hi : i < 2) (b now : Int) (hby : bits BinOp.and IntKind.i64 b 1 = (i : Int)) (hnow : -9223372036854775808 ≤ now ∧ now ≤ 9223372036854775807) (A0 : Option Addr) (body : Bytes) (c0 : Nat) (hy : Bd B w A0 body) (hbl : body.length ≤ 140737488355328) (v3 v4 v5 v6 v7 v8 : Value)
    {NN : Nat} (hs0 : Small NN (X i)) (hs1 : Small NN (X (1 - i))) :
    Calls Try.prog 8 #[.pointer (some ⟨pp, 0, none⟩), .agg #[.int .i64 3, .int .i64 b, .slice A0 body.length c0, v3, v4, v5, v6, v7, v8, .int .i64 now]] w (DoPost B pp i X 3 now body w) := by
  obtain ⟨n0, hn0⟩ : ∃ n, n = body.length := ⟨_, rfl⟩
  obtain ⟨W1, hW1⟩ : ∃ W1, W1 = w.alloc (.cells #[.int .i64 3, .int .i64 b, .slice A0 n0 c0, v3, v4, v5, v6, v7, v8, .int .i64 now] 31) := ⟨_, rfl⟩
  have hB1 : Below w.heap.size w W1 := by rw [hW1]; exact below_alloc _ _
  have kO : OpBox W1 w.heap.size 3 b now A0 n0 c0 v3 v4 v5 v6 v7 v8 := by rw [hW1]; exact heap_new w _
  have HX := Lib.hid h
  have HB1 := Lib.hid hB1
  have HO1 := Lib.hid kO
  have HX1 := Lib.hid (h.later hB1)
  have HW1 := Lib.hid hW1
  have HY := Lib.hid hy
  have HN0 := Lib.hid hn0
  have HBl : Hid (n0 ≤ 140737488355328) := Lib.hid (by rw [hn0]; exact hbl)
  have HS0 := Lib.hid hs0
  have HS1 := Lib.hid hs1
  have HNow := Lib.hid hnow
  obtain ⟨Aq, cq, es, hq, hqe, hqo, hqb⟩ := h.q i hi
  obtain ⟨nl, hnq⟩ : ∃ n, n = (X i).q.length := ⟨_, rfl⟩
  rw [← hnq] at hq hqo
  have HQ := Lib.hid (And.intro hq (And.intro hqe (And.intro hqo (And.intro hqb hnq))))
  obtain ⟨o0, o1, o2, o9⟩ := kO.cells
  have q4 : W1.cell? ⟨pp, 4 + i, none⟩ = some (.slice Aq nl cq) := by rw [← hq]; exact ((h.later hB1).cell hi).2.2.1
  have hi' : (i : Int) < 2 := by omega
  have hi0 : (0 : Int) ≤ (i : Int) := by omega
  have hq64 : (nl : Int) ≤ 1000000 := by rw [hnq]; have := hs0.1; have := hs0.2.2.2; omega
  have HQ64 := Lib.hid hq64
  rw [← hn0]
  clear h hy hs0 hs1 hnow hq hqe hqo hqb hnq hW1 hB1 kO hn0 hbl
  obtain ⟨i0, hinfo, hz0, hzs, hz2⟩ := info_parts (P := Try.prog) (e := 29) (z := .agg #[.int .i64 0, .int .i64 0, .int .i64 0, .int .i64 0, .int .i64 0, .slice none 0 0]) (size := 6) (bytes := 64) (by kernel_rfl)
  go_enter Try.func8, Try.ntmps8
  go_upto_if 20 with (rw [← HW1.out])
  go_cut [6] from 20 to 41 (fun v wx => ∃ a : Nat, v = .int .i64 (a : Int) ∧ Hid (Below W1.heap.size W1 wx ∧ AtIs now nl a))
  case first =>
    by_cases hz : nl = 0
    · subst hz
      go_wp2
      go_meet
      exact ⟨0, rfl, Lib.hid ⟨Below.refl _ _, .inl rfl⟩⟩
    · have hz1 : (0 : Int) < (nl : Int) := by omega
      have hz2 : ((nl : Int) == 0) = false := by simp; omega
      have hz3 : ¬ (nl : Int) = 0 := by omega
      have HZ := Lib.hid hz
      by_cases ht : now.tmod (nl : Int) < 0
      · have HA := Lib.hid (at_neg hz ht)
        have hlt : -(nl : Int) < now.tmod (nl : Int) := Int.lt_tmod_of_pos now hz1
        have kw : IntKind.i64.wrap (now.tmod (nl : Int) + (nl : Int)) = now.tmod (nl : Int) + (nl : Int) := by rw [IntKind.wrap_i64]; omega
        clear hz
        go_wp2_with fail
        go_quiet (fail)
        go_wp2
        go_meet
        exact ⟨(now.tmod (nl : Int) + nl).toNat, by go_num, Lib.hid ⟨below_drewN (Below.refl _ _) _, HA.out⟩⟩
      · have HA := Lib.hid (at_pos hz ht)
        clear hz
        go_wp2_with fail
        go_quiet (fail)
        go_wp2
        go_meet
        exact ⟨(now.tmod (nl : Int)).toNat, by go_num, Lib.hid ⟨below_drewN (Below.refl _ _) _, HA.out⟩⟩
  case rest =>
    obtain ⟨a, rfl, HC⟩ := hcut
    have HXc := Lib.hid (HX1.out.later HC.out.1)
    have hOc : OpBox wc w.heap.size 3 b now A0 n0 c0 v3 v4 v5 v6 v7 v8 := (HC.out.1.block _ (heap_lt HO1.out)).trans HO1.out
    have HOc := Lib.hid hOc
    have hbw : Below w.heap.size w wc := HB1.out.trans (HC.out.1.mono HB1.out.size)
    have HBw := Lib.hid hbw
    clear o0 o1 o2 o9 q4
    obtain ⟨o0, o1, o2, o9⟩ := hOc.cells
    clear hOc hbw
    have HK : Hid (doX 3 now body i X = upd (upd X i { X i with ss := tickS (X i).ss now }) (1 - i) { X (1 - i) with q := (X (1 - i)).q ++ tickE (X i).ss now }) := Lib.hid (by
      unfold doX doS
      simp only [show ¬ (3 : Int) = 1 by decide, if_false, if_true])
    obtain ⟨j, hj⟩ : ∃ j, j = 1 - i := ⟨_, rfl⟩
    have hj2 : j < 2 := by omega
    have hji : j ≠ i := by omega
    have HJ := Lib.hid hj
    have hj' : (j : Int) < 2 := by omega
    have hj0 : (0 : Int) ≤ (j : Int) := by omega
    have kj : IntKind.i64.wrap (1 - (i : Int)) = (j : Int) := by rw [IntKind.wrap_i64]; omega
    have hdd : Below wc.heap.size wc wc.drew := (Below.refl _ _).drew
    have HXd := Lib.hid (HXc.out.later hdd)
    have HMd : Hid (Below B wc wc.drew ∧ Ku wc wc.drew) := Lib.hid ⟨hdd.mono HXc.out.lowle, Below.ku hdd⟩
    have HOd : Hid (OpBox wc.drew w.heap.size 3 b now A0 n0 c0 v3 v4 v5 v6 v7 v8) := Lib.hid ((hdd.block _ (heap_lt HOc.out)).trans HOc.out)
    obtain ⟨A, c, vs, bm, D, hS⟩ := HXd.out.ses i hi
    have HFew := Lib.hid hS.ok.few
    have HT := Lib.hid (tick_any hS (fun k hk => (HXd.out.tight i hi k hk).2) HNow.out)
    obtain ⟨Aj, cj, ej, hqj, hqe, hqo, hqb⟩ := HXd.out.q j hj2
    obtain ⟨nj, hnj⟩ : ∃ n, n = (X j).q.length := ⟨_, rfl⟩
    rw [← hnj] at hqj hqo
    have hnj2 : nj ≤ 1000000 := by rw [hnj, hj]; have := HS1.out.1; have := HS1.out.2.2.2; omega
    rw [hqj] at hqo
    have HQj := Lib.hid (And.intro hqj (And.intro hqe (And.intro hqo (And.intro hqb (show ej.length = nj by rw [hnj, ← hqe, List.length_map])))))
    have x4 : wc.cell? ⟨pp, 4 + j, none⟩ = some (.slice Aj nj cj) := by rw [← hqj]; exact (HXc.out.cell hj2).2.2.1
    have x0 := (HXc.out.cell hi).1
    clear hS hqj hqe hqo hqb hnj hj hdd
    go_wp2_with fail
    refine wp_region_heldz_drew (S := (fun V => V.cell? ⟨pp, 4 + j, none⟩ = some (.slice Aj nj cj) ∧ V.cell? ⟨pp, i, none⟩ = some (.pointer (some ⟨P i, 0, none⟩)) ∧ V.cell? ⟨w.heap.size, 9, none⟩ = some (.int .i64 now))) 23 (by kernel_rfl) ⟨x4, x0, o9⟩ (fun hHeld => ?_)
    refine wpAnyZ_take (i := 0) (v := ?vv1) rfl (by kernel_rfl) (by kernel_rfl) (by kernel_rfl) (fun _ _ _ h => h) (Or.inl ⟨by rfl, ?hy1⟩) hHeld ?rr1
    case hy1 => (intro w' hSw; obtain ⟨s0, s1, s2⟩ := hSw; go_simp; try with_reducible rfl)
    try simp only [Act.put, List.setIfInBounds_toArray, List.set_cons_zero, List.set_cons_succ, List.getElem_toArray, List.getElem_cons_succ, List.getElem_cons_zero]
    refine wpAnyZ_take (i := 1) (v := ?vv2) rfl (by kernel_rfl) (by kernel_rfl) (by kernel_rfl) (fun _ _ _ h => h) (Or.inl ⟨by rfl, ?hy2⟩) hHeld ?rr2
    case hy2 => (intro w' hSw; obtain ⟨s0, s1, s2⟩ := hSw; go_simp; try with_reducible rfl)
    try simp only [Act.put, List.setIfInBounds_toArray, List.set_cons_zero, List.set_cons_succ, List.getElem_toArray, List.getElem_cons_succ, List.getElem_cons_zero]
    refine wpAnyZ_take (i := 2) (v := ?vv3) rfl (by kernel_rfl) (by kernel_rfl) (by kernel_rfl) (fun _ _ _ h => h) (Or.inl ⟨by rfl, ?hy3⟩) hHeld ?rr3
    case hy3 => (intro w' hSw; obtain ⟨s0, s1, s2⟩ := hSw; go_simp; try with_reducible rfl)
    try simp only [Act.put, List.setIfInBounds_toArray, List.set_cons_zero, List.set_cons_succ, List.getElem_toArray, List.getElem_cons_succ, List.getElem_cons_zero]
    refine wpAnyZ_take (i := 3) (v := ?vv4) rfl (by kernel_rfl) (by kernel_rfl) (by kernel_rfl) (fun _ _ _ h => h) (Or.inl ⟨by rfl, ?hy4⟩) hHeld ?rr4
    case hy4 => (intro w' hSw; obtain ⟨s0, s1, s2⟩ := hSw; go_simp; try with_reducible rfl)
    try simp only [Act.put, List.setIfInBounds_toArray, List.set_cons_zero, List.set_cons_succ, List.getElem_toArray, List.getElem_cons_succ, List.getElem_cons_zero]
    refine wpAnyZ_take (i := 4) (v := ?vv5) rfl (by kernel_rfl) (by kernel_rfl) (by kernel_rfl) (fun _ _ _ h => h) (Or.inl ⟨by rfl, ?hy5⟩) hHeld ?rr5
    case hy5 => (intro w' hSw; obtain ⟨s0, s1, s2⟩ := hSw; go_simp; try with_reducible rfl)
    try simp only [Act.put, List.setIfInBounds_toArray, List.set_cons_zero, List.set_cons_succ, List.getElem_toArray, List.getElem_cons_succ, List.getElem_cons_zero]
    refine wpAnyZ_take (i := 5) (v := ?vv6) rfl (by kernel_rfl) (by kernel_rfl) (by kernel_rfl) (fun _ _ _ h => h) (Or.inl ⟨by rfl, ?hy6⟩) hHeld ?rr6
    case hy6 => (intro w' hSw; obtain ⟨s0, s1, s2⟩ := hSw; go_simp; try with_reducible rfl)
    try simp only [Act.put, List.setIfInBounds_toArray, List.set_cons_zero, List.set_cons_succ, List.getElem_toArray, List.getElem_cons_succ, List.getElem_cons_zero]
    refine wpAnyZ_take (i := 6) (v := ?vv7) rfl (by kernel_rfl) (by kernel_rfl) (by kernel_rfl) (fun _ _ _ h => h) (Or.inl ⟨by rfl, ?hy7⟩) hHeld ?rr7
    case hy7 => (intro w' hSw; obtain ⟨s0, s1, s2⟩ := hSw; go_simp; try with_reducible rfl)
    try simp only [Act.put, List.setIfInBounds_toArray, List.set_cons_zero, List.set_cons_succ, List.getElem_toArray, List.getElem_cons_succ, List.getElem_cons_zero]
    refine wpAnyZ_take (i := 7) (v := ?vv8) rfl (by kernel_rfl) (by kernel_rfl) (by kernel_rfl) (fun _ _ _ h => h) (Or.inl ⟨by rfl, ?hy8⟩) hHeld ?rr8
    case hy8 => (intro w' hSw; obtain ⟨s0, s1, s2⟩ := hSw; go_simp; try with_reducible rfl)
    try simp only [Act.put, List.setIfInBounds_toArray, List.set_cons_zero, List.set_cons_succ, List.getElem_toArray, List.getElem_cons_succ, List.getElem_cons_zero]
    refine wpAnyZ_take (i := 8) (v := ?vv9) rfl (by kernel_rfl) (by kernel_rfl) (by kernel_rfl) (fun _ _ _ h => h) (Or.inl ⟨by rfl, ?hy9⟩) hHeld ?rr9
    case hy9 => (intro w' hSw; obtain ⟨s0, s1, s2⟩ := hSw; go_simp; try with_reducible rfl)
    try simp only [Act.put, List.setIfInBounds_toArray, List.set_cons_zero, List.set_cons_succ, List.getElem_toArray, List.getElem_cons_succ, List.getElem_cons_zero]
    refine wpAnyZ_take (i := 9) (v := ?vv10) rfl (by kernel_rfl) (by kernel_rfl) (by kernel_rfl) (fun _ _ _ h => h) (Or.inl ⟨by rfl, ?hy10⟩) hHeld ?rr10
    case hy10 => (intro w' hSw; obtain ⟨s0, s1, s2⟩ := hSw; go_simp; try with_reducible rfl)
    try simp only [Act.put, List.setIfInBounds_toArray, List.set_cons_zero, List.set_cons_succ, List.getElem_toArray, List.getElem_cons_succ, List.getElem_cons_zero]
    refine wpAnyZ_take (i := 10) (v := ?vv11) rfl (by kernel_rfl) (by kernel_rfl) (by kernel_rfl) (fun _ _ _ h => h) (Or.inl ⟨by rfl, ?hy11⟩) hHeld ?rr11
    case hy11 => (intro w' hSw; obtain ⟨s0, s1, s2⟩ := hSw; go_simp; try with_reducible rfl)
    try simp only [Act.put, List.setIfInBounds_toArray, List.set_cons_zero, List.set_cons_succ, List.getElem_toArray, List.getElem_cons_succ, List.getElem_cons_zero]
    refine wpAnyZ_take (i := 11) (v := ?vv12) rfl (by kernel_rfl) (by kernel_rfl) (by kernel_rfl) (fun _ _ _ h => h) (Or.inl ⟨by rfl, ?hy12⟩) hHeld ?rr12
    case hy12 => (intro w' hSw; obtain ⟨s0, s1, s2⟩ := hSw; go_simp; try with_reducible rfl)
    try simp only [Act.put, List.setIfInBounds_toArray, List.set_cons_zero, List.set_cons_succ, List.getElem_toArray, List.getElem_cons_succ, List.getElem_cons_zero]
    refine wpAnyZ_take (i := 12) (v := ?vv13) rfl (by kernel_rfl) (by kernel_rfl) (by kernel_rfl) (fun _ _ _ h => h) (Or.inl ⟨by rfl, ?hy13⟩) hHeld ?rr13
    case hy13 => (intro w' hSw; obtain ⟨s0, s1, s2⟩ := hSw; go_simp; try with_reducible rfl)
    try simp only [Act.put, List.setIfInBounds_toArray, List.set_cons_zero, List.set_cons_succ, List.getElem_toArray, List.getElem_cons_succ, List.getElem_cons_zero]
    refine wpAnyZ_take (i := 13) (v := ?vv14) rfl (by kernel_rfl) (by kernel_rfl) (by kernel_rfl) (fun _ _ _ h => h) (Or.inl ⟨by rfl, ?hy14⟩) hHeld ?rr14
    case hy14 => (intro w' hSw; obtain ⟨s0, s1, s2⟩ := hSw; go_simp; try with_reducible rfl)
    try simp only [Act.put, List.setIfInBounds_toArray, List.set_cons_zero, List.set_cons_succ, List.getElem_toArray, List.getElem_cons_succ, List.getElem_cons_zero]
    refine wpAnyZ_take (i := 14) (v := ?vv15) rfl (by kernel_rfl) (by kernel_rfl) (by kernel_rfl) (fun _ _ _ h => h) (Or.inl ⟨by rfl, ?hy15⟩) hHeld ?rr15
    case hy15 => (intro w' hSw; obtain ⟨s0, s1, s2⟩ := hSw; go_simp; try with_reducible rfl)
    try simp only [Act.put, List.setIfInBounds_toArray, List.set_cons_zero, List.set_cons_succ, List.getElem_toArray, List.getElem_cons_succ, List.getElem_cons_zero]
    refine wpAnyZ_take (i := 15) (v := ?vv16) rfl (by kernel_rfl) (by kernel_rfl) (by kernel_rfl) (fun _ _ _ h => h) (Or.inl ⟨by rfl, ?hy16⟩) hHeld ?rr16
    case hy16 => (intro w' hSw; obtain ⟨s0, s1, s2⟩ := hSw; go_simp; try with_reducible rfl)
    try simp only [Act.put, List.setIfInBounds_toArray, List.set_cons_zero, List.set_cons_succ, List.getElem_toArray, List.getElem_cons_succ, List.getElem_cons_zero]
    refine wpAnyZ_take (i := 16) (v := ?vv17) rfl (by kernel_rfl) (by kernel_rfl) (by kernel_rfl) (fun _ _ _ h => h) (Or.inl ⟨by rfl, ?hy17⟩) hHeld ?rr17
    case hy17 => (intro w' hSw; obtain ⟨s0, s1, s2⟩ := hSw; go_simp; try with_reducible rfl)
    try simp only [Act.put, List.setIfInBounds_toArray, List.set_cons_zero, List.set_cons_succ, List.getElem_toArray, List.getElem_cons_succ, List.getElem_cons_zero]
    refine wpAnyZ_take (i := 17) (v := ?vv18) rfl (by kernel_rfl) (by kernel_rfl) (by kernel_rfl) (fun _ _ _ h => h) (Or.inl ⟨by rfl, ?hy18⟩) hHeld ?rr18
    case hy18 => (intro w' hSw; obtain ⟨s0, s1, s2⟩ := hSw; go_simp; try with_reducible rfl)
    try simp only [Act.put, List.setIfInBounds_toArray, List.set_cons_zero, List.set_cons_succ, List.getElem_toArray, List.getElem_cons_succ, List.getElem_cons_zero]
    refine wpAnyZ_takeC [21, 22] (i := 20) (v := ?vv19) rfl (by kernel_rfl) (by kernel_rfl) (by kernel_rfl) (fun _ _ _ h => h) (Or.inl ⟨by rfl, ?hy19⟩) hHeld ?rr19
    case hy19 => (intro w' hSw; obtain ⟨s0, s1, s2⟩ := hSw; go_simp; try with_reducible rfl)
    try simp only [Act.put, List.setIfInBounds_toArray, List.set_cons_zero, List.set_cons_succ, List.getElem_toArray, List.getElem_cons_succ, List.getElem_cons_zero]
    refine wpAnyZ_takeC [22] (i := 21) (v := ?vv20) rfl (by kernel_rfl) (by kernel_rfl) (by kernel_rfl) (fun _ _ _ h => h) (Or.inl ⟨by rfl, ?hy20⟩) hHeld ?rr20
    case hy20 => (intro w' hSw; obtain ⟨s0, s1, s2⟩ := hSw; go_simp; try with_reducible rfl)
    try simp only [Act.put, List.setIfInBounds_toArray, List.set_cons_zero, List.set_cons_succ, List.getElem_toArray, List.getElem_cons_succ, List.getElem_cons_zero]
    refine wpAnyZ_ready (rs := [18]) (by kernel_rfl) (by simp) ?_
    refine AllReadyZ.cons rfl (fun K hK => ?_) AllReadyZ.nil
    try rw [if_pos (by rfl)]
    go_simp
    go_at_call 12
    refine Calls.mono (HT.out) ?_
    rintro e5 w5 ⟨At, ct, l, rfl, hti⟩
    have h5 := HXd.out.call hi (hti.ses.wide (fun k hk => .inl hk)) hti.moved hti.ku
    have H5 := Lib.hid h5
    have HTi := Lib.hid hti
    have hown5 : w5.ownsRow B 29 6 (.slice Aj nj cj) nj (cellsE ej) := own_moved HQj.out.2.2.1 hti.moved (fun k hk e => (HXd.out.g k ((HXd.out.own.2 j hj2 k).1 (by rw [HQj.out.1]; exact hk))).2.2 i hi e)
    have HOw5 := Lib.hid hown5
    have HBo5 : Hid (∀ x ∈ ej, ByU w5 x.A x.e.body) := Lib.hid (fun x hx => (HQj.out.2.2.2.1 x hx).kept hti.ku)
    have x4b : w5.cell? ⟨pp, 4 + j, none⟩ = some (.slice Aj nj cj) := by have := (h5.cell hj2).2.2.1; rw [HQj.out.1] at this; exact this
    have x0b := (h5.cell hi).1
    have hob : ¬ F i w.heap.size := fun e => by have := (HX.out.tight i hi _ e).2; omega
    have hO5 : OpBox w5 w.heap.size 3 b now A0 n0 c0 v3 v4 v5 v6 v7 v8 := hti.moved.heap HOd.out hob
    have HO5 := Lib.hid hO5
    have o9b := hO5.cells.2.2.2
    obtain ⟨nt, hnt⟩ : ∃ nt, nt = l.length := ⟨_, rfl⟩
    have hnt2 : nt ≤ 100 := by have := congrArg List.length hti.is; rw [List.length_map] at this; rw [hnt, this]; exact tickE_len _ _ HFew.out
    have HNt := Lib.hid hnt
    rw [← hnt]
    clear h5 hti hown5 hob hO5 hnt
    go_wp2_with fail
    refine hK.out _ _ ⟨x4b, x0b, o9b⟩ (fun hHeld2 => ?_)
    clear hK K hHeld
    have hHeld := hHeld2
    clear hHeld2
    try simp only [Act.put, List.setIfInBounds_toArray, List.set_cons_zero, List.set_cons_succ, List.getElem_toArray, List.getElem_cons_succ, List.getElem_cons_zero]
    refine wpAnyZ_ready (rs := [19]) (by kernel_rfl) (by simp) ?_
    refine AllReadyZ.cons rfl (fun K hK => ?_) AllReadyZ.nil
    try rw [if_pos (by rfl)]
    refine oper_append_k _ (.tmp 86) (.tmp 95) 39 rfl 29 i0 (.agg #[.int .i64 0, .int .i64 0, .int .i64 0, .int .i64 0, .int .i64 0, .slice none 0 0]) 6 64 Try.underlying39 hinfo hz0 hzs hz2 rfl (by decide) B _ nj (cellsE ej) rfl HOw5.out At nt ct (cellsE l) rfl (by rw [cellsE_len, HNt.out]) (own_news (by rw [HNt.out]; exact HTi.out.row) (by decide)) (cellsE_one l) (by unfold maxLen; omega) (by omega) H5.out.lowle ?_
    intro A9 c9 w9 hown9 hgrow9 hwh9
    rw [← cellsE_append] at hown9
    rw [← HQj.out.1] at hgrow9 hwh9
    obtain ⟨q1, q2, q3, q4, q5⟩ := H5.out.growQ hj2 (vs := ej ++ l) hgrow9 (by rw [List.length_append, HNt.out, HQj.out.2.2.2.2]) hown9 hwh9 (fun x hx => by
      have hk9 : Ku w5 w9 := grown_ku (by rw [HQj.out.1]; exact HOw5.out) (by decide) hgrow9
      rcases List.mem_append.1 hx with hx | hx
      · exact (HBo5.out x hx).kept hk9
      · exact (HTi.out.bod x hx).kept hk9)
    have H9 := Lib.hid (And.intro q1 (And.intro q2 q3))
    have hm9 : Moved (fun k => (Q j).ownBlock = some k) w5 w9 := Moved.grown (p := fun k => (Q j).ownBlock = some k) (Moved.refl _ _) hgrow9 (fun k _ e => e)
    have hQpp : ¬ (Q j).ownBlock = some pp := own_ne (by rw [HQj.out.1]; exact HOw5.out) H5.out.self (by decide)
    have hQob : ¬ (Q j).ownBlock = some w.heap.size := own_ne (by rw [HQj.out.1]; exact HOw5.out) HO5.out (by decide)
    have x0c : w9.cell? ⟨pp, i, none⟩ = some (.pointer (some ⟨P i, 0, none⟩)) := hm9.cell x0b hQpp
    have o9c : w9.cell? ⟨w.heap.size, 9, none⟩ = some (.int .i64 now) := hm9.cell o9b hQob
    rw [HQj.out.1] at q4
    clear q1 q2 q3 hown9 hgrow9 hwh9 hm9 hQpp hQob
    refine hK.out _ _ ⟨q4, x0c, o9c⟩ (fun hHeld2 => ?_)
    clear hK K hHeld
    have hHeld := hHeld2
    clear hHeld2
    try simp only [Act.put, List.setIfInBounds_toArray, List.set_cons_zero, List.set_cons_succ, List.getElem_toArray, List.getElem_cons_succ, List.getElem_cons_zero]
    refine wpAnyZ_take (i := 22) (v := ?vv21) rfl (by kernel_rfl) (by kernel_rfl) (by kernel_rfl) (fun _ _ _ h => h) (Or.inl ⟨by rfl, ?hy21⟩) hHeld ?rr21
    case hy21 => (intro w' hSw; obtain ⟨s0, s1, s2⟩ := hSw; go_simp; try with_reducible rfl)
    try simp only [Act.put, List.setIfInBounds_toArray, List.set_cons_zero, List.set_cons_succ, List.getElem_toArray, List.getElem_cons_succ, List.getElem_cons_zero]
    refine wpAnyZ_ready (rs := [23]) (by kernel_rfl) (by simp) ?_
    refine AllReadyZ.last rfl (fun K hK => ?_)
    try rw [if_pos (by rfl)]
    go_simp
    refine hK.out _ _ ?_
    clear hK K hHeld
    try simp only [Act.put, List.setIfInBounds_toArray, List.set_cons_zero, List.set_cons_succ, List.getElem_toArray, List.getElem_cons_succ, List.getElem_cons_zero]
    refine wpAnyZ_done (by kernel_rfl) ?_ _
    go_wp2
    go_ret
    obtain ⟨q1, q2, q3⟩ := H9.out
    refine ⟨rfl, ?_, (HBw.out.mono HX.out.lowle).trans (((HMd.out.1).trans (HTi.out.moved.below (fun k _ hk => (HXd.out.tight i hi k hk).1) HXd.out.lowle)).trans q2), (Below.ku HBw.out).trans ((HMd.out.2.trans HTi.out.ku).trans q3)⟩
    have q6 := q1.to
    rw [upd_other _ _ hji, List.map_append, HQj.out.2.1, HTi.out.is] at q6
    rw [HK.out, ← HJ.out]
    exact q6
end
end Go.Proofs.Ytihkjdoajfjnpaa
