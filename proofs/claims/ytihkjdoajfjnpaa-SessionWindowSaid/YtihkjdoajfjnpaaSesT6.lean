/- The laws' Do: act 6. -/
import Derived.Test.YtihkjdoajfjnpaaSesS
set_option linter.unusedSimpArgs false
set_option linter.unusedVariables false
namespace Go.Proofs.Ytihkjdoajfjnpaa
open Go.ChangeShapes Go.WideShapes Go.ChangeAt Go.RowKit Go.Base Go.Ses

section
variable {B pp i : Nat} {w w1 w' : World} {X : Nat → Side} {P : Nat → Nat} {F : Nat → Nat → Prop} {G : Nat → Prop} {Q S C : Nat → Value} {q : Nat → Prop}
set_option maxHeartbeats 8000000 in
set_option maxRecDepth 20000 in
theorem do_six (h : PairX B w pp X P F G Q S C) (hi : i < 2) (b now : Int) (hby : bits BinOp.and IntKind.i64 b 1 = (i : Int)) (hnow : -9223372036854775808 ≤ now ∧ now ≤ 9223372036854775807) (A0 : Option Addr) (body : Bytes) (c0 : Nat) (hy : Bd B w A0 body) (hbl : body.length ≤ 140737488355328) (v3 v4 v5 v6 v7 v8 : Value)
    {NN : Nat} (hs0 : Small NN (X i)) (hs1 : Small NN (X (1 - i))) (hfq : ∀ e ∈ (X i).q, fitsB e = true) (hcl : (X i).came.length ≤ 2147483648) :
    Calls Try.prog 8 #[.pointer (some ⟨pp, 0, none⟩), .agg #[.int .i64 6, .int .i64 b, .slice A0 body.length c0, v3, v4, v5, v6, v7, v8, .int .i64 now]] w (DoPost B pp i X 6 now body w) := by
  obtain ⟨n0, hn0⟩ : ∃ n, n = body.length := ⟨_, rfl⟩
  obtain ⟨W1, hW1⟩ : ∃ W1, W1 = w.alloc (.cells #[.int .i64 6, .int .i64 b, .slice A0 n0 c0, v3, v4, v5, v6, v7, v8, .int .i64 now] 31) := ⟨_, rfl⟩
  have hB1 : Below w.heap.size w W1 := by rw [hW1]; exact below_alloc _ _
  have kO : OpBox W1 w.heap.size 6 b now A0 n0 c0 v3 v4 v5 v6 v7 v8 := by rw [hW1]; exact heap_new w _
  have HX := Lib.hid h
  have HB1 := Lib.hid hB1
  have HO1 := Lib.hid kO
  have HX1 := Lib.hid (h.later hB1)
  have HW1 := Lib.hid hW1
  have HY := Lib.hid hy
  have HN0 := Lib.hid hn0
  have HBl : Hid (n0 ≤ 140737488355328) := Lib.hid (by rw [hn0]; exact hbl)
  have HS0 := Lib.hid hs0
  have HS1 := Lib.hid hs1
  have HNow := Lib.hid hnow
  obtain ⟨Aq, cq, es, hq, hqe, hqo, hqb⟩ := h.q i hi
  obtain ⟨nl, hnq⟩ : ∃ n, n = (X i).q.length := ⟨_, rfl⟩
  rw [← hnq] at hq hqo
  have HQ := Lib.hid (And.intro hq (And.intro hqe (And.intro hqo (And.intro hqb hnq))))
  obtain ⟨o0, o1, o2, o9⟩ := kO.cells
  have q4 : W1.cell? ⟨pp, 4 + i, none⟩ = some (.slice Aq nl cq) := by rw [← hq]; exact ((h.later hB1).cell hi).2.2.1
  have hi' : (i : Int) < 2 := by omega
  have hi0 : (0 : Int) ≤ (i : Int) := by omega
  have hq64 : (nl : Int) ≤ 1000000 := by rw [hnq]; have := hs0.1; have := hs0.2.2.2; omega
  have HQ64 := Lib.hid hq64
  rw [← hn0]
  clear h hy hs0 hs1 hnow hq hqe hqo hqb hnq hW1 hB1 kO hn0 hbl
  obtain ⟨i0, hinfo, hz0, hzs, hz2⟩ := info_parts (P := Try.prog) (e := 29) (z := .agg #[.int .i64 0, .int .i64 0, .int .i64 0, .int .i64 0, .int .i64 0, .slice none 0 0]) (size := 6) (bytes := 64) (by kernel_rfl)
  go_enter Try.func8, Try.ntmps8
  go_upto_if 20 with (rw [← HW1.out])
  go_cut [6] from 20 to 41 (fun v wx => ∃ a : Nat, v = .int .i64 (a : Int) ∧ Hid (Below W1.heap.size W1 wx ∧ AtIs now nl a))
  case first =>
    by_cases hz : nl = 0
    · subst hz
      go_wp2
      go_meet
      exact ⟨0, rfl, Lib.hid ⟨Below.refl _ _, .inl rfl⟩⟩
    · have hz1 : (0 : Int) < (nl : Int) := by omega
      have hz2 : ((nl : Int) == 0) = false := by simp; omega
      have hz3 : ¬ (nl : Int) = 0 := by omega
      have HZ := Lib.hid hz
      by_cases ht : now.tmod (nl : Int) < 0
      · have HA := Lib.hid (at_neg hz ht)
        have hlt : -(nl : Int) < now.tmod (nl : Int) := Int.lt_tmod_of_pos now hz1
        have kw : IntKind.i64.wrap (now.tmod (nl : Int) + (nl : Int)) = now.tmod (nl : Int) + (nl : Int) := by rw [IntKind.wrap_i64]; omega
        clear hz
        go_wp2_with fail
        go_quiet (fail)
        go_wp2
        go_meet
        exact ⟨(now.tmod (nl : Int) + nl).toNat, by go_num, Lib.hid ⟨below_drewN (Below.refl _ _) _, HA.out⟩⟩
      · have HA := Lib.hid (at_pos hz ht)
        clear hz
        go_wp2_with fail
        go_quiet (fail)
        go_wp2
        go_meet
        exact ⟨(now.tmod (nl : Int)).toNat, by go_num, Lib.hid ⟨below_drewN (Below.refl _ _) _, HA.out⟩⟩
  case rest =>
    obtain ⟨a, rfl, HC⟩ := hcut
    have HXc := Lib.hid (HX1.out.later HC.out.1)
    have hOc : OpBox wc w.heap.size 6 b now A0 n0 c0 v3 v4 v5 v6 v7 v8 := (HC.out.1.block _ (heap_lt HO1.out)).trans HO1.out
    have HOc := Lib.hid hOc
    have hbw : Below w.heap.size w wc := HB1.out.trans (HC.out.1.mono HB1.out.size)
    have HBw := Lib.hid hbw
    clear o0 o1 o2 o9 q4
    obtain ⟨o0, o1, o2, o9⟩ := hOc.cells
    clear hOc hbw
    have hqc : wc.ownsRow B 29 6 (.slice Aq nl cq) nl (cellsE es) := by have := own_moved (p := fun _ => False) HQ.out.2.2.1 (Below.movedNew HBw.out) (fun _ _ h => h); rw [HQ.out.1] at this; exact this
    have x4 : wc.cell? ⟨pp, 4 + i, none⟩ = some (.slice Aq nl cq) := by rw [← HQ.out.1]; exact (HXc.out.cell hi).2.2.1
    by_cases hz : nl = 0
    · subst hz
      have HK : Hid (doX 6 now body i X = X) := Lib.hid (by
        have h0 : (X i).q = [] := List.eq_nil_of_length_eq_zero HQ.out.2.2.2.2.symm
        unfold doX doS
        rw [if_neg (show ¬ (6 : Int) = 1 by decide), if_neg (show ¬ (6 : Int) = 3 by decide), if_pos (show ((6 : Int) = 4 ∨ (6 : Int) = 5 ∨ (6 : Int) = 6) by decide)]
        simp only [h0, List.getElem?_nil, upd_self])
      clear hqc
      go_wp2
      go_ret
      refine ⟨rfl, ?_, HBw.out.mono HX.out.lowle, Below.ku HBw.out⟩
      rw [HK.out]
      exact HXc.out.to
    · have hlt : a < nl ∧ a = atQ now nl := by rcases HC.out.2 with h | h
                                               · exact absurd h hz
                                               · exact ⟨h.2, h.1⟩
      have hen : es.length = nl := by rw [HQ.out.2.2.2.2, ← HQ.out.2.1, List.length_map]
      obtain ⟨x, hx⟩ : ∃ x, es[a]? = some x := ⟨es[a]'(by omega), List.getElem?_eq_getElem (by omega)⟩
      obtain ⟨gq, hgq, _⟩ := own_cell hqc rfl 0 (by omega)
      subst hgq
      have hcell : ∀ j u, (cellsE es)[j]? = some u → wc.cell? ⟨gq, j, none⟩ = some u := fun j u hu => by
        have hj := (List.getElem?_eq_some_iff.1 hu).1
        rw [cellsE_len, hen] at hj
        obtain ⟨g2, e2, h2⟩ := own_cell hqc rfl j hj
        injection e2 with e2; injection e2 with e2; subst e2
        rw [h2]; exact hu
      have hxe : (X i).q[a]? = some x.e := by rw [← HQ.out.2.1, List.getElem?_map, hx]; rfl
      have hxm : x ∈ es := List.mem_of_getElem? hx
      have hat : ∀ j u, j < 6 → x.cells[j]? = some u → wc.cell? ⟨gq, a * 6 + j, none⟩ = some u := fun j u hj hu => hcell _ u (by rw [cellsE_at es a j (by omega) hj, show es[a]'(by omega) = x from (List.getElem?_eq_some_iff.1 hx).2]; exact hu)
      have hbx := HQ.out.2.2.2.1 x hxm
      obtain ⟨⟨kd, mi, yo, sq, ak, bd⟩, xA, xc⟩ := x
      obtain ⟨nb, hnb⟩ : ∃ n, n = bd.length := ⟨_, rfl⟩
      have g0 : wc.cell? ⟨gq, a * 6, none⟩ = some (.int .i64 kd) := hat 0 _ (by decide) rfl
      have g1 : wc.cell? ⟨gq, a * 6 + 1, none⟩ = some (.int .i64 mi) := hat 1 _ (by decide) rfl
      have g2 : wc.cell? ⟨gq, a * 6 + 2, none⟩ = some (.int .i64 yo) := hat 2 _ (by decide) rfl
      have g3 : wc.cell? ⟨gq, a * 6 + 3, none⟩ = some (.int .i64 sq) := hat 3 _ (by decide) rfl
      have g4 : wc.cell? ⟨gq, a * 6 + 4, none⟩ = some (.int .i64 ak) := hat 4 _ (by decide) rfl
      have g5 : wc.cell? ⟨gq, a * 6 + 5, none⟩ = some (.slice xA nb xc) := by rw [hnb]; exact hat 5 _ (by decide) rfl
      have HK : Hid (doX 6 now body i X = upd X i (outQ (X i) a)) := Lib.hid (by
        have h0 : (X i).q[atQ now (X i).q.length]? = some ⟨kd, mi, yo, sq, ak, bd⟩ := by rw [← HQ.out.2.2.2.2, ← hlt.2]; exact hxe
        unfold doX doS
        rw [if_neg (show ¬ (6 : Int) = 1 by decide), if_neg (show ¬ (6 : Int) = 3 by decide), if_pos (show ((6 : Int) = 4 ∨ (6 : Int) = 5 ∨ (6 : Int) = 6) by decide)]
        simp only [h0]
        rw [if_pos trivial]
        rw [← HQ.out.2.2.2.2, ← hlt.2]
        exact upd_pair X hi _)
      have HNb := Lib.hid hnb
      have HEs := Lib.hid hen
      have HLt := Lib.hid hlt.1
      have hlt0 := hlt.1
      have HBx := Lib.hid (hbx.kept (Below.ku HBw.out))
      have HCl := Lib.hid hcl
      have HCq : Hid (nl ≤ cq) := Lib.hid (own_capK hqc).1
      have HFe := Lib.hid (hfq _ (List.mem_of_getElem? hxe))
      have HEq := Lib.hid HQ.out.2.1
      have HCe := Lib.hid hcell
      have HByc : Hid (∀ x ∈ es, ByU wc x.A x.e.body) := Lib.hid (fun x hx => (HQ.out.2.2.2.1 x hx).kept (Below.ku HBw.out))
      have hlt1 : (a : Int) < (nl : Int) := by omega
      have ha0 : (0 : Int) ≤ (a : Int) := by omega
      have hza : ((nl : Int) == 0) = false := by simp; omega
      clear hlt hen hx hxe hxm hat hbx hnb hqc hcell hz
      go_wp2_with (refine wpList_store_new rfl 29 (.tmp 7) (.tmp 120) rfl wc.heap.size #[.int .i64 kd, .int .i64 mi, .int .i64 yo, .int .i64 sq, .int .i64 ak, .slice xA nb xc] rfl rfl 29 #[.int .i64 0, .int .i64 0, .int .i64 0, .int .i64 0, .int .i64 0, .slice none 0 0] (heap_new wc _) (by kernel_rfl) rfl rfl ?_; intro w2 hzz hb2 hk2 ho2; have hb2b := hb2 wc.heap.size wc (below_alloc _ _) (Nat.le_refl _); have HB2 := Lib.hid hb2b; have HE2 := Lib.hid hk2; have H2 := Lib.hid (HXc.out.later hb2b); have hO2 := (hb2b.block _ (heap_lt HOc.out)).trans HOc.out; have HO2 : Hid (OpBox w2 w.heap.size 6 b now A0 n0 c0 v3 v4 v5 v6 v7 v8) := Lib.hid hO2; have x4w := cell_later hb2b x4; clear x4 o0 o1 o2 o9; have o0 := HO2.out.cells.1; have e0 := cell_of_row _ _ 0 _ _ _ hk2; have e1 := cell_of_row _ _ 1 _ _ _ hk2; have e2 := cell_of_row _ _ 2 _ _ _ hk2; have e3 := cell_of_row _ _ 3 _ _ _ hk2; have e4 := cell_of_row _ _ 4 _ _ _ hk2; have e5 := cell_of_row _ _ 5 _ _ _ hk2; have x4 := x4w; clear x4w; clear hzz hb2 hk2 ho2 hb2b hO2; go_wp2_with fail)
      clear g0 g1 g2 g3 g4 g5
      have HQ2 : Hid (∀ j u, (cellsE es)[j]? = some u → w2.cell? ⟨gq, j, none⟩ = some u) := Lib.hid (fun j u hu => cell_later HB2.out (HCe.out j u hu))
      have HBy2 : Hid (∀ x ∈ es, ByU w2 x.A x.e.body) := Lib.hid (fun x hx => (HByc.out x hx).later HB2.out)
      clear e0 e1 e2 e3 e4 e5
      have kw : IntKind.i64.wrap ((a : Int) + 1) = ((a + 1 : Nat) : Int) := by rw [IntKind.wrap_i64]; omega
      by_cases hca : cq = a + 1
      · have HLc : Hid (nl = a + 1) := Lib.hid (by have := HCq.out; omega)
        subst hca
        have hle0 : (a : Int) ≤ (a : Int) + 1 := by omega
        have hle1 : (a : Int) + 1 ≤ (nl : Int) := by omega
        have hle2 : (nl : Int) ≤ (a : Int) + 1 := by have := HLc.out; omega
        have hle3 : nl ≤ a + 1 := by omega
        have hle4 : a + 1 ≤ nl := by omega
        have hle6 : (0 : Int) ≤ (a : Int) + 1 := by omega
        refine wp_region_heldz_drew (S := (fun V => V.cell? ⟨pp, 4 + i, none⟩ = some (.slice (some ⟨gq, 0, none⟩) nl (a + 1)))) 25 (by kernel_rfl) x4 (fun hHeld => ?_)
        refine wpAnyZ_take (i := 0) (v := ?vv55) rfl (by kernel_rfl) (by kernel_rfl) (by kernel_rfl) (fun _ _ _ h => h) (Or.inl ⟨by rfl, ?hy55⟩) hHeld ?rr55
        case hy55 => (intro w' hSw; have s0 := hSw; go_simp; try with_reducible rfl)
        try simp only [Act.put, List.setIfInBounds_toArray, List.set_cons_zero, List.set_cons_succ, List.getElem_toArray, List.getElem_cons_succ, List.getElem_cons_zero]
        refine wpAnyZ_take (i := 1) (v := ?vv56) rfl (by kernel_rfl) (by kernel_rfl) (by kernel_rfl) (fun _ _ _ h => h) (Or.inl ⟨by rfl, ?hy56⟩) hHeld ?rr56
        case hy56 => (intro w' hSw; have s0 := hSw; go_simp; try with_reducible rfl)
        try simp only [Act.put, List.setIfInBounds_toArray, List.set_cons_zero, List.set_cons_succ, List.getElem_toArray, List.getElem_cons_succ, List.getElem_cons_zero]
        refine wpAnyZ_take (i := 3) (v := ?vv57) rfl (by kernel_rfl) (by kernel_rfl) (by kernel_rfl) (fun _ _ _ h => h) (Or.inl ⟨by rfl, ?hy57⟩) hHeld ?rr57
        case hy57 => (intro w' hSw; have s0 := hSw; go_simp; try with_reducible rfl)
        try simp only [Act.put, List.setIfInBounds_toArray, List.set_cons_zero, List.set_cons_succ, List.getElem_toArray, List.getElem_cons_succ, List.getElem_cons_zero]
        refine wpAnyZ_take (i := 4) (v := ?vv58) rfl (by kernel_rfl) (by kernel_rfl) (by kernel_rfl) (fun _ _ _ h => h) (Or.inl ⟨by rfl, ?hy58⟩) hHeld ?rr58
        case hy58 => (intro w' hSw; have s0 := hSw; go_simp; try with_reducible rfl)
        try simp only [Act.put, List.setIfInBounds_toArray, List.set_cons_zero, List.set_cons_succ, List.getElem_toArray, List.getElem_cons_succ, List.getElem_cons_zero]
        refine wpAnyZ_take (i := 5) (v := ?vv59) rfl (by kernel_rfl) (by kernel_rfl) (by kernel_rfl) (fun _ _ _ h => h) (Or.inl ⟨by rfl, ?hy59⟩) hHeld ?rr59
        case hy59 => (intro w' hSw; have s0 := hSw; go_simp; try with_reducible rfl)
        try simp only [Act.put, List.setIfInBounds_toArray, List.set_cons_zero, List.set_cons_succ, List.getElem_toArray, List.getElem_cons_succ, List.getElem_cons_zero]
        refine wpAnyZ_take (i := 6) (v := ?vv60) rfl (by kernel_rfl) (by kernel_rfl) (by kernel_rfl) (fun _ _ _ h => h) (Or.inl ⟨by rfl, ?hy60⟩) hHeld ?rr60
        case hy60 => (intro w' hSw; have s0 := hSw; go_simp; try with_reducible rfl)
        try simp only [Act.put, List.setIfInBounds_toArray, List.set_cons_zero, List.set_cons_succ, List.getElem_toArray, List.getElem_cons_succ, List.getElem_cons_zero]
        refine wpAnyZ_take (i := 7) (v := ?vv61) rfl (by kernel_rfl) (by kernel_rfl) (by kernel_rfl) (fun _ _ _ h => h) (Or.inl ⟨by rfl, ?hy61⟩) hHeld ?rr61
        case hy61 => (intro w' hSw; have s0 := hSw; go_simp; try with_reducible rfl)
        try simp only [Act.put, List.setIfInBounds_toArray, List.set_cons_zero, List.set_cons_succ, List.getElem_toArray, List.getElem_cons_succ, List.getElem_cons_zero]
        refine wpAnyZ_take (i := 8) (v := ?vv62) rfl (by kernel_rfl) (by kernel_rfl) (by kernel_rfl) (fun _ _ _ h => h) (Or.inl ⟨by rfl, ?hy62⟩) hHeld ?rr62
        case hy62 => (intro w' hSw; have s0 := hSw; go_simp; try with_reducible rfl)
        try simp only [Act.put, List.setIfInBounds_toArray, List.set_cons_zero, List.set_cons_succ, List.getElem_toArray, List.getElem_cons_succ, List.getElem_cons_zero]
        refine wpAnyZ_take (i := 9) (v := ?vv63) rfl (by kernel_rfl) (by kernel_rfl) (by kernel_rfl) (fun _ _ _ h => h) (Or.inl ⟨by rfl, ?hy63⟩) hHeld ?rr63
        case hy63 => (intro w' hSw; have s0 := hSw; go_simp; try with_reducible rfl)
        try simp only [Act.put, List.setIfInBounds_toArray, List.set_cons_zero, List.set_cons_succ, List.getElem_toArray, List.getElem_cons_succ, List.getElem_cons_zero]
        refine wpAnyZ_take (i := 10) (v := ?vv64) rfl (by kernel_rfl) (by kernel_rfl) (by kernel_rfl) (fun _ _ _ h => h) (Or.inl ⟨by rfl, ?hy64⟩) hHeld ?rr64
        case hy64 => (intro w' hSw; have s0 := hSw; go_simp; try with_reducible rfl)
        try simp only [Act.put, List.setIfInBounds_toArray, List.set_cons_zero, List.set_cons_succ, List.getElem_toArray, List.getElem_cons_succ, List.getElem_cons_zero]
        refine wpAnyZ_take (i := 12) (v := ?vv65) rfl (by kernel_rfl) (by kernel_rfl) (by kernel_rfl) (fun _ _ _ h => h) (Or.inl ⟨by rfl, ?hy65⟩) hHeld ?rr65
        case hy65 => (intro w' hSw; have s0 := hSw; go_simp; try with_reducible rfl)
        try simp only [Act.put, List.setIfInBounds_toArray, List.set_cons_zero, List.set_cons_succ, List.getElem_toArray, List.getElem_cons_succ, List.getElem_cons_zero]
        refine wpAnyZ_take (i := 13) (v := ?vv66) rfl (by kernel_rfl) (by kernel_rfl) (by kernel_rfl) (fun _ _ _ h => h) (Or.inl ⟨by rfl, ?hy66⟩) hHeld ?rr66
        case hy66 => (intro w' hSw; have s0 := hSw; go_simp; try with_reducible rfl)
        try simp only [Act.put, List.setIfInBounds_toArray, List.set_cons_zero, List.set_cons_succ, List.getElem_toArray, List.getElem_cons_succ, List.getElem_cons_zero]
        refine wpAnyZ_take (i := 14) (v := ?vv67) rfl (by kernel_rfl) (by kernel_rfl) (by kernel_rfl) (fun _ _ _ h => h) (Or.inl ⟨by rfl, ?hy67⟩) hHeld ?rr67
        case hy67 => (intro w' hSw; have s0 := hSw; go_simp; try with_reducible rfl)
        try simp only [Act.put, List.setIfInBounds_toArray, List.set_cons_zero, List.set_cons_succ, List.getElem_toArray, List.getElem_cons_succ, List.getElem_cons_zero]
        refine wpAnyZ_take (i := 15) (v := ?vv68) rfl (by kernel_rfl) (by kernel_rfl) (by kernel_rfl) (fun _ _ _ h => h) (Or.inl ⟨by rfl, ?hy68⟩) hHeld ?rr68
        case hy68 => (intro w' hSw; have s0 := hSw; go_simp; try with_reducible rfl)
        try simp only [Act.put, List.setIfInBounds_toArray, List.set_cons_zero, List.set_cons_succ, List.getElem_toArray, List.getElem_cons_succ, List.getElem_cons_zero]
        refine wpAnyZ_take (i := 16) (v := ?vv69) rfl (by kernel_rfl) (by kernel_rfl) (by kernel_rfl) (fun _ _ _ h => h) (Or.inl ⟨by rfl, ?hy69⟩) hHeld ?rr69
        case hy69 => (intro w' hSw; have s0 := hSw; go_simp; try with_reducible rfl)
        try simp only [Act.put, List.setIfInBounds_toArray, List.set_cons_zero, List.set_cons_succ, List.getElem_toArray, List.getElem_cons_succ, List.getElem_cons_zero]
        refine wpAnyZ_take (i := 17) (v := ?vv70) rfl (by kernel_rfl) (by kernel_rfl) (by kernel_rfl) (fun _ _ _ h => h) (Or.inl ⟨by rfl, ?hy70⟩) hHeld ?rr70
        case hy70 => (intro w' hSw; have s0 := hSw; go_simp; try with_reducible rfl)
        try simp only [Act.put, List.setIfInBounds_toArray, List.set_cons_zero, List.set_cons_succ, List.getElem_toArray, List.getElem_cons_succ, List.getElem_cons_zero]
        refine wpAnyZ_take (i := 18) (v := ?vv71) rfl (by kernel_rfl) (by kernel_rfl) (by kernel_rfl) (fun _ _ _ h => h) (Or.inl ⟨by rfl, ?hy71⟩) hHeld ?rr71
        case hy71 => (intro w' hSw; have s0 := hSw; go_simp; try with_reducible rfl)
        try simp only [Act.put, List.setIfInBounds_toArray, List.set_cons_zero, List.set_cons_succ, List.getElem_toArray, List.getElem_cons_succ, List.getElem_cons_zero]
        refine wpAnyZ_take (i := 19) (v := ?vv72) rfl (by kernel_rfl) (by kernel_rfl) (by kernel_rfl) (fun _ _ _ h => h) (Or.inl ⟨by rfl, ?hy72⟩) hHeld ?rr72
        case hy72 => (intro w' hSw; have s0 := hSw; go_simp; try with_reducible rfl)
        try simp only [Act.put, List.setIfInBounds_toArray, List.set_cons_zero, List.set_cons_succ, List.getElem_toArray, List.getElem_cons_succ, List.getElem_cons_zero]
        refine wpAnyZ_take (i := 20) (v := ?vv73) rfl (by kernel_rfl) (by kernel_rfl) (by kernel_rfl) (fun _ _ _ h => h) (Or.inl ⟨by rfl, ?hy73⟩) hHeld ?rr73
        case hy73 => (intro w' hSw; have s0 := hSw; go_simp; try with_reducible rfl)
        try simp only [Act.put, List.setIfInBounds_toArray, List.set_cons_zero, List.set_cons_succ, List.getElem_toArray, List.getElem_cons_succ, List.getElem_cons_zero]
        refine wpAnyZ_takeC [23, 24] (i := 22) (v := ?vv74) rfl (by kernel_rfl) (by kernel_rfl) (by kernel_rfl) (fun _ _ _ h => h) (Or.inl ⟨by rfl, ?hy74⟩) hHeld ?rr74
        case hy74 => (intro w' hSw; have s0 := hSw; go_simp; try with_reducible rfl)
        try simp only [Act.put, List.setIfInBounds_toArray, List.set_cons_zero, List.set_cons_succ, List.getElem_toArray, List.getElem_cons_succ, List.getElem_cons_zero]
        refine wpAnyZ_takeC [24] (i := 23) (v := ?vv75) rfl (by kernel_rfl) (by kernel_rfl) (by kernel_rfl) (fun _ _ _ h => h) (Or.inl ⟨by rfl, ?hy75⟩) hHeld ?rr75
        case hy75 => (intro w' hSw; have s0 := hSw; go_simp; try with_reducible rfl)
        try simp only [Act.put, List.setIfInBounds_toArray, List.set_cons_zero, List.set_cons_succ, List.getElem_toArray, List.getElem_cons_succ, List.getElem_cons_zero]
        refine wpAnyZ_ready (rs := [2]) (by kernel_rfl) (by simp) ?_
        refine AllReadyZ.cons rfl (fun K hK => ?_) AllReadyZ.nil
        try rw [if_pos (by rfl)]
        go_simp
        refine hK.out _ _ (cell_old _ x4) (fun hHeld2 => ?_)
        clear hK K hHeld
        have hHeld := hHeld2
        clear hHeld2
        try simp only [Act.put, List.setIfInBounds_toArray, List.set_cons_zero, List.set_cons_succ, List.getElem_toArray, List.getElem_cons_succ, List.getElem_cons_zero]
        have HWA : Hid (Below w2.heap.size w2 ((w2.alloc (.cells #[] 29)).drew)) := Lib.hid (below_alloc _ _).drew
        refine wpAnyZ_ready (rs := [11]) (by kernel_rfl) (by simp) ?_
        refine AllReadyZ.cons rfl (fun K hK => ?_) AllReadyZ.nil
        try rw [if_pos (by rfl)]
        refine oper_append_k _ (.tmp 126) (.tmp 134) 39 rfl 29 i0 (.agg #[.int .i64 0, .int .i64 0, .int .i64 0, .int .i64 0, .int .i64 0, .slice none 0 0]) 6 64 Try.underlying39 hinfo hz0 hzs hz2 rfl (by decide) w2.heap.size (.slice (some ⟨w2.heap.size, 0, none⟩) 0 0) 0 [] rfl (own_moved (p := fun _ => False) (World.ownsRow_made w2 #[] 0 (Nat.le_refl _) (by decide) rfl) (Moved.drew (Moved.refl (fun _ => False) _)) (fun _ _ h => h)) (some ⟨gq, 0, none⟩) a (a + 1) (cellsE (es.take a)) rfl (by rw [cellsE_len, List.length_take, HEs.out, Nat.min_eq_left (Nat.le_of_lt HLt.out)]) (fun _ => ⟨_, rfl, fun j u hu => by
          rw [← cellsE_take es a (by rw [HEs.out]; exact Nat.le_of_lt HLt.out)] at hu
          have hj := (List.getElem?_eq_some_iff.1 hu).1
          rw [List.length_take] at hj
          rw [List.getElem?_take_of_lt (by omega)] at hu
          refine cell_later HWA.out ?_
          rw [add_off, Nat.zero_add]; exact HQ2.out j u hu⟩) (cellsE_one _) (by have := HLt.out; unfold maxLen; omega) (by have := HLt.out; omega) HWA.out.size ?_
        intro A8 c8 w8 hown8 hgrow8 hwh8
        simp only [Nat.zero_add, List.nil_append] at hown8 hgrow8 hwh8 ⊢
        have HB8 : Hid (Below w2.heap.size w2 w8) := Lib.hid (HWA.out.grown hgrow8 HWA.out.size (fun k e2 => by simp [Value.ownBlock] at e2; omega))
        have HO8 := Lib.hid hown8
        have x4b := cell_later HB8.out x4
        clear hown8 hgrow8 hwh8
        refine hK.out _ _ x4b (fun hHeld2 => ?_)
        clear hK K hHeld
        have hHeld := hHeld2
        clear hHeld2
        try simp only [Act.put, List.setIfInBounds_toArray, List.set_cons_zero, List.set_cons_succ, List.getElem_toArray, List.getElem_cons_succ, List.getElem_cons_zero]
        refine wpAnyZ_ready (rs := [21]) (by kernel_rfl) (by simp) ?_
        refine AllReadyZ.cons rfl (fun K hK => ?_) AllReadyZ.nil
        try rw [if_pos (by rfl)]
        refine oper_append_k _ (.tmp 135) (.tmp 144) 39 rfl 29 i0 (.agg #[.int .i64 0, .int .i64 0, .int .i64 0, .int .i64 0, .int .i64 0, .slice none 0 0]) 6 64 Try.underlying39 hinfo hz0 hzs hz2 rfl (by decide) w2.heap.size _ a (cellsE (es.take a)) rfl HO8.out _ _ _ (cellsE (es.drop (a + 1))) rfl (by rw [cellsE_len, List.length_drop, HEs.out, HLc.out, Nat.sub_self]) (fun h0 => absurd h0 (by have := HLc.out; omega)) (cellsE_one _) (by have := HLt.out; unfold maxLen; omega) (by have := HLt.out; omega) HB8.out.size ?_
        intro A9 c9 w9 hown9 hgrow9 hwh9
        simp only [Nat.add_zero] at hown9 hgrow9 hwh9 ⊢
        rw [← cellsE_append] at hown9
        have HB9 : Hid (Below w2.heap.size w2 w9) := Lib.hid (HB8.out.grown hgrow9 HB8.out.size (fun k e2 => (HO8.out.lt k e2).1))
        have HO9 := Lib.hid hown9
        have x4c := cell_later HB9.out x4
        have f4c : w9.frozen? ⟨pp, 4 + i, none⟩ = false := (H2.out.later HB9.out).free (4 + i)
        clear hown9 hgrow9 hwh9
        refine hK.out _ _ x4c (fun hHeld2 => ?_)
        clear hK K hHeld
        have hHeld := hHeld2
        clear hHeld2
        try simp only [Act.put, List.setIfInBounds_toArray, List.set_cons_zero, List.set_cons_succ, List.getElem_toArray, List.getElem_cons_succ, List.getElem_cons_zero]
        refine wpAnyZ_take (i := 24) (v := ?vv76) rfl (by kernel_rfl) (by kernel_rfl) (by kernel_rfl) (fun _ _ _ h => h) (Or.inl ⟨by rfl, ?hy76⟩) hHeld ?rr76
        case hy76 => (intro w' hSw; have s0 := hSw; go_simp; try with_reducible rfl)
        try simp only [Act.put, List.setIfInBounds_toArray, List.set_cons_zero, List.set_cons_succ, List.getElem_toArray, List.getElem_cons_succ, List.getElem_cons_zero]
        refine wpAnyZ_ready (rs := [25]) (by kernel_rfl) (by simp) ?_
        refine AllReadyZ.last rfl (fun K hK => ?_)
        try rw [if_pos (by rfl)]
        go_simp
        refine hK.out _ _ ?_
        clear hK K hHeld
        try simp only [Act.put, List.setIfInBounds_toArray, List.set_cons_zero, List.set_cons_succ, List.getElem_toArray, List.getElem_cons_succ, List.getElem_cons_zero]
        refine wpAnyZ_done (by kernel_rfl) ?_ _
        obtain ⟨q1, q2, q3⟩ := H2.out.newQ hi (vs := es.take a ++ es.drop (a + 1)) HB9.out (by rw [List.length_append, List.length_take, List.length_drop, HEs.out, Nat.min_eq_left (Nat.le_of_lt HLt.out)]; have := HLc.out; omega) HO9.out (fun y hy => by
          rcases List.mem_append.1 hy with hy | hy
          · exact (HBy2.out y (List.mem_of_mem_take hy)).later HB9.out
          · exact (HBy2.out y (List.mem_of_mem_drop hy)).later HB9.out)
        rw [List.map_append, List.map_take, List.map_drop, HEq.out] at q1
        obtain ⟨w10, hw10⟩ : ∃ x, x = w9.setCell ⟨pp, 4 + i, none⟩ (.slice A9 (a) c9) := ⟨_, rfl⟩
        rw [← hw10] at q1 q2 q3 ⊢
        have H10 := Lib.hid q1
        have HM10 := Lib.hid (And.intro q2 q3)
        have hE10 : w10.heap[wc.heap.size]? = some (.cells #[.int .i64 kd, .int .i64 mi, .int .i64 yo, .int .i64 sq, .int .i64 ak, .slice xA nb xc] 29 (0, 0)) := by
          have h9 := (HB9.out.block _ (heap_lt HE2.out)).trans HE2.out
          have hm : Moved (fun k => k = pp) w9 w10 := by rw [hw10]; exact (Moved.refl (fun k => k = pp) w9).setCell (.inr rfl) _
          exact hm.heap h9 (by have := HXc.out.lt; omega)
        have HE10 := Lib.hid hE10
        have hO10 : OpBox w10 w.heap.size 6 b now A0 n0 c0 v3 v4 v5 v6 v7 v8 := by
          have h9 := (HB9.out.block _ (heap_lt HO2.out)).trans HO2.out
          have hm : Moved (fun k => k = pp) w9 w10 := by rw [hw10]; exact (Moved.refl (fun k => k = pp) w9).setCell (.inr rfl) _
          exact hm.heap h9 (by have := HX.out.lt; omega)
        have o0b := hO10.cells.1
        clear q1 q2 q3 hw10 hO10 x4c f4c x4b x4 o0
        go_wp2
        go_ret
        refine ⟨rfl, ?_, ((HBw.out.mono HX.out.lowle).trans (HB2.out.mono HXc.out.lowle)).trans HM10.out.1, ((Below.ku HBw.out).trans (Below.ku HB2.out)).trans HM10.out.2⟩
        rw [HK.out]
        exact H10.out.to
      · have hcb : a + 1 < cq := by have := HCq.out; have := HLt.out; omega
        have hle0 : (a : Int) ≤ (cq : Int) := by omega
        have hle1 : (a : Int) + 1 ≤ (nl : Int) := by omega
        have hle2 : (nl : Int) ≤ (cq : Int) := by have := HCq.out; omega
        have hle3 : nl ≤ cq := HCq.out
        have hle4 : a + 1 ≤ nl := by omega
        have hle6 : (0 : Int) ≤ (a : Int) + 1 := by omega
        have hle5 : a ≤ cq := by omega
        refine wp_region_heldz_drew (S := (fun V => V.cell? ⟨pp, 4 + i, none⟩ = some (.slice (some ⟨gq, 0, none⟩) nl cq))) 25 (by kernel_rfl) x4 (fun hHeld => ?_)
        refine wpAnyZ_take (i := 0) (v := ?vv77) rfl (by kernel_rfl) (by kernel_rfl) (by kernel_rfl) (fun _ _ _ h => h) (Or.inl ⟨by rfl, ?hy77⟩) hHeld ?rr77
        case hy77 => (intro w' hSw; have s0 := hSw; go_simp; try with_reducible rfl)
        try simp only [Act.put, List.setIfInBounds_toArray, List.set_cons_zero, List.set_cons_succ, List.getElem_toArray, List.getElem_cons_succ, List.getElem_cons_zero]
        refine wpAnyZ_take (i := 1) (v := ?vv78) rfl (by kernel_rfl) (by kernel_rfl) (by kernel_rfl) (fun _ _ _ h => h) (Or.inl ⟨by rfl, ?hy78⟩) hHeld ?rr78
        case hy78 => (intro w' hSw; have s0 := hSw; go_simp; try with_reducible rfl)
        try simp only [Act.put, List.setIfInBounds_toArray, List.set_cons_zero, List.set_cons_succ, List.getElem_toArray, List.getElem_cons_succ, List.getElem_cons_zero]
        refine wpAnyZ_take (i := 3) (v := ?vv79) rfl (by kernel_rfl) (by kernel_rfl) (by kernel_rfl) (fun _ _ _ h => h) (Or.inl ⟨by rfl, ?hy79⟩) hHeld ?rr79
        case hy79 => (intro w' hSw; have s0 := hSw; go_simp; try with_reducible rfl)
        try simp only [Act.put, List.setIfInBounds_toArray, List.set_cons_zero, List.set_cons_succ, List.getElem_toArray, List.getElem_cons_succ, List.getElem_cons_zero]
        refine wpAnyZ_take (i := 4) (v := ?vv80) rfl (by kernel_rfl) (by kernel_rfl) (by kernel_rfl) (fun _ _ _ h => h) (Or.inl ⟨by rfl, ?hy80⟩) hHeld ?rr80
        case hy80 => (intro w' hSw; have s0 := hSw; go_simp; try with_reducible rfl)
        try simp only [Act.put, List.setIfInBounds_toArray, List.set_cons_zero, List.set_cons_succ, List.getElem_toArray, List.getElem_cons_succ, List.getElem_cons_zero]
        refine wpAnyZ_take (i := 5) (v := ?vv81) rfl (by kernel_rfl) (by kernel_rfl) (by kernel_rfl) (fun _ _ _ h => h) (Or.inl ⟨by rfl, ?hy81⟩) hHeld ?rr81
        case hy81 => (intro w' hSw; have s0 := hSw; go_simp; try with_reducible rfl)
        try simp only [Act.put, List.setIfInBounds_toArray, List.set_cons_zero, List.set_cons_succ, List.getElem_toArray, List.getElem_cons_succ, List.getElem_cons_zero]
        refine wpAnyZ_take (i := 6) (v := ?vv82) rfl (by kernel_rfl) (by kernel_rfl) (by kernel_rfl) (fun _ _ _ h => h) (Or.inl ⟨by rfl, ?hy82⟩) hHeld ?rr82
        case hy82 => (intro w' hSw; have s0 := hSw; go_simp; try with_reducible rfl)
        try simp only [Act.put, List.setIfInBounds_toArray, List.set_cons_zero, List.set_cons_succ, List.getElem_toArray, List.getElem_cons_succ, List.getElem_cons_zero]
        refine wpAnyZ_take (i := 7) (v := ?vv83) rfl (by kernel_rfl) (by kernel_rfl) (by kernel_rfl) (fun _ _ _ h => h) (Or.inl ⟨by rfl, ?hy83⟩) hHeld ?rr83
        case hy83 => (intro w' hSw; have s0 := hSw; go_simp; try with_reducible rfl)
        try simp only [Act.put, List.setIfInBounds_toArray, List.set_cons_zero, List.set_cons_succ, List.getElem_toArray, List.getElem_cons_succ, List.getElem_cons_zero]
        refine wpAnyZ_take (i := 8) (v := ?vv84) rfl (by kernel_rfl) (by kernel_rfl) (by kernel_rfl) (fun _ _ _ h => h) (Or.inl ⟨by rfl, ?hy84⟩) hHeld ?rr84
        case hy84 => (intro w' hSw; have s0 := hSw; go_simp; try with_reducible rfl)
        try simp only [Act.put, List.setIfInBounds_toArray, List.set_cons_zero, List.set_cons_succ, List.getElem_toArray, List.getElem_cons_succ, List.getElem_cons_zero]
        refine wpAnyZ_take (i := 9) (v := ?vv85) rfl (by kernel_rfl) (by kernel_rfl) (by kernel_rfl) (fun _ _ _ h => h) (Or.inl ⟨by rfl, ?hy85⟩) hHeld ?rr85
        case hy85 => (intro w' hSw; have s0 := hSw; go_simp; try with_reducible rfl)
        try simp only [Act.put, List.setIfInBounds_toArray, List.set_cons_zero, List.set_cons_succ, List.getElem_toArray, List.getElem_cons_succ, List.getElem_cons_zero]
        refine wpAnyZ_take (i := 10) (v := ?vv86) rfl (by kernel_rfl) (by kernel_rfl) (by kernel_rfl) (fun _ _ _ h => h) (Or.inl ⟨by rfl, ?hy86⟩) hHeld ?rr86
        case hy86 => (intro w' hSw; have s0 := hSw; go_simp; try with_reducible rfl)
        try simp only [Act.put, List.setIfInBounds_toArray, List.set_cons_zero, List.set_cons_succ, List.getElem_toArray, List.getElem_cons_succ, List.getElem_cons_zero]
        refine wpAnyZ_take (i := 12) (v := ?vv87) rfl (by kernel_rfl) (by kernel_rfl) (by kernel_rfl) (fun _ _ _ h => h) (Or.inl ⟨by rfl, ?hy87⟩) hHeld ?rr87
        case hy87 => (intro w' hSw; have s0 := hSw; go_simp; try with_reducible rfl)
        try simp only [Act.put, List.setIfInBounds_toArray, List.set_cons_zero, List.set_cons_succ, List.getElem_toArray, List.getElem_cons_succ, List.getElem_cons_zero]
        refine wpAnyZ_take (i := 13) (v := ?vv88) rfl (by kernel_rfl) (by kernel_rfl) (by kernel_rfl) (fun _ _ _ h => h) (Or.inl ⟨by rfl, ?hy88⟩) hHeld ?rr88
        case hy88 => (intro w' hSw; have s0 := hSw; go_simp; try with_reducible rfl)
        try simp only [Act.put, List.setIfInBounds_toArray, List.set_cons_zero, List.set_cons_succ, List.getElem_toArray, List.getElem_cons_succ, List.getElem_cons_zero]
        refine wpAnyZ_take (i := 14) (v := ?vv89) rfl (by kernel_rfl) (by kernel_rfl) (by kernel_rfl) (fun _ _ _ h => h) (Or.inl ⟨by rfl, ?hy89⟩) hHeld ?rr89
        case hy89 => (intro w' hSw; have s0 := hSw; go_simp; try with_reducible rfl)
        try simp only [Act.put, List.setIfInBounds_toArray, List.set_cons_zero, List.set_cons_succ, List.getElem_toArray, List.getElem_cons_succ, List.getElem_cons_zero]
        refine wpAnyZ_take (i := 15) (v := ?vv90) rfl (by kernel_rfl) (by kernel_rfl) (by kernel_rfl) (fun _ _ _ h => h) (Or.inl ⟨by rfl, ?hy90⟩) hHeld ?rr90
        case hy90 => (intro w' hSw; have s0 := hSw; go_simp; try with_reducible rfl)
        try simp only [Act.put, List.setIfInBounds_toArray, List.set_cons_zero, List.set_cons_succ, List.getElem_toArray, List.getElem_cons_succ, List.getElem_cons_zero]
        refine wpAnyZ_take (i := 16) (v := ?vv91) rfl (by kernel_rfl) (by kernel_rfl) (by kernel_rfl) (fun _ _ _ h => h) (Or.inl ⟨by rfl, ?hy91⟩) hHeld ?rr91
        case hy91 => (intro w' hSw; have s0 := hSw; go_simp; try with_reducible rfl)
        try simp only [Act.put, List.setIfInBounds_toArray, List.set_cons_zero, List.set_cons_succ, List.getElem_toArray, List.getElem_cons_succ, List.getElem_cons_zero]
        refine wpAnyZ_take (i := 17) (v := ?vv92) rfl (by kernel_rfl) (by kernel_rfl) (by kernel_rfl) (fun _ _ _ h => h) (Or.inl ⟨by rfl, ?hy92⟩) hHeld ?rr92
        case hy92 => (intro w' hSw; have s0 := hSw; go_simp; try with_reducible rfl)
        try simp only [Act.put, List.setIfInBounds_toArray, List.set_cons_zero, List.set_cons_succ, List.getElem_toArray, List.getElem_cons_succ, List.getElem_cons_zero]
        refine wpAnyZ_take (i := 18) (v := ?vv93) rfl (by kernel_rfl) (by kernel_rfl) (by kernel_rfl) (fun _ _ _ h => h) (Or.inl ⟨by rfl, ?hy93⟩) hHeld ?rr93
        case hy93 => (intro w' hSw; have s0 := hSw; go_simp; try with_reducible rfl)
        try simp only [Act.put, List.setIfInBounds_toArray, List.set_cons_zero, List.set_cons_succ, List.getElem_toArray, List.getElem_cons_succ, List.getElem_cons_zero]
        refine wpAnyZ_take (i := 19) (v := ?vv94) rfl (by kernel_rfl) (by kernel_rfl) (by kernel_rfl) (fun _ _ _ h => h) (Or.inl ⟨by rfl, ?hy94⟩) hHeld ?rr94
        case hy94 => (intro w' hSw; have s0 := hSw; go_simp; try with_reducible rfl)
        try simp only [Act.put, List.setIfInBounds_toArray, List.set_cons_zero, List.set_cons_succ, List.getElem_toArray, List.getElem_cons_succ, List.getElem_cons_zero]
        refine wpAnyZ_take (i := 20) (v := ?vv95) rfl (by kernel_rfl) (by kernel_rfl) (by kernel_rfl) (fun _ _ _ h => h) (Or.inl ⟨by rfl, ?hy95⟩) hHeld ?rr95
        case hy95 => (intro w' hSw; have s0 := hSw; go_simp; try with_reducible rfl)
        try simp only [Act.put, List.setIfInBounds_toArray, List.set_cons_zero, List.set_cons_succ, List.getElem_toArray, List.getElem_cons_succ, List.getElem_cons_zero]
        refine wpAnyZ_takeC [23, 24] (i := 22) (v := ?vv96) rfl (by kernel_rfl) (by kernel_rfl) (by kernel_rfl) (fun _ _ _ h => h) (Or.inl ⟨by rfl, ?hy96⟩) hHeld ?rr96
        case hy96 => (intro w' hSw; have s0 := hSw; go_simp; try with_reducible rfl)
        try simp only [Act.put, List.setIfInBounds_toArray, List.set_cons_zero, List.set_cons_succ, List.getElem_toArray, List.getElem_cons_succ, List.getElem_cons_zero]
        refine wpAnyZ_takeC [24] (i := 23) (v := ?vv97) rfl (by kernel_rfl) (by kernel_rfl) (by kernel_rfl) (fun _ _ _ h => h) (Or.inl ⟨by rfl, ?hy97⟩) hHeld ?rr97
        case hy97 => (intro w' hSw; have s0 := hSw; go_simp; try with_reducible rfl)
        try simp only [Act.put, List.setIfInBounds_toArray, List.set_cons_zero, List.set_cons_succ, List.getElem_toArray, List.getElem_cons_succ, List.getElem_cons_zero]
        refine wpAnyZ_ready (rs := [2]) (by kernel_rfl) (by simp) ?_
        refine AllReadyZ.cons rfl (fun K hK => ?_) AllReadyZ.nil
        try rw [if_pos (by rfl)]
        go_simp
        refine hK.out _ _ (cell_old _ x4) (fun hHeld2 => ?_)
        clear hK K hHeld
        have hHeld := hHeld2
        clear hHeld2
        try simp only [Act.put, List.setIfInBounds_toArray, List.set_cons_zero, List.set_cons_succ, List.getElem_toArray, List.getElem_cons_succ, List.getElem_cons_zero]
        have HWA : Hid (Below w2.heap.size w2 ((w2.alloc (.cells #[] 29)).drew)) := Lib.hid (below_alloc _ _).drew
        refine wpAnyZ_ready (rs := [11]) (by kernel_rfl) (by simp) ?_
        refine AllReadyZ.cons rfl (fun K hK => ?_) AllReadyZ.nil
        try rw [if_pos (by rfl)]
        refine oper_append_k _ (.tmp 126) (.tmp 134) 39 rfl 29 i0 (.agg #[.int .i64 0, .int .i64 0, .int .i64 0, .int .i64 0, .int .i64 0, .slice none 0 0]) 6 64 Try.underlying39 hinfo hz0 hzs hz2 rfl (by decide) w2.heap.size (.slice (some ⟨w2.heap.size, 0, none⟩) 0 0) 0 [] rfl (own_moved (p := fun _ => False) (World.ownsRow_made w2 #[] 0 (Nat.le_refl _) (by decide) rfl) (Moved.drew (Moved.refl (fun _ => False) _)) (fun _ _ h => h)) (some ⟨gq, 0, none⟩) a cq (cellsE (es.take a)) rfl (by rw [cellsE_len, List.length_take, HEs.out, Nat.min_eq_left (Nat.le_of_lt HLt.out)]) (fun _ => ⟨_, rfl, fun j u hu => by
          rw [← cellsE_take es a (by rw [HEs.out]; exact Nat.le_of_lt HLt.out)] at hu
          have hj := (List.getElem?_eq_some_iff.1 hu).1
          rw [List.length_take] at hj
          rw [List.getElem?_take_of_lt (by omega)] at hu
          refine cell_later HWA.out ?_
          rw [add_off, Nat.zero_add]; exact HQ2.out j u hu⟩) (cellsE_one _) (by have := HLt.out; unfold maxLen; omega) (by have := HLt.out; omega) HWA.out.size ?_
        intro A8 c8 w8 hown8 hgrow8 hwh8
        simp only [Nat.zero_add, List.nil_append] at hown8 hgrow8 hwh8 ⊢
        have HB8 : Hid (Below w2.heap.size w2 w8) := Lib.hid (HWA.out.grown hgrow8 HWA.out.size (fun k e2 => by simp [Value.ownBlock] at e2; omega))
        have HO8 := Lib.hid hown8
        have x4b := cell_later HB8.out x4
        clear hown8 hgrow8 hwh8
        refine hK.out _ _ x4b (fun hHeld2 => ?_)
        clear hK K hHeld
        have hHeld := hHeld2
        clear hHeld2
        try simp only [Act.put, List.setIfInBounds_toArray, List.set_cons_zero, List.set_cons_succ, List.getElem_toArray, List.getElem_cons_succ, List.getElem_cons_zero]
        refine wpAnyZ_ready (rs := [21]) (by kernel_rfl) (by simp) ?_
        refine AllReadyZ.cons rfl (fun K hK => ?_) AllReadyZ.nil
        try rw [if_pos (by rfl)]
        refine oper_append_k _ (.tmp 135) (.tmp 144) 39 rfl 29 i0 (.agg #[.int .i64 0, .int .i64 0, .int .i64 0, .int .i64 0, .int .i64 0, .slice none 0 0]) 6 64 Try.underlying39 hinfo hz0 hzs hz2 rfl (by decide) w2.heap.size _ a (cellsE (es.take a)) rfl HO8.out (some ⟨gq, (a + 1) * 6, none⟩) (nl - (a + 1)) (cq - (a + 1)) (cellsE (es.drop (a + 1))) rfl (by rw [cellsE_len, List.length_drop, HEs.out]) (fun _ => ⟨_, rfl, fun j u hu => by
          rw [← cellsE_drop es (a + 1) (by rw [HEs.out]; exact HLt.out), List.getElem?_drop] at hu
          refine cell_later HB8.out ?_
          have := HQ2.out _ u hu
          rw [add_off]; exact this⟩) (cellsE_one _) (by have := HLt.out; unfold maxLen; omega) (by have := HLt.out; omega) HB8.out.size ?_
        intro A9 c9 w9 hown9 hgrow9 hwh9
        rw [← cellsE_append] at hown9
        have HB9 : Hid (Below w2.heap.size w2 w9) := Lib.hid (HB8.out.grown hgrow9 HB8.out.size (fun k e2 => (HO8.out.lt k e2).1))
        have HO9 := Lib.hid hown9
        have x4c := cell_later HB9.out x4
        have f4c : w9.frozen? ⟨pp, 4 + i, none⟩ = false := (H2.out.later HB9.out).free (4 + i)
        clear hown9 hgrow9 hwh9
        refine hK.out _ _ x4c (fun hHeld2 => ?_)
        clear hK K hHeld
        have hHeld := hHeld2
        clear hHeld2
        try simp only [Act.put, List.setIfInBounds_toArray, List.set_cons_zero, List.set_cons_succ, List.getElem_toArray, List.getElem_cons_succ, List.getElem_cons_zero]
        refine wpAnyZ_take (i := 24) (v := ?vv98) rfl (by kernel_rfl) (by kernel_rfl) (by kernel_rfl) (fun _ _ _ h => h) (Or.inl ⟨by rfl, ?hy98⟩) hHeld ?rr98
        case hy98 => (intro w' hSw; have s0 := hSw; go_simp; try with_reducible rfl)
        try simp only [Act.put, List.setIfInBounds_toArray, List.set_cons_zero, List.set_cons_succ, List.getElem_toArray, List.getElem_cons_succ, List.getElem_cons_zero]
        refine wpAnyZ_ready (rs := [25]) (by kernel_rfl) (by simp) ?_
        refine AllReadyZ.last rfl (fun K hK => ?_)
        try rw [if_pos (by rfl)]
        go_simp
        refine hK.out _ _ ?_
        clear hK K hHeld
        try simp only [Act.put, List.setIfInBounds_toArray, List.set_cons_zero, List.set_cons_succ, List.getElem_toArray, List.getElem_cons_succ, List.getElem_cons_zero]
        refine wpAnyZ_done (by kernel_rfl) ?_ _
        obtain ⟨q1, q2, q3⟩ := H2.out.newQ hi (vs := es.take a ++ es.drop (a + 1)) HB9.out (by rw [List.length_append, List.length_take, List.length_drop, HEs.out, Nat.min_eq_left (Nat.le_of_lt HLt.out)]) HO9.out (fun y hy => by
          rcases List.mem_append.1 hy with hy | hy
          · exact (HBy2.out y (List.mem_of_mem_take hy)).later HB9.out
          · exact (HBy2.out y (List.mem_of_mem_drop hy)).later HB9.out)
        rw [List.map_append, List.map_take, List.map_drop, HEq.out] at q1
        obtain ⟨w10, hw10⟩ : ∃ x, x = w9.setCell ⟨pp, 4 + i, none⟩ (.slice A9 (a + (nl - (a + 1))) c9) := ⟨_, rfl⟩
        rw [← hw10] at q1 q2 q3 ⊢
        have H10 := Lib.hid q1
        have HM10 := Lib.hid (And.intro q2 q3)
        have hE10 : w10.heap[wc.heap.size]? = some (.cells #[.int .i64 kd, .int .i64 mi, .int .i64 yo, .int .i64 sq, .int .i64 ak, .slice xA nb xc] 29 (0, 0)) := by
          have h9 := (HB9.out.block _ (heap_lt HE2.out)).trans HE2.out
          have hm : Moved (fun k => k = pp) w9 w10 := by rw [hw10]; exact (Moved.refl (fun k => k = pp) w9).setCell (.inr rfl) _
          exact hm.heap h9 (by have := HXc.out.lt; omega)
        have HE10 := Lib.hid hE10
        have hO10 : OpBox w10 w.heap.size 6 b now A0 n0 c0 v3 v4 v5 v6 v7 v8 := by
          have h9 := (HB9.out.block _ (heap_lt HO2.out)).trans HO2.out
          have hm : Moved (fun k => k = pp) w9 w10 := by rw [hw10]; exact (Moved.refl (fun k => k = pp) w9).setCell (.inr rfl) _
          exact hm.heap h9 (by have := HX.out.lt; omega)
        have o0b := hO10.cells.1
        clear q1 q2 q3 hw10 hO10 x4c f4c x4b x4 o0
        go_wp2
        go_ret
        refine ⟨rfl, ?_, ((HBw.out.mono HX.out.lowle).trans (HB2.out.mono HXc.out.lowle)).trans HM10.out.1, ((Below.ku HBw.out).trans (Below.ku HB2.out)).trans HM10.out.2⟩
        rw [HK.out]
        exact H10.out.to
end
end Go.Proofs.Ytihkjdoajfjnpaa
