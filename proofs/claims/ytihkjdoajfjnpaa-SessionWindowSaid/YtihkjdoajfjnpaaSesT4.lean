/- The laws' Do: act 4. -/
import Derived.Test.YtihkjdoajfjnpaaSesS
set_option linter.unusedSimpArgs false
set_option linter.unusedVariables false
namespace Go.Proofs.Ytihkjdoajfjnpaa
open Go.ChangeShapes Go.WideShapes Go.ChangeAt Go.RowKit Go.Base Go.Ses

section
variable {B pp i : Nat} {w w1 w' : World} {X : Nat → Side} {P : Nat → Nat} {F : Nat → Nat → Prop} {G : Nat → Prop} {Q S C : Nat → Value} {q : Nat → Prop}
set_option maxHeartbeats 8000000 in
set_option maxRecDepth 20000 in
theorem do_four (h : PairX B w pp X P F G Q S C) (hi : i < 2) (b now : Int) (hby : bits BinOp.and IntKind.i64 b 1 = (i : Int)) (hnow : -9223372036854775808 ≤ now ∧ now ≤ 9223372036854775807) (A0 : Option Addr) (body : Bytes) (c0 : Nat) (hy : Bd B w A0 body) (hbl : body.length ≤ 140737488355328) (v3 v4 v5 v6 v7 v8 : Value)
    {NN : Nat} (hs0 : Small NN (X i)) (hs1 : Small NN (X (1 - i))) (hfq : ∀ e ∈ (X i).q, fitsB e = true) (hcl : (X i).came.length ≤ 2147483648) :
    Calls Try.prog 8 #[.pointer (some ⟨pp, 0, none⟩), .agg #[.int .i64 4, .int .i64 b, .slice A0 body.length c0, v3, v4, v5, v6, v7, v8, .int .i64 now]] w (DoPost B pp i X 4 now body w) := by
  obtain ⟨n0, hn0⟩ : ∃ n, n = body.length := ⟨_, rfl⟩
  obtain ⟨W1, hW1⟩ : ∃ W1, W1 = w.alloc (.cells #[.int .i64 4, .int .i64 b, .slice A0 n0 c0, v3, v4, v5, v6, v7, v8, .int .i64 now] 31) := ⟨_, rfl⟩
  have hB1 : Below w.heap.size w W1 := by rw [hW1]; exact below_alloc _ _
  have kO : OpBox W1 w.heap.size 4 b now A0 n0 c0 v3 v4 v5 v6 v7 v8 := by rw [hW1]; exact heap_new w _
  have HX := Lib.hid h
  have HB1 := Lib.hid hB1
  have HO1 := Lib.hid kO
  have HX1 := Lib.hid (h.later hB1)
  have HW1 := Lib.hid hW1
  have HY := Lib.hid hy
  have HN0 := Lib.hid hn0
  have HBl : Hid (n0 ≤ 140737488355328) := Lib.hid (by rw [hn0]; exact hbl)
  have HS0 := Lib.hid hs0
  have HS1 := Lib.hid hs1
  have HNow := Lib.hid hnow
  obtain ⟨Aq, cq, es, hq, hqe, hqo, hqb⟩ := h.q i hi
  obtain ⟨nl, hnq⟩ : ∃ n, n = (X i).q.length := ⟨_, rfl⟩
  rw [← hnq] at hq hqo
  have HQ := Lib.hid (And.intro hq (And.intro hqe (And.intro hqo (And.intro hqb hnq))))
  obtain ⟨o0, o1, o2, o9⟩ := kO.cells
  have q4 : W1.cell? ⟨pp, 4 + i, none⟩ = some (.slice Aq nl cq) := by rw [← hq]; exact ((h.later hB1).cell hi).2.2.1
  have hi' : (i : Int) < 2 := by omega
  have hi0 : (0 : Int) ≤ (i : Int) := by omega
  have hq64 : (nl : Int) ≤ 1000000 := by rw [hnq]; have := hs0.1; have := hs0.2.2.2; omega
  have HQ64 := Lib.hid hq64
  rw [← hn0]
  clear h hy hs0 hs1 hnow hq hqe hqo hqb hnq hW1 hB1 kO hn0 hbl
  obtain ⟨i0, hinfo, hz0, hzs, hz2⟩ := info_parts (P := Try.prog) (e := 29) (z := .agg #[.int .i64 0, .int .i64 0, .int .i64 0, .int .i64 0, .int .i64 0, .slice none 0 0]) (size := 6) (bytes := 64) (by kernel_rfl)
  go_enter Try.func8, Try.ntmps8
  go_upto_if 20 with (rw [← HW1.out])
  go_cut [6] from 20 to 41 (fun v wx => ∃ a : Nat, v = .int .i64 (a : Int) ∧ Hid (Below W1.heap.size W1 wx ∧ AtIs now nl a))
  case first =>
    by_cases hz : nl = 0
    · subst hz
      go_wp2
      go_meet
      exact ⟨0, rfl, Lib.hid ⟨Below.refl _ _, .inl rfl⟩⟩
    · have hz1 : (0 : Int) < (nl : Int) := by omega
      have hz2 : ((nl : Int) == 0) = false := by simp; omega
      have hz3 : ¬ (nl : Int) = 0 := by omega
      have HZ := Lib.hid hz
      by_cases ht : now.tmod (nl : Int) < 0
      · have HA := Lib.hid (at_neg hz ht)
        have hlt : -(nl : Int) < now.tmod (nl : Int) := Int.lt_tmod_of_pos now hz1
        have kw : IntKind.i64.wrap (now.tmod (nl : Int) + (nl : Int)) = now.tmod (nl : Int) + (nl : Int) := by rw [IntKind.wrap_i64]; omega
        clear hz
        go_wp2_with fail
        go_quiet (fail)
        go_wp2
        go_meet
        exact ⟨(now.tmod (nl : Int) + nl).toNat, by go_num, Lib.hid ⟨below_drewN (Below.refl _ _) _, HA.out⟩⟩
      · have HA := Lib.hid (at_pos hz ht)
        clear hz
        go_wp2_with fail
        go_quiet (fail)
        go_wp2
        go_meet
        exact ⟨(now.tmod (nl : Int)).toNat, by go_num, Lib.hid ⟨below_drewN (Below.refl _ _) _, HA.out⟩⟩
  case rest =>
    obtain ⟨a, rfl, HC⟩ := hcut
    have HXc := Lib.hid (HX1.out.later HC.out.1)
    have hOc : OpBox wc w.heap.size 4 b now A0 n0 c0 v3 v4 v5 v6 v7 v8 := (HC.out.1.block _ (heap_lt HO1.out)).trans HO1.out
    have HOc := Lib.hid hOc
    have hbw : Below w.heap.size w wc := HB1.out.trans (HC.out.1.mono HB1.out.size)
    have HBw := Lib.hid hbw
    clear o0 o1 o2 o9 q4
    obtain ⟨o0, o1, o2, o9⟩ := hOc.cells
    clear hOc hbw
    have hqc : wc.ownsRow B 29 6 (.slice Aq nl cq) nl (cellsE es) := by have := own_moved (p := fun _ => False) HQ.out.2.2.1 (Below.movedNew HBw.out) (fun _ _ h => h); rw [HQ.out.1] at this; exact this
    have x4 : wc.cell? ⟨pp, 4 + i, none⟩ = some (.slice Aq nl cq) := by rw [← HQ.out.1]; exact (HXc.out.cell hi).2.2.1
    by_cases hz : nl = 0
    · subst hz
      have HK : Hid (doX 4 now body i X = X) := Lib.hid (by
        have h0 : (X i).q = [] := List.eq_nil_of_length_eq_zero HQ.out.2.2.2.2.symm
        unfold doX doS
        rw [if_neg (show ¬ (4 : Int) = 1 by decide), if_neg (show ¬ (4 : Int) = 3 by decide), if_pos (show ((4 : Int) = 4 ∨ (4 : Int) = 5 ∨ (4 : Int) = 6) by decide)]
        simp only [h0, List.getElem?_nil, upd_self])
      clear hqc
      go_wp2
      go_ret
      refine ⟨rfl, ?_, HBw.out.mono HX.out.lowle, Below.ku HBw.out⟩
      rw [HK.out]
      exact HXc.out.to
    · have hlt : a < nl ∧ a = atQ now nl := by rcases HC.out.2 with h | h
                                               · exact absurd h hz
                                               · exact ⟨h.2, h.1⟩
      have hen : es.length = nl := by rw [HQ.out.2.2.2.2, ← HQ.out.2.1, List.length_map]
      obtain ⟨x, hx⟩ : ∃ x, es[a]? = some x := ⟨es[a]'(by omega), List.getElem?_eq_getElem (by omega)⟩
      obtain ⟨gq, hgq, _⟩ := own_cell hqc rfl 0 (by omega)
      subst hgq
      have hcell : ∀ j u, (cellsE es)[j]? = some u → wc.cell? ⟨gq, j, none⟩ = some u := fun j u hu => by
        have hj := (List.getElem?_eq_some_iff.1 hu).1
        rw [cellsE_len, hen] at hj
        obtain ⟨g2, e2, h2⟩ := own_cell hqc rfl j hj
        injection e2 with e2; injection e2 with e2; subst e2
        rw [h2]; exact hu
      have hxe : (X i).q[a]? = some x.e := by rw [← HQ.out.2.1, List.getElem?_map, hx]; rfl
      have hxm : x ∈ es := List.mem_of_getElem? hx
      have hat : ∀ j u, j < 6 → x.cells[j]? = some u → wc.cell? ⟨gq, a * 6 + j, none⟩ = some u := fun j u hj hu => hcell _ u (by rw [cellsE_at es a j (by omega) hj, show es[a]'(by omega) = x from (List.getElem?_eq_some_iff.1 hx).2]; exact hu)
      have hbx := HQ.out.2.2.2.1 x hxm
      obtain ⟨⟨kd, mi, yo, sq, ak, bd⟩, xA, xc⟩ := x
      obtain ⟨nb, hnb⟩ : ∃ n, n = bd.length := ⟨_, rfl⟩
      have g0 : wc.cell? ⟨gq, a * 6, none⟩ = some (.int .i64 kd) := hat 0 _ (by decide) rfl
      have g1 : wc.cell? ⟨gq, a * 6 + 1, none⟩ = some (.int .i64 mi) := hat 1 _ (by decide) rfl
      have g2 : wc.cell? ⟨gq, a * 6 + 2, none⟩ = some (.int .i64 yo) := hat 2 _ (by decide) rfl
      have g3 : wc.cell? ⟨gq, a * 6 + 3, none⟩ = some (.int .i64 sq) := hat 3 _ (by decide) rfl
      have g4 : wc.cell? ⟨gq, a * 6 + 4, none⟩ = some (.int .i64 ak) := hat 4 _ (by decide) rfl
      have g5 : wc.cell? ⟨gq, a * 6 + 5, none⟩ = some (.slice xA nb xc) := by rw [hnb]; exact hat 5 _ (by decide) rfl
      have HK : Hid (doX 4 now body i X = upd X i (inS (outQ (X i) a) ⟨kd, mi, yo, sq, ak, bd⟩)) := Lib.hid (by
        have h0 : (X i).q[atQ now (X i).q.length]? = some ⟨kd, mi, yo, sq, ak, bd⟩ := by rw [← HQ.out.2.2.2.2, ← hlt.2]; exact hxe
        unfold doX doS
        rw [if_neg (show ¬ (4 : Int) = 1 by decide), if_neg (show ¬ (4 : Int) = 3 by decide), if_pos (show ((4 : Int) = 4 ∨ (4 : Int) = 5 ∨ (4 : Int) = 6) by decide)]
        simp only [h0]
        rw [if_neg (show ¬ (4 : Int) = 6 by decide), if_neg (show ¬ (4 : Int) = 5 by decide)]
        rw [← HQ.out.2.2.2.2, ← hlt.2]
        exact upd_pair X hi _)
      have HNb := Lib.hid hnb
      have HEs := Lib.hid hen
      have HLt := Lib.hid hlt.1
      have hlt0 := hlt.1
      have HBx := Lib.hid (hbx.kept (Below.ku HBw.out))
      have HCl := Lib.hid hcl
      have HCq : Hid (nl ≤ cq) := Lib.hid (own_capK hqc).1
      have HFe := Lib.hid (hfq _ (List.mem_of_getElem? hxe))
      have HEq := Lib.hid HQ.out.2.1
      have HCe := Lib.hid hcell
      have HByc : Hid (∀ x ∈ es, ByU wc x.A x.e.body) := Lib.hid (fun x hx => (HQ.out.2.2.2.1 x hx).kept (Below.ku HBw.out))
      have hlt1 : (a : Int) < (nl : Int) := by omega
      have ha0 : (0 : Int) ≤ (a : Int) := by omega
      have hza : ((nl : Int) == 0) = false := by simp; omega
      clear hlt hen hx hxe hxm hat hbx hnb hqc hcell hz
      go_wp2_with (refine wpList_store_new rfl 29 (.tmp 7) (.tmp 120) rfl wc.heap.size #[.int .i64 kd, .int .i64 mi, .int .i64 yo, .int .i64 sq, .int .i64 ak, .slice xA nb xc] rfl rfl 29 #[.int .i64 0, .int .i64 0, .int .i64 0, .int .i64 0, .int .i64 0, .slice none 0 0] (heap_new wc _) (by kernel_rfl) rfl rfl ?_; intro w2 hzz hb2 hk2 ho2; have hb2b := hb2 wc.heap.size wc (below_alloc _ _) (Nat.le_refl _); have HB2 := Lib.hid hb2b; have HE2 := Lib.hid hk2; have H2 := Lib.hid (HXc.out.later hb2b); have hO2 := (hb2b.block _ (heap_lt HOc.out)).trans HOc.out; have HO2 : Hid (OpBox w2 w.heap.size 4 b now A0 n0 c0 v3 v4 v5 v6 v7 v8) := Lib.hid hO2; have x4w := cell_later hb2b x4; clear x4 o0 o1 o2 o9; have o0 := HO2.out.cells.1; have e0 := cell_of_row _ _ 0 _ _ _ hk2; have e1 := cell_of_row _ _ 1 _ _ _ hk2; have e2 := cell_of_row _ _ 2 _ _ _ hk2; have e3 := cell_of_row _ _ 3 _ _ _ hk2; have e4 := cell_of_row _ _ 4 _ _ _ hk2; have e5 := cell_of_row _ _ 5 _ _ _ hk2; have x4 := x4w; clear x4w; clear hzz hb2 hk2 ho2 hb2b hO2; go_wp2_with fail)
      clear g0 g1 g2 g3 g4 g5
      have HQ2 : Hid (∀ j u, (cellsE es)[j]? = some u → w2.cell? ⟨gq, j, none⟩ = some u) := Lib.hid (fun j u hu => cell_later HB2.out (HCe.out j u hu))
      have HBy2 : Hid (∀ x ∈ es, ByU w2 x.A x.e.body) := Lib.hid (fun x hx => (HByc.out x hx).later HB2.out)
      clear e0 e1 e2 e3 e4 e5
      have kw : IntKind.i64.wrap ((a : Int) + 1) = ((a + 1 : Nat) : Int) := by rw [IntKind.wrap_i64]; omega
      by_cases hca : cq = a + 1
      · have HLc : Hid (nl = a + 1) := Lib.hid (by have := HCq.out; omega)
        subst hca
        have hle0 : (a : Int) ≤ (a : Int) + 1 := by omega
        have hle1 : (a : Int) + 1 ≤ (nl : Int) := by omega
        have hle2 : (nl : Int) ≤ (a : Int) + 1 := by have := HLc.out; omega
        have hle3 : nl ≤ a + 1 := by omega
        have hle4 : a + 1 ≤ nl := by omega
        have hle6 : (0 : Int) ≤ (a : Int) + 1 := by omega
        refine wp_region_heldz_drew (S := (fun V => V.cell? ⟨pp, 4 + i, none⟩ = some (.slice (some ⟨gq, 0, none⟩) nl (a + 1)))) 25 (by kernel_rfl) x4 (fun hHeld => ?_)
        refine wpAnyZ_take (i := 0) (v := ?vv99) rfl (by kernel_rfl) (by kernel_rfl) (by kernel_rfl) (fun _ _ _ h => h) (Or.inl ⟨by rfl, ?hy99⟩) hHeld ?rr99
        case hy99 => (intro w' hSw; have s0 := hSw; go_simp; try with_reducible rfl)
        try simp only [Act.put, List.setIfInBounds_toArray, List.set_cons_zero, List.set_cons_succ, List.getElem_toArray, List.getElem_cons_succ, List.getElem_cons_zero]
        refine wpAnyZ_take (i := 1) (v := ?vv100) rfl (by kernel_rfl) (by kernel_rfl) (by kernel_rfl) (fun _ _ _ h => h) (Or.inl ⟨by rfl, ?hy100⟩) hHeld ?rr100
        case hy100 => (intro w' hSw; have s0 := hSw; go_simp; try with_reducible rfl)
        try simp only [Act.put, List.setIfInBounds_toArray, List.set_cons_zero, List.set_cons_succ, List.getElem_toArray, List.getElem_cons_succ, List.getElem_cons_zero]
        refine wpAnyZ_take (i := 3) (v := ?vv101) rfl (by kernel_rfl) (by kernel_rfl) (by kernel_rfl) (fun _ _ _ h => h) (Or.inl ⟨by rfl, ?hy101⟩) hHeld ?rr101
        case hy101 => (intro w' hSw; have s0 := hSw; go_simp; try with_reducible rfl)
        try simp only [Act.put, List.setIfInBounds_toArray, List.set_cons_zero, List.set_cons_succ, List.getElem_toArray, List.getElem_cons_succ, List.getElem_cons_zero]
        refine wpAnyZ_take (i := 4) (v := ?vv102) rfl (by kernel_rfl) (by kernel_rfl) (by kernel_rfl) (fun _ _ _ h => h) (Or.inl ⟨by rfl, ?hy102⟩) hHeld ?rr102
        case hy102 => (intro w' hSw; have s0 := hSw; go_simp; try with_reducible rfl)
        try simp only [Act.put, List.setIfInBounds_toArray, List.set_cons_zero, List.set_cons_succ, List.getElem_toArray, List.getElem_cons_succ, List.getElem_cons_zero]
        refine wpAnyZ_take (i := 5) (v := ?vv103) rfl (by kernel_rfl) (by kernel_rfl) (by kernel_rfl) (fun _ _ _ h => h) (Or.inl ⟨by rfl, ?hy103⟩) hHeld ?rr103
        case hy103 => (intro w' hSw; have s0 := hSw; go_simp; try with_reducible rfl)
        try simp only [Act.put, List.setIfInBounds_toArray, List.set_cons_zero, List.set_cons_succ, List.getElem_toArray, List.getElem_cons_succ, List.getElem_cons_zero]
        refine wpAnyZ_take (i := 6) (v := ?vv104) rfl (by kernel_rfl) (by kernel_rfl) (by kernel_rfl) (fun _ _ _ h => h) (Or.inl ⟨by rfl, ?hy104⟩) hHeld ?rr104
        case hy104 => (intro w' hSw; have s0 := hSw; go_simp; try with_reducible rfl)
        try simp only [Act.put, List.setIfInBounds_toArray, List.set_cons_zero, List.set_cons_succ, List.getElem_toArray, List.getElem_cons_succ, List.getElem_cons_zero]
        refine wpAnyZ_take (i := 7) (v := ?vv105) rfl (by kernel_rfl) (by kernel_rfl) (by kernel_rfl) (fun _ _ _ h => h) (Or.inl ⟨by rfl, ?hy105⟩) hHeld ?rr105
        case hy105 => (intro w' hSw; have s0 := hSw; go_simp; try with_reducible rfl)
        try simp only [Act.put, List.setIfInBounds_toArray, List.set_cons_zero, List.set_cons_succ, List.getElem_toArray, List.getElem_cons_succ, List.getElem_cons_zero]
        refine wpAnyZ_take (i := 8) (v := ?vv106) rfl (by kernel_rfl) (by kernel_rfl) (by kernel_rfl) (fun _ _ _ h => h) (Or.inl ⟨by rfl, ?hy106⟩) hHeld ?rr106
        case hy106 => (intro w' hSw; have s0 := hSw; go_simp; try with_reducible rfl)
        try simp only [Act.put, List.setIfInBounds_toArray, List.set_cons_zero, List.set_cons_succ, List.getElem_toArray, List.getElem_cons_succ, List.getElem_cons_zero]
        refine wpAnyZ_take (i := 9) (v := ?vv107) rfl (by kernel_rfl) (by kernel_rfl) (by kernel_rfl) (fun _ _ _ h => h) (Or.inl ⟨by rfl, ?hy107⟩) hHeld ?rr107
        case hy107 => (intro w' hSw; have s0 := hSw; go_simp; try with_reducible rfl)
        try simp only [Act.put, List.setIfInBounds_toArray, List.set_cons_zero, List.set_cons_succ, List.getElem_toArray, List.getElem_cons_succ, List.getElem_cons_zero]
        refine wpAnyZ_take (i := 10) (v := ?vv108) rfl (by kernel_rfl) (by kernel_rfl) (by kernel_rfl) (fun _ _ _ h => h) (Or.inl ⟨by rfl, ?hy108⟩) hHeld ?rr108
        case hy108 => (intro w' hSw; have s0 := hSw; go_simp; try with_reducible rfl)
        try simp only [Act.put, List.setIfInBounds_toArray, List.set_cons_zero, List.set_cons_succ, List.getElem_toArray, List.getElem_cons_succ, List.getElem_cons_zero]
        refine wpAnyZ_take (i := 12) (v := ?vv109) rfl (by kernel_rfl) (by kernel_rfl) (by kernel_rfl) (fun _ _ _ h => h) (Or.inl ⟨by rfl, ?hy109⟩) hHeld ?rr109
        case hy109 => (intro w' hSw; have s0 := hSw; go_simp; try with_reducible rfl)
        try simp only [Act.put, List.setIfInBounds_toArray, List.set_cons_zero, List.set_cons_succ, List.getElem_toArray, List.getElem_cons_succ, List.getElem_cons_zero]
        refine wpAnyZ_take (i := 13) (v := ?vv110) rfl (by kernel_rfl) (by kernel_rfl) (by kernel_rfl) (fun _ _ _ h => h) (Or.inl ⟨by rfl, ?hy110⟩) hHeld ?rr110
        case hy110 => (intro w' hSw; have s0 := hSw; go_simp; try with_reducible rfl)
        try simp only [Act.put, List.setIfInBounds_toArray, List.set_cons_zero, List.set_cons_succ, List.getElem_toArray, List.getElem_cons_succ, List.getElem_cons_zero]
        refine wpAnyZ_take (i := 14) (v := ?vv111) rfl (by kernel_rfl) (by kernel_rfl) (by kernel_rfl) (fun _ _ _ h => h) (Or.inl ⟨by rfl, ?hy111⟩) hHeld ?rr111
        case hy111 => (intro w' hSw; have s0 := hSw; go_simp; try with_reducible rfl)
        try simp only [Act.put, List.setIfInBounds_toArray, List.set_cons_zero, List.set_cons_succ, List.getElem_toArray, List.getElem_cons_succ, List.getElem_cons_zero]
        refine wpAnyZ_take (i := 15) (v := ?vv112) rfl (by kernel_rfl) (by kernel_rfl) (by kernel_rfl) (fun _ _ _ h => h) (Or.inl ⟨by rfl, ?hy112⟩) hHeld ?rr112
        case hy112 => (intro w' hSw; have s0 := hSw; go_simp; try with_reducible rfl)
        try simp only [Act.put, List.setIfInBounds_toArray, List.set_cons_zero, List.set_cons_succ, List.getElem_toArray, List.getElem_cons_succ, List.getElem_cons_zero]
        refine wpAnyZ_take (i := 16) (v := ?vv113) rfl (by kernel_rfl) (by kernel_rfl) (by kernel_rfl) (fun _ _ _ h => h) (Or.inl ⟨by rfl, ?hy113⟩) hHeld ?rr113
        case hy113 => (intro w' hSw; have s0 := hSw; go_simp; try with_reducible rfl)
        try simp only [Act.put, List.setIfInBounds_toArray, List.set_cons_zero, List.set_cons_succ, List.getElem_toArray, List.getElem_cons_succ, List.getElem_cons_zero]
        refine wpAnyZ_take (i := 17) (v := ?vv114) rfl (by kernel_rfl) (by kernel_rfl) (by kernel_rfl) (fun _ _ _ h => h) (Or.inl ⟨by rfl, ?hy114⟩) hHeld ?rr114
        case hy114 => (intro w' hSw; have s0 := hSw; go_simp; try with_reducible rfl)
        try simp only [Act.put, List.setIfInBounds_toArray, List.set_cons_zero, List.set_cons_succ, List.getElem_toArray, List.getElem_cons_succ, List.getElem_cons_zero]
        refine wpAnyZ_take (i := 18) (v := ?vv115) rfl (by kernel_rfl) (by kernel_rfl) (by kernel_rfl) (fun _ _ _ h => h) (Or.inl ⟨by rfl, ?hy115⟩) hHeld ?rr115
        case hy115 => (intro w' hSw; have s0 := hSw; go_simp; try with_reducible rfl)
        try simp only [Act.put, List.setIfInBounds_toArray, List.set_cons_zero, List.set_cons_succ, List.getElem_toArray, List.getElem_cons_succ, List.getElem_cons_zero]
        refine wpAnyZ_take (i := 19) (v := ?vv116) rfl (by kernel_rfl) (by kernel_rfl) (by kernel_rfl) (fun _ _ _ h => h) (Or.inl ⟨by rfl, ?hy116⟩) hHeld ?rr116
        case hy116 => (intro w' hSw; have s0 := hSw; go_simp; try with_reducible rfl)
        try simp only [Act.put, List.setIfInBounds_toArray, List.set_cons_zero, List.set_cons_succ, List.getElem_toArray, List.getElem_cons_succ, List.getElem_cons_zero]
        refine wpAnyZ_take (i := 20) (v := ?vv117) rfl (by kernel_rfl) (by kernel_rfl) (by kernel_rfl) (fun _ _ _ h => h) (Or.inl ⟨by rfl, ?hy117⟩) hHeld ?rr117
        case hy117 => (intro w' hSw; have s0 := hSw; go_simp; try with_reducible rfl)
        try simp only [Act.put, List.setIfInBounds_toArray, List.set_cons_zero, List.set_cons_succ, List.getElem_toArray, List.getElem_cons_succ, List.getElem_cons_zero]
        refine wpAnyZ_takeC [23, 24] (i := 22) (v := ?vv118) rfl (by kernel_rfl) (by kernel_rfl) (by kernel_rfl) (fun _ _ _ h => h) (Or.inl ⟨by rfl, ?hy118⟩) hHeld ?rr118
        case hy118 => (intro w' hSw; have s0 := hSw; go_simp; try with_reducible rfl)
        try simp only [Act.put, List.setIfInBounds_toArray, List.set_cons_zero, List.set_cons_succ, List.getElem_toArray, List.getElem_cons_succ, List.getElem_cons_zero]
        refine wpAnyZ_takeC [24] (i := 23) (v := ?vv119) rfl (by kernel_rfl) (by kernel_rfl) (by kernel_rfl) (fun _ _ _ h => h) (Or.inl ⟨by rfl, ?hy119⟩) hHeld ?rr119
        case hy119 => (intro w' hSw; have s0 := hSw; go_simp; try with_reducible rfl)
        try simp only [Act.put, List.setIfInBounds_toArray, List.set_cons_zero, List.set_cons_succ, List.getElem_toArray, List.getElem_cons_succ, List.getElem_cons_zero]
        refine wpAnyZ_ready (rs := [2]) (by kernel_rfl) (by simp) ?_
        refine AllReadyZ.cons rfl (fun K hK => ?_) AllReadyZ.nil
        try rw [if_pos (by rfl)]
        go_simp
        refine hK.out _ _ (cell_old _ x4) (fun hHeld2 => ?_)
        clear hK K hHeld
        have hHeld := hHeld2
        clear hHeld2
        try simp only [Act.put, List.setIfInBounds_toArray, List.set_cons_zero, List.set_cons_succ, List.getElem_toArray, List.getElem_cons_succ, List.getElem_cons_zero]
        have HWA : Hid (Below w2.heap.size w2 ((w2.alloc (.cells #[] 29)).drew)) := Lib.hid (below_alloc _ _).drew
        refine wpAnyZ_ready (rs := [11]) (by kernel_rfl) (by simp) ?_
        refine AllReadyZ.cons rfl (fun K hK => ?_) AllReadyZ.nil
        try rw [if_pos (by rfl)]
        refine oper_append_k _ (.tmp 126) (.tmp 134) 39 rfl 29 i0 (.agg #[.int .i64 0, .int .i64 0, .int .i64 0, .int .i64 0, .int .i64 0, .slice none 0 0]) 6 64 Try.underlying39 hinfo hz0 hzs hz2 rfl (by decide) w2.heap.size (.slice (some ⟨w2.heap.size, 0, none⟩) 0 0) 0 [] rfl (own_moved (p := fun _ => False) (World.ownsRow_made w2 #[] 0 (Nat.le_refl _) (by decide) rfl) (Moved.drew (Moved.refl (fun _ => False) _)) (fun _ _ h => h)) (some ⟨gq, 0, none⟩) a (a + 1) (cellsE (es.take a)) rfl (by rw [cellsE_len, List.length_take, HEs.out, Nat.min_eq_left (Nat.le_of_lt HLt.out)]) (fun _ => ⟨_, rfl, fun j u hu => by
          rw [← cellsE_take es a (by rw [HEs.out]; exact Nat.le_of_lt HLt.out)] at hu
          have hj := (List.getElem?_eq_some_iff.1 hu).1
          rw [List.length_take] at hj
          rw [List.getElem?_take_of_lt (by omega)] at hu
          refine cell_later HWA.out ?_
          rw [add_off, Nat.zero_add]; exact HQ2.out j u hu⟩) (cellsE_one _) (by have := HLt.out; unfold maxLen; omega) (by have := HLt.out; omega) HWA.out.size ?_
        intro A8 c8 w8 hown8 hgrow8 hwh8
        simp only [Nat.zero_add, List.nil_append] at hown8 hgrow8 hwh8 ⊢
        have HB8 : Hid (Below w2.heap.size w2 w8) := Lib.hid (HWA.out.grown hgrow8 HWA.out.size (fun k e2 => by simp [Value.ownBlock] at e2; omega))
        have HO8 := Lib.hid hown8
        have x4b := cell_later HB8.out x4
        clear hown8 hgrow8 hwh8
        refine hK.out _ _ x4b (fun hHeld2 => ?_)
        clear hK K hHeld
        have hHeld := hHeld2
        clear hHeld2
        try simp only [Act.put, List.setIfInBounds_toArray, List.set_cons_zero, List.set_cons_succ, List.getElem_toArray, List.getElem_cons_succ, List.getElem_cons_zero]
        refine wpAnyZ_ready (rs := [21]) (by kernel_rfl) (by simp) ?_
        refine AllReadyZ.cons rfl (fun K hK => ?_) AllReadyZ.nil
        try rw [if_pos (by rfl)]
        refine oper_append_k _ (.tmp 135) (.tmp 144) 39 rfl 29 i0 (.agg #[.int .i64 0, .int .i64 0, .int .i64 0, .int .i64 0, .int .i64 0, .slice none 0 0]) 6 64 Try.underlying39 hinfo hz0 hzs hz2 rfl (by decide) w2.heap.size _ a (cellsE (es.take a)) rfl HO8.out _ _ _ (cellsE (es.drop (a + 1))) rfl (by rw [cellsE_len, List.length_drop, HEs.out, HLc.out, Nat.sub_self]) (fun h0 => absurd h0 (by have := HLc.out; omega)) (cellsE_one _) (by have := HLt.out; unfold maxLen; omega) (by have := HLt.out; omega) HB8.out.size ?_
        intro A9 c9 w9 hown9 hgrow9 hwh9
        simp only [Nat.add_zero] at hown9 hgrow9 hwh9 ⊢
        rw [← cellsE_append] at hown9
        have HB9 : Hid (Below w2.heap.size w2 w9) := Lib.hid (HB8.out.grown hgrow9 HB8.out.size (fun k e2 => (HO8.out.lt k e2).1))
        have HO9 := Lib.hid hown9
        have x4c := cell_later HB9.out x4
        have f4c : w9.frozen? ⟨pp, 4 + i, none⟩ = false := (H2.out.later HB9.out).free (4 + i)
        clear hown9 hgrow9 hwh9
        refine hK.out _ _ x4c (fun hHeld2 => ?_)
        clear hK K hHeld
        have hHeld := hHeld2
        clear hHeld2
        try simp only [Act.put, List.setIfInBounds_toArray, List.set_cons_zero, List.set_cons_succ, List.getElem_toArray, List.getElem_cons_succ, List.getElem_cons_zero]
        refine wpAnyZ_take (i := 24) (v := ?vv120) rfl (by kernel_rfl) (by kernel_rfl) (by kernel_rfl) (fun _ _ _ h => h) (Or.inl ⟨by rfl, ?hy120⟩) hHeld ?rr120
        case hy120 => (intro w' hSw; have s0 := hSw; go_simp; try with_reducible rfl)
        try simp only [Act.put, List.setIfInBounds_toArray, List.set_cons_zero, List.set_cons_succ, List.getElem_toArray, List.getElem_cons_succ, List.getElem_cons_zero]
        refine wpAnyZ_ready (rs := [25]) (by kernel_rfl) (by simp) ?_
        refine AllReadyZ.last rfl (fun K hK => ?_)
        try rw [if_pos (by rfl)]
        go_simp
        refine hK.out _ _ ?_
        clear hK K hHeld
        try simp only [Act.put, List.setIfInBounds_toArray, List.set_cons_zero, List.set_cons_succ, List.getElem_toArray, List.getElem_cons_succ, List.getElem_cons_zero]
        refine wpAnyZ_done (by kernel_rfl) ?_ _
        obtain ⟨q1, q2, q3⟩ := H2.out.newQ hi (vs := es.take a ++ es.drop (a + 1)) HB9.out (by rw [List.length_append, List.length_take, List.length_drop, HEs.out, Nat.min_eq_left (Nat.le_of_lt HLt.out)]; have := HLc.out; omega) HO9.out (fun y hy => by
          rcases List.mem_append.1 hy with hy | hy
          · exact (HBy2.out y (List.mem_of_mem_take hy)).later HB9.out
          · exact (HBy2.out y (List.mem_of_mem_drop hy)).later HB9.out)
        rw [List.map_append, List.map_take, List.map_drop, HEq.out] at q1
        obtain ⟨w10, hw10⟩ : ∃ x, x = w9.setCell ⟨pp, 4 + i, none⟩ (.slice A9 (a) c9) := ⟨_, rfl⟩
        rw [← hw10] at q1 q2 q3 ⊢
        have H10 := Lib.hid q1
        have HM10 := Lib.hid (And.intro q2 q3)
        have hE10 : w10.heap[wc.heap.size]? = some (.cells #[.int .i64 kd, .int .i64 mi, .int .i64 yo, .int .i64 sq, .int .i64 ak, .slice xA nb xc] 29 (0, 0)) := by
          have h9 := (HB9.out.block _ (heap_lt HE2.out)).trans HE2.out
          have hm : Moved (fun k => k = pp) w9 w10 := by rw [hw10]; exact (Moved.refl (fun k => k = pp) w9).setCell (.inr rfl) _
          exact hm.heap h9 (by have := HXc.out.lt; omega)
        have HE10 := Lib.hid hE10
        have hO10 : OpBox w10 w.heap.size 4 b now A0 n0 c0 v3 v4 v5 v6 v7 v8 := by
          have h9 := (HB9.out.block _ (heap_lt HO2.out)).trans HO2.out
          have hm : Moved (fun k => k = pp) w9 w10 := by rw [hw10]; exact (Moved.refl (fun k => k = pp) w9).setCell (.inr rfl) _
          exact hm.heap h9 (by have := HX.out.lt; omega)
        have o0b := hO10.cells.1
        clear q1 q2 q3 hw10 hO10 x4c f4c x4b x4 o0
        have e0 := cell_of_row _ _ 0 _ _ _ HE10.out
        have e1 := cell_of_row _ _ 1 _ _ _ HE10.out
        have e2 := cell_of_row _ _ 2 _ _ _ HE10.out
        have e3 := cell_of_row _ _ 3 _ _ _ HE10.out
        have e4 := cell_of_row _ _ 4 _ _ _ HE10.out
        have e5 := cell_of_row _ _ 5 _ _ _ HE10.out
        go_wp2_with fail
        have HIn : Hid (Calls Try.prog 17 #[.pointer (some ⟨pp, 0, none⟩), .int .i64 (i : Int), .agg #[.int .i64 kd, .int .i64 mi, .int .i64 yo, .int .i64 sq, .int .i64 ak, .slice xA nb xc]] w10 (InPost B pp i (upd X i { X i with q := (X i).q.take a ++ (X i).q.drop (a + 1) }) ⟨kd, mi, yo, sq, ak, bd⟩ w10)) := Lib.hid (by
          have hpu : ((upd X i { X i with q := (X i).q.take a ++ (X i).q.drop (a + 1) }) i).ss.l.puts < 1000000 := by rw [upd_same]; have := HS0.out.2.2.1; have := HS0.out.2.2.2; show (X i).ss.l.puts < _; omega
          have hce : ((upd X i { X i with q := (X i).q.take a ++ (X i).q.drop (a + 1) }) i).came.length ≤ 2147483648 := by rw [upd_same]; exact HCl.out
          have := in_any H10.out hi ⟨kd, mi, yo, sq, ak, bd⟩ xA xc (.inl ((HBx.out.later HB2.out).kept HM10.out.2)) HFe.out hpu hce (Nat.le_trans (onS_len _ _) (by rw [upd_same]; have := HS0.out.2.2.1; have := HS0.out.2.2.2; show (X i).ss.l.puts + 2 ≤ _; omega))
          rw [HNb.out]; exact this)
        go_wp2_with (go_at_call 17; refine Calls.mono HIn.out ?_; rintro e9 w19 ⟨rfl, hP, hb5, hk5⟩; have HP := Lib.hid hP; have HB5 := Lib.hid (And.intro hb5 hk5); clear hP hb5 hk5)
        go_wp2
        go_ret
        refine ⟨rfl, ?_, (((HBw.out.mono HX.out.lowle).trans (HB2.out.mono HXc.out.lowle)).trans HM10.out.1).trans HB5.out.1, (((Below.ku HBw.out).trans (Below.ku HB2.out)).trans HM10.out.2).trans HB5.out.2⟩
        have hP := HP.out
        rw [upd_upd, upd_same] at hP
        rw [HK.out]
        exact hP
      · have hcb : a + 1 < cq := by have := HCq.out; have := HLt.out; omega
        have hle0 : (a : Int) ≤ (cq : Int) := by omega
        have hle1 : (a : Int) + 1 ≤ (nl : Int) := by omega
        have hle2 : (nl : Int) ≤ (cq : Int) := by have := HCq.out; omega
        have hle3 : nl ≤ cq := HCq.out
        have hle4 : a + 1 ≤ nl := by omega
        have hle6 : (0 : Int) ≤ (a : Int) + 1 := by omega
        have hle5 : a ≤ cq := by omega
        refine wp_region_heldz_drew (S := (fun V => V.cell? ⟨pp, 4 + i, none⟩ = some (.slice (some ⟨gq, 0, none⟩) nl cq))) 25 (by kernel_rfl) x4 (fun hHeld => ?_)
        refine wpAnyZ_take (i := 0) (v := ?vv121) rfl (by kernel_rfl) (by kernel_rfl) (by kernel_rfl) (fun _ _ _ h => h) (Or.inl ⟨by rfl, ?hy121⟩) hHeld ?rr121
        case hy121 => (intro w' hSw; have s0 := hSw; go_simp; try with_reducible rfl)
        try simp only [Act.put, List.setIfInBounds_toArray, List.set_cons_zero, List.set_cons_succ, List.getElem_toArray, List.getElem_cons_succ, List.getElem_cons_zero]
        refine wpAnyZ_take (i := 1) (v := ?vv122) rfl (by kernel_rfl) (by kernel_rfl) (by kernel_rfl) (fun _ _ _ h => h) (Or.inl ⟨by rfl, ?hy122⟩) hHeld ?rr122
        case hy122 => (intro w' hSw; have s0 := hSw; go_simp; try with_reducible rfl)
        try simp only [Act.put, List.setIfInBounds_toArray, List.set_cons_zero, List.set_cons_succ, List.getElem_toArray, List.getElem_cons_succ, List.getElem_cons_zero]
        refine wpAnyZ_take (i := 3) (v := ?vv123) rfl (by kernel_rfl) (by kernel_rfl) (by kernel_rfl) (fun _ _ _ h => h) (Or.inl ⟨by rfl, ?hy123⟩) hHeld ?rr123
        case hy123 => (intro w' hSw; have s0 := hSw; go_simp; try with_reducible rfl)
        try simp only [Act.put, List.setIfInBounds_toArray, List.set_cons_zero, List.set_cons_succ, List.getElem_toArray, List.getElem_cons_succ, List.getElem_cons_zero]
        refine wpAnyZ_take (i := 4) (v := ?vv124) rfl (by kernel_rfl) (by kernel_rfl) (by kernel_rfl) (fun _ _ _ h => h) (Or.inl ⟨by rfl, ?hy124⟩) hHeld ?rr124
        case hy124 => (intro w' hSw; have s0 := hSw; go_simp; try with_reducible rfl)
        try simp only [Act.put, List.setIfInBounds_toArray, List.set_cons_zero, List.set_cons_succ, List.getElem_toArray, List.getElem_cons_succ, List.getElem_cons_zero]
        refine wpAnyZ_take (i := 5) (v := ?vv125) rfl (by kernel_rfl) (by kernel_rfl) (by kernel_rfl) (fun _ _ _ h => h) (Or.inl ⟨by rfl, ?hy125⟩) hHeld ?rr125
        case hy125 => (intro w' hSw; have s0 := hSw; go_simp; try with_reducible rfl)
        try simp only [Act.put, List.setIfInBounds_toArray, List.set_cons_zero, List.set_cons_succ, List.getElem_toArray, List.getElem_cons_succ, List.getElem_cons_zero]
        refine wpAnyZ_take (i := 6) (v := ?vv126) rfl (by kernel_rfl) (by kernel_rfl) (by kernel_rfl) (fun _ _ _ h => h) (Or.inl ⟨by rfl, ?hy126⟩) hHeld ?rr126
        case hy126 => (intro w' hSw; have s0 := hSw; go_simp; try with_reducible rfl)
        try simp only [Act.put, List.setIfInBounds_toArray, List.set_cons_zero, List.set_cons_succ, List.getElem_toArray, List.getElem_cons_succ, List.getElem_cons_zero]
        refine wpAnyZ_take (i := 7) (v := ?vv127) rfl (by kernel_rfl) (by kernel_rfl) (by kernel_rfl) (fun _ _ _ h => h) (Or.inl ⟨by rfl, ?hy127⟩) hHeld ?rr127
        case hy127 => (intro w' hSw; have s0 := hSw; go_simp; try with_reducible rfl)
        try simp only [Act.put, List.setIfInBounds_toArray, List.set_cons_zero, List.set_cons_succ, List.getElem_toArray, List.getElem_cons_succ, List.getElem_cons_zero]
        refine wpAnyZ_take (i := 8) (v := ?vv128) rfl (by kernel_rfl) (by kernel_rfl) (by kernel_rfl) (fun _ _ _ h => h) (Or.inl ⟨by rfl, ?hy128⟩) hHeld ?rr128
        case hy128 => (intro w' hSw; have s0 := hSw; go_simp; try with_reducible rfl)
        try simp only [Act.put, List.setIfInBounds_toArray, List.set_cons_zero, List.set_cons_succ, List.getElem_toArray, List.getElem_cons_succ, List.getElem_cons_zero]
        refine wpAnyZ_take (i := 9) (v := ?vv129) rfl (by kernel_rfl) (by kernel_rfl) (by kernel_rfl) (fun _ _ _ h => h) (Or.inl ⟨by rfl, ?hy129⟩) hHeld ?rr129
        case hy129 => (intro w' hSw; have s0 := hSw; go_simp; try with_reducible rfl)
        try simp only [Act.put, List.setIfInBounds_toArray, List.set_cons_zero, List.set_cons_succ, List.getElem_toArray, List.getElem_cons_succ, List.getElem_cons_zero]
        refine wpAnyZ_take (i := 10) (v := ?vv130) rfl (by kernel_rfl) (by kernel_rfl) (by kernel_rfl) (fun _ _ _ h => h) (Or.inl ⟨by rfl, ?hy130⟩) hHeld ?rr130
        case hy130 => (intro w' hSw; have s0 := hSw; go_simp; try with_reducible rfl)
        try simp only [Act.put, List.setIfInBounds_toArray, List.set_cons_zero, List.set_cons_succ, List.getElem_toArray, List.getElem_cons_succ, List.getElem_cons_zero]
        refine wpAnyZ_take (i := 12) (v := ?vv131) rfl (by kernel_rfl) (by kernel_rfl) (by kernel_rfl) (fun _ _ _ h => h) (Or.inl ⟨by rfl, ?hy131⟩) hHeld ?rr131
        case hy131 => (intro w' hSw; have s0 := hSw; go_simp; try with_reducible rfl)
        try simp only [Act.put, List.setIfInBounds_toArray, List.set_cons_zero, List.set_cons_succ, List.getElem_toArray, List.getElem_cons_succ, List.getElem_cons_zero]
        refine wpAnyZ_take (i := 13) (v := ?vv132) rfl (by kernel_rfl) (by kernel_rfl) (by kernel_rfl) (fun _ _ _ h => h) (Or.inl ⟨by rfl, ?hy132⟩) hHeld ?rr132
        case hy132 => (intro w' hSw; have s0 := hSw; go_simp; try with_reducible rfl)
        try simp only [Act.put, List.setIfInBounds_toArray, List.set_cons_zero, List.set_cons_succ, List.getElem_toArray, List.getElem_cons_succ, List.getElem_cons_zero]
        refine wpAnyZ_take (i := 14) (v := ?vv133) rfl (by kernel_rfl) (by kernel_rfl) (by kernel_rfl) (fun _ _ _ h => h) (Or.inl ⟨by rfl, ?hy133⟩) hHeld ?rr133
        case hy133 => (intro w' hSw; have s0 := hSw; go_simp; try with_reducible rfl)
        try simp only [Act.put, List.setIfInBounds_toArray, List.set_cons_zero, List.set_cons_succ, List.getElem_toArray, List.getElem_cons_succ, List.getElem_cons_zero]
        refine wpAnyZ_take (i := 15) (v := ?vv134) rfl (by kernel_rfl) (by kernel_rfl) (by kernel_rfl) (fun _ _ _ h => h) (Or.inl ⟨by rfl, ?hy134⟩) hHeld ?rr134
        case hy134 => (intro w' hSw; have s0 := hSw; go_simp; try with_reducible rfl)
        try simp only [Act.put, List.setIfInBounds_toArray, List.set_cons_zero, List.set_cons_succ, List.getElem_toArray, List.getElem_cons_succ, List.getElem_cons_zero]
        refine wpAnyZ_take (i := 16) (v := ?vv135) rfl (by kernel_rfl) (by kernel_rfl) (by kernel_rfl) (fun _ _ _ h => h) (Or.inl ⟨by rfl, ?hy135⟩) hHeld ?rr135
        case hy135 => (intro w' hSw; have s0 := hSw; go_simp; try with_reducible rfl)
        try simp only [Act.put, List.setIfInBounds_toArray, List.set_cons_zero, List.set_cons_succ, List.getElem_toArray, List.getElem_cons_succ, List.getElem_cons_zero]
        refine wpAnyZ_take (i := 17) (v := ?vv136) rfl (by kernel_rfl) (by kernel_rfl) (by kernel_rfl) (fun _ _ _ h => h) (Or.inl ⟨by rfl, ?hy136⟩) hHeld ?rr136
        case hy136 => (intro w' hSw; have s0 := hSw; go_simp; try with_reducible rfl)
        try simp only [Act.put, List.setIfInBounds_toArray, List.set_cons_zero, List.set_cons_succ, List.getElem_toArray, List.getElem_cons_succ, List.getElem_cons_zero]
        refine wpAnyZ_take (i := 18) (v := ?vv137) rfl (by kernel_rfl) (by kernel_rfl) (by kernel_rfl) (fun _ _ _ h => h) (Or.inl ⟨by rfl, ?hy137⟩) hHeld ?rr137
        case hy137 => (intro w' hSw; have s0 := hSw; go_simp; try with_reducible rfl)
        try simp only [Act.put, List.setIfInBounds_toArray, List.set_cons_zero, List.set_cons_succ, List.getElem_toArray, List.getElem_cons_succ, List.getElem_cons_zero]
        refine wpAnyZ_take (i := 19) (v := ?vv138) rfl (by kernel_rfl) (by kernel_rfl) (by kernel_rfl) (fun _ _ _ h => h) (Or.inl ⟨by rfl, ?hy138⟩) hHeld ?rr138
        case hy138 => (intro w' hSw; have s0 := hSw; go_simp; try with_reducible rfl)
        try simp only [Act.put, List.setIfInBounds_toArray, List.set_cons_zero, List.set_cons_succ, List.getElem_toArray, List.getElem_cons_succ, List.getElem_cons_zero]
        refine wpAnyZ_take (i := 20) (v := ?vv139) rfl (by kernel_rfl) (by kernel_rfl) (by kernel_rfl) (fun _ _ _ h => h) (Or.inl ⟨by rfl, ?hy139⟩) hHeld ?rr139
        case hy139 => (intro w' hSw; have s0 := hSw; go_simp; try with_reducible rfl)
        try simp only [Act.put, List.setIfInBounds_toArray, List.set_cons_zero, List.set_cons_succ, List.getElem_toArray, List.getElem_cons_succ, List.getElem_cons_zero]
        refine wpAnyZ_takeC [23, 24] (i := 22) (v := ?vv140) rfl (by kernel_rfl) (by kernel_rfl) (by kernel_rfl) (fun _ _ _ h => h) (Or.inl ⟨by rfl, ?hy140⟩) hHeld ?rr140
        case hy140 => (intro w' hSw; have s0 := hSw; go_simp; try with_reducible rfl)
        try simp only [Act.put, List.setIfInBounds_toArray, List.set_cons_zero, List.set_cons_succ, List.getElem_toArray, List.getElem_cons_succ, List.getElem_cons_zero]
        refine wpAnyZ_takeC [24] (i := 23) (v := ?vv141) rfl (by kernel_rfl) (by kernel_rfl) (by kernel_rfl) (fun _ _ _ h => h) (Or.inl ⟨by rfl, ?hy141⟩) hHeld ?rr141
        case hy141 => (intro w' hSw; have s0 := hSw; go_simp; try with_reducible rfl)
        try simp only [Act.put, List.setIfInBounds_toArray, List.set_cons_zero, List.set_cons_succ, List.getElem_toArray, List.getElem_cons_succ, List.getElem_cons_zero]
        refine wpAnyZ_ready (rs := [2]) (by kernel_rfl) (by simp) ?_
        refine AllReadyZ.cons rfl (fun K hK => ?_) AllReadyZ.nil
        try rw [if_pos (by rfl)]
        go_simp
        refine hK.out _ _ (cell_old _ x4) (fun hHeld2 => ?_)
        clear hK K hHeld
        have hHeld := hHeld2
        clear hHeld2
        try simp only [Act.put, List.setIfInBounds_toArray, List.set_cons_zero, List.set_cons_succ, List.getElem_toArray, List.getElem_cons_succ, List.getElem_cons_zero]
        have HWA : Hid (Below w2.heap.size w2 ((w2.alloc (.cells #[] 29)).drew)) := Lib.hid (below_alloc _ _).drew
        refine wpAnyZ_ready (rs := [11]) (by kernel_rfl) (by simp) ?_
        refine AllReadyZ.cons rfl (fun K hK => ?_) AllReadyZ.nil
        try rw [if_pos (by rfl)]
        refine oper_append_k _ (.tmp 126) (.tmp 134) 39 rfl 29 i0 (.agg #[.int .i64 0, .int .i64 0, .int .i64 0, .int .i64 0, .int .i64 0, .slice none 0 0]) 6 64 Try.underlying39 hinfo hz0 hzs hz2 rfl (by decide) w2.heap.size (.slice (some ⟨w2.heap.size, 0, none⟩) 0 0) 0 [] rfl (own_moved (p := fun _ => False) (World.ownsRow_made w2 #[] 0 (Nat.le_refl _) (by decide) rfl) (Moved.drew (Moved.refl (fun _ => False) _)) (fun _ _ h => h)) (some ⟨gq, 0, none⟩) a cq (cellsE (es.take a)) rfl (by rw [cellsE_len, List.length_take, HEs.out, Nat.min_eq_left (Nat.le_of_lt HLt.out)]) (fun _ => ⟨_, rfl, fun j u hu => by
          rw [← cellsE_take es a (by rw [HEs.out]; exact Nat.le_of_lt HLt.out)] at hu
          have hj := (List.getElem?_eq_some_iff.1 hu).1
          rw [List.length_take] at hj
          rw [List.getElem?_take_of_lt (by omega)] at hu
          refine cell_later HWA.out ?_
          rw [add_off, Nat.zero_add]; exact HQ2.out j u hu⟩) (cellsE_one _) (by have := HLt.out; unfold maxLen; omega) (by have := HLt.out; omega) HWA.out.size ?_
        intro A8 c8 w8 hown8 hgrow8 hwh8
        simp only [Nat.zero_add, List.nil_append] at hown8 hgrow8 hwh8 ⊢
        have HB8 : Hid (Below w2.heap.size w2 w8) := Lib.hid (HWA.out.grown hgrow8 HWA.out.size (fun k e2 => by simp [Value.ownBlock] at e2; omega))
        have HO8 := Lib.hid hown8
        have x4b := cell_later HB8.out x4
        clear hown8 hgrow8 hwh8
        refine hK.out _ _ x4b (fun hHeld2 => ?_)
        clear hK K hHeld
        have hHeld := hHeld2
        clear hHeld2
        try simp only [Act.put, List.setIfInBounds_toArray, List.set_cons_zero, List.set_cons_succ, List.getElem_toArray, List.getElem_cons_succ, List.getElem_cons_zero]
        refine wpAnyZ_ready (rs := [21]) (by kernel_rfl) (by simp) ?_
        refine AllReadyZ.cons rfl (fun K hK => ?_) AllReadyZ.nil
        try rw [if_pos (by rfl)]
        refine oper_append_k _ (.tmp 135) (.tmp 144) 39 rfl 29 i0 (.agg #[.int .i64 0, .int .i64 0, .int .i64 0, .int .i64 0, .int .i64 0, .slice none 0 0]) 6 64 Try.underlying39 hinfo hz0 hzs hz2 rfl (by decide) w2.heap.size _ a (cellsE (es.take a)) rfl HO8.out (some ⟨gq, (a + 1) * 6, none⟩) (nl - (a + 1)) (cq - (a + 1)) (cellsE (es.drop (a + 1))) rfl (by rw [cellsE_len, List.length_drop, HEs.out]) (fun _ => ⟨_, rfl, fun j u hu => by
          rw [← cellsE_drop es (a + 1) (by rw [HEs.out]; exact HLt.out), List.getElem?_drop] at hu
          refine cell_later HB8.out ?_
          have := HQ2.out _ u hu
          rw [add_off]; exact this⟩) (cellsE_one _) (by have := HLt.out; unfold maxLen; omega) (by have := HLt.out; omega) HB8.out.size ?_
        intro A9 c9 w9 hown9 hgrow9 hwh9
        rw [← cellsE_append] at hown9
        have HB9 : Hid (Below w2.heap.size w2 w9) := Lib.hid (HB8.out.grown hgrow9 HB8.out.size (fun k e2 => (HO8.out.lt k e2).1))
        have HO9 := Lib.hid hown9
        have x4c := cell_later HB9.out x4
        have f4c : w9.frozen? ⟨pp, 4 + i, none⟩ = false := (H2.out.later HB9.out).free (4 + i)
        clear hown9 hgrow9 hwh9
        refine hK.out _ _ x4c (fun hHeld2 => ?_)
        clear hK K hHeld
        have hHeld := hHeld2
        clear hHeld2
        try simp only [Act.put, List.setIfInBounds_toArray, List.set_cons_zero, List.set_cons_succ, List.getElem_toArray, List.getElem_cons_succ, List.getElem_cons_zero]
        refine wpAnyZ_take (i := 24) (v := ?vv142) rfl (by kernel_rfl) (by kernel_rfl) (by kernel_rfl) (fun _ _ _ h => h) (Or.inl ⟨by rfl, ?hy142⟩) hHeld ?rr142
        case hy142 => (intro w' hSw; have s0 := hSw; go_simp; try with_reducible rfl)
        try simp only [Act.put, List.setIfInBounds_toArray, List.set_cons_zero, List.set_cons_succ, List.getElem_toArray, List.getElem_cons_succ, List.getElem_cons_zero]
        refine wpAnyZ_ready (rs := [25]) (by kernel_rfl) (by simp) ?_
        refine AllReadyZ.last rfl (fun K hK => ?_)
        try rw [if_pos (by rfl)]
        go_simp
        refine hK.out _ _ ?_
        clear hK K hHeld
        try simp only [Act.put, List.setIfInBounds_toArray, List.set_cons_zero, List.set_cons_succ, List.getElem_toArray, List.getElem_cons_succ, List.getElem_cons_zero]
        refine wpAnyZ_done (by kernel_rfl) ?_ _
        obtain ⟨q1, q2, q3⟩ := H2.out.newQ hi (vs := es.take a ++ es.drop (a + 1)) HB9.out (by rw [List.length_append, List.length_take, List.length_drop, HEs.out, Nat.min_eq_left (Nat.le_of_lt HLt.out)]) HO9.out (fun y hy => by
          rcases List.mem_append.1 hy with hy | hy
          · exact (HBy2.out y (List.mem_of_mem_take hy)).later HB9.out
          · exact (HBy2.out y (List.mem_of_mem_drop hy)).later HB9.out)
        rw [List.map_append, List.map_take, List.map_drop, HEq.out] at q1
        obtain ⟨w10, hw10⟩ : ∃ x, x = w9.setCell ⟨pp, 4 + i, none⟩ (.slice A9 (a + (nl - (a + 1))) c9) := ⟨_, rfl⟩
        rw [← hw10] at q1 q2 q3 ⊢
        have H10 := Lib.hid q1
        have HM10 := Lib.hid (And.intro q2 q3)
        have hE10 : w10.heap[wc.heap.size]? = some (.cells #[.int .i64 kd, .int .i64 mi, .int .i64 yo, .int .i64 sq, .int .i64 ak, .slice xA nb xc] 29 (0, 0)) := by
          have h9 := (HB9.out.block _ (heap_lt HE2.out)).trans HE2.out
          have hm : Moved (fun k => k = pp) w9 w10 := by rw [hw10]; exact (Moved.refl (fun k => k = pp) w9).setCell (.inr rfl) _
          exact hm.heap h9 (by have := HXc.out.lt; omega)
        have HE10 := Lib.hid hE10
        have hO10 : OpBox w10 w.heap.size 4 b now A0 n0 c0 v3 v4 v5 v6 v7 v8 := by
          have h9 := (HB9.out.block _ (heap_lt HO2.out)).trans HO2.out
          have hm : Moved (fun k => k = pp) w9 w10 := by rw [hw10]; exact (Moved.refl (fun k => k = pp) w9).setCell (.inr rfl) _
          exact hm.heap h9 (by have := HX.out.lt; omega)
        have o0b := hO10.cells.1
        clear q1 q2 q3 hw10 hO10 x4c f4c x4b x4 o0
        have e0 := cell_of_row _ _ 0 _ _ _ HE10.out
        have e1 := cell_of_row _ _ 1 _ _ _ HE10.out
        have e2 := cell_of_row _ _ 2 _ _ _ HE10.out
        have e3 := cell_of_row _ _ 3 _ _ _ HE10.out
        have e4 := cell_of_row _ _ 4 _ _ _ HE10.out
        have e5 := cell_of_row _ _ 5 _ _ _ HE10.out
        go_wp2_with fail
        have HIn : Hid (Calls Try.prog 17 #[.pointer (some ⟨pp, 0, none⟩), .int .i64 (i : Int), .agg #[.int .i64 kd, .int .i64 mi, .int .i64 yo, .int .i64 sq, .int .i64 ak, .slice xA nb xc]] w10 (InPost B pp i (upd X i { X i with q := (X i).q.take a ++ (X i).q.drop (a + 1) }) ⟨kd, mi, yo, sq, ak, bd⟩ w10)) := Lib.hid (by
          have hpu : ((upd X i { X i with q := (X i).q.take a ++ (X i).q.drop (a + 1) }) i).ss.l.puts < 1000000 := by rw [upd_same]; have := HS0.out.2.2.1; have := HS0.out.2.2.2; show (X i).ss.l.puts < _; omega
          have hce : ((upd X i { X i with q := (X i).q.take a ++ (X i).q.drop (a + 1) }) i).came.length ≤ 2147483648 := by rw [upd_same]; exact HCl.out
          have := in_any H10.out hi ⟨kd, mi, yo, sq, ak, bd⟩ xA xc (.inl ((HBx.out.later HB2.out).kept HM10.out.2)) HFe.out hpu hce (Nat.le_trans (onS_len _ _) (by rw [upd_same]; have := HS0.out.2.2.1; have := HS0.out.2.2.2; show (X i).ss.l.puts + 2 ≤ _; omega))
          rw [HNb.out]; exact this)
        go_wp2_with (go_at_call 17; refine Calls.mono HIn.out ?_; rintro e9 w19 ⟨rfl, hP, hb5, hk5⟩; have HP := Lib.hid hP; have HB5 := Lib.hid (And.intro hb5 hk5); clear hP hb5 hk5)
        go_wp2
        go_ret
        refine ⟨rfl, ?_, (((HBw.out.mono HX.out.lowle).trans (HB2.out.mono HXc.out.lowle)).trans HM10.out.1).trans HB5.out.1, (((Below.ku HBw.out).trans (Below.ku HB2.out)).trans HM10.out.2).trans HB5.out.2⟩
        have hP := HP.out
        rw [upd_upd, upd_same] at hP
        rw [HK.out]
        exact hP
end
end Go.Proofs.Ytihkjdoajfjnpaa
