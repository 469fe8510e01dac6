/- The laws' Do: act 5. -/
import Derived.Test.YtihkjdoajfjnpaaSesS
set_option linter.unusedSimpArgs false
set_option linter.unusedVariables false
namespace Go.Proofs.Ytihkjdoajfjnpaa
open Go.ChangeShapes Go.WideShapes Go.ChangeAt Go.RowKit Go.Base Go.Ses

section
variable {B pp i : Nat} {w w1 w' : World} {X : Nat → Side} {P : Nat → Nat} {F : Nat → Nat → Prop} {G : Nat → Prop} {Q S C : Nat → Value} {q : Nat → Prop}
set_option maxHeartbeats 8000000 in
set_option maxRecDepth 20000 in
theorem do_five (h : PairX B w pp X P F G Q S C) (hi : i < 2) (b now : Int) (hby : bits BinOp.and IntKind.i64 b 1 = (i : Int)) (hnow : -9223372036854775808 ≤ now ∧ now ≤ 9223372036854775807) (A0 : Option Addr) (body : Bytes) (c0 : Nat) (hy : Bd B w A0 body) (hbl : body.length ≤ 140737488355328) (v3 v4 v5 v6 v7 v8 : Value)
    {NN : Nat} (hs0 : Small NN (X i)) (hs1 : Small NN (X (1 - i))) (hfq : ∀ e ∈ (X i).q, fitsB e = true) (hcl : (X i).came.length ≤ 2147483648) :
    Calls Try.prog 8 #[.pointer (some ⟨pp, 0, none⟩), .agg #[.int .i64 5, .int .i64 b, .slice A0 body.length c0, v3, v4, v5, v6, v7, v8, .int .i64 now]] w (DoPost B pp i X 5 now body w) := by
  obtain ⟨n0, hn0⟩ : ∃ n, n = body.length := ⟨_, rfl⟩
  obtain ⟨W1, hW1⟩ : ∃ W1, W1 = w.alloc (.cells #[.int .i64 5, .int .i64 b, .slice A0 n0 c0, v3, v4, v5, v6, v7, v8, .int .i64 now] 31) := ⟨_, rfl⟩
  have hB1 : Below w.heap.size w W1 := by rw [hW1]; exact below_alloc _ _
  have kO : OpBox W1 w.heap.size 5 b now A0 n0 c0 v3 v4 v5 v6 v7 v8 := by rw [hW1]; exact heap_new w _
  have HX := Lib.hid h
  have HB1 := Lib.hid hB1
  have HO1 := Lib.hid kO
  have HX1 := Lib.hid (h.later hB1)
  have HW1 := Lib.hid hW1
  have HY := Lib.hid hy
  have HN0 := Lib.hid hn0
  have HBl : Hid (n0 ≤ 140737488355328) := Lib.hid (by rw [hn0]; exact hbl)
  have HS0 := Lib.hid hs0
  have HS1 := Lib.hid hs1
  have HNow := Lib.hid hnow
  obtain ⟨Aq, cq, es, hq, hqe, hqo, hqb⟩ := h.q i hi
  obtain ⟨nl, hnq⟩ : ∃ n, n = (X i).q.length := ⟨_, rfl⟩
  rw [← hnq] at hq hqo
  have HQ := Lib.hid (And.intro hq (And.intro hqe (And.intro hqo (And.intro hqb hnq))))
  obtain ⟨o0, o1, o2, o9⟩ := kO.cells
  have q4 : W1.cell? ⟨pp, 4 + i, none⟩ = some (.slice Aq nl cq) := by rw [← hq]; exact ((h.later hB1).cell hi).2.2.1
  have hi' : (i : Int) < 2 := by omega
  have hi0 : (0 : Int) ≤ (i : Int) := by omega
  have hq64 : (nl : Int) ≤ 1000000 := by rw [hnq]; have := hs0.1; have := hs0.2.2.2; omega
  have HQ64 := Lib.hid hq64
  rw [← hn0]
  clear h hy hs0 hs1 hnow hq hqe hqo hqb hnq hW1 hB1 kO hn0 hbl
  obtain ⟨i0, hinfo, hz0, hzs, hz2⟩ := info_parts (P := Try.prog) (e := 29) (z := .agg #[.int .i64 0, .int .i64 0, .int .i64 0, .int .i64 0, .int .i64 0, .slice none 0 0]) (size := 6) (bytes := 64) (by kernel_rfl)
  go_enter Try.func8, Try.ntmps8
  go_upto_if 20 with (rw [← HW1.out])
  go_cut [6] from 20 to 41 (fun v wx => ∃ a : Nat, v = .int .i64 (a : Int) ∧ Hid (Below W1.heap.size W1 wx ∧ AtIs now nl a))
  case first =>
    by_cases hz : nl = 0
    · subst hz
      go_wp2
      go_meet
      exact ⟨0, rfl, Lib.hid ⟨Below.refl _ _, .inl rfl⟩⟩
    · have hz1 : (0 : Int) < (nl : Int) := by omega
      have hz2 : ((nl : Int) == 0) = false := by simp; omega
      have hz3 : ¬ (nl : Int) = 0 := by omega
      have HZ := Lib.hid hz
      by_cases ht : now.tmod (nl : Int) < 0
      · have HA := Lib.hid (at_neg hz ht)
        have hlt : -(nl : Int) < now.tmod (nl : Int) := Int.lt_tmod_of_pos now hz1
        have kw : IntKind.i64.wrap (now.tmod (nl : Int) + (nl : Int)) = now.tmod (nl : Int) + (nl : Int) := by rw [IntKind.wrap_i64]; omega
        clear hz
        go_wp2_with fail
        go_quiet (fail)
        go_wp2
        go_meet
        exact ⟨(now.tmod (nl : Int) + nl).toNat, by go_num, Lib.hid ⟨below_drewN (Below.refl _ _) _, HA.out⟩⟩
      · have HA := Lib.hid (at_pos hz ht)
        clear hz
        go_wp2_with fail
        go_quiet (fail)
        go_wp2
        go_meet
        exact ⟨(now.tmod (nl : Int)).toNat, by go_num, Lib.hid ⟨below_drewN (Below.refl _ _) _, HA.out⟩⟩
  case rest =>
    obtain ⟨a, rfl, HC⟩ := hcut
    have HXc := Lib.hid (HX1.out.later HC.out.1)
    have hOc : OpBox wc w.heap.size 5 b now A0 n0 c0 v3 v4 v5 v6 v7 v8 := (HC.out.1.block _ (heap_lt HO1.out)).trans HO1.out
    have HOc := Lib.hid hOc
    have hbw : Below w.heap.size w wc := HB1.out.trans (HC.out.1.mono HB1.out.size)
    have HBw := Lib.hid hbw
    clear o0 o1 o2 o9 q4
    obtain ⟨o0, o1, o2, o9⟩ := hOc.cells
    clear hOc hbw
    have hqc : wc.ownsRow B 29 6 (.slice Aq nl cq) nl (cellsE es) := by have := own_moved (p := fun _ => False) HQ.out.2.2.1 (Below.movedNew HBw.out) (fun _ _ h => h); rw [HQ.out.1] at this; exact this
    have x4 : wc.cell? ⟨pp, 4 + i, none⟩ = some (.slice Aq nl cq) := by rw [← HQ.out.1]; exact (HXc.out.cell hi).2.2.1
    by_cases hz : nl = 0
    · subst hz
      have HK : Hid (doX 5 now body i X = X) := Lib.hid (by
        have h0 : (X i).q = [] := List.eq_nil_of_length_eq_zero HQ.out.2.2.2.2.symm
        unfold doX doS
        rw [if_neg (show ¬ (5 : Int) = 1 by decide), if_neg (show ¬ (5 : Int) = 3 by decide), if_pos (show ((5 : Int) = 4 ∨ (5 : Int) = 5 ∨ (5 : Int) = 6) by decide)]
        simp only [h0, List.getElem?_nil, upd_self])
      clear hqc
      go_wp2
      go_ret
      refine ⟨rfl, ?_, HBw.out.mono HX.out.lowle, Below.ku HBw.out⟩
      rw [HK.out]
      exact HXc.out.to
    · have hlt : a < nl ∧ a = atQ now nl := by rcases HC.out.2 with h | h
                                               · exact absurd h hz
                                               · exact ⟨h.2, h.1⟩
      have hen : es.length = nl := by rw [HQ.out.2.2.2.2, ← HQ.out.2.1, List.length_map]
      obtain ⟨x, hx⟩ : ∃ x, es[a]? = some x := ⟨es[a]'(by omega), List.getElem?_eq_getElem (by omega)⟩
      obtain ⟨gq, hgq, _⟩ := own_cell hqc rfl 0 (by omega)
      subst hgq
      have hcell : ∀ j u, (cellsE es)[j]? = some u → wc.cell? ⟨gq, j, none⟩ = some u := fun j u hu => by
        have hj := (List.getElem?_eq_some_iff.1 hu).1
        rw [cellsE_len, hen] at hj
        obtain ⟨g2, e2, h2⟩ := own_cell hqc rfl j hj
        injection e2 with e2; injection e2 with e2; subst e2
        rw [h2]; exact hu
      have hxe : (X i).q[a]? = some x.e := by rw [← HQ.out.2.1, List.getElem?_map, hx]; rfl
      have hxm : x ∈ es := List.mem_of_getElem? hx
      have hat : ∀ j u, j < 6 → x.cells[j]? = some u → wc.cell? ⟨gq, a * 6 + j, none⟩ = some u := fun j u hj hu => hcell _ u (by rw [cellsE_at es a j (by omega) hj, show es[a]'(by omega) = x from (List.getElem?_eq_some_iff.1 hx).2]; exact hu)
      have hbx := HQ.out.2.2.2.1 x hxm
      obtain ⟨⟨kd, mi, yo, sq, ak, bd⟩, xA, xc⟩ := x
      obtain ⟨nb, hnb⟩ : ∃ n, n = bd.length := ⟨_, rfl⟩
      have g0 : wc.cell? ⟨gq, a * 6, none⟩ = some (.int .i64 kd) := hat 0 _ (by decide) rfl
      have g1 : wc.cell? ⟨gq, a * 6 + 1, none⟩ = some (.int .i64 mi) := hat 1 _ (by decide) rfl
      have g2 : wc.cell? ⟨gq, a * 6 + 2, none⟩ = some (.int .i64 yo) := hat 2 _ (by decide) rfl
      have g3 : wc.cell? ⟨gq, a * 6 + 3, none⟩ = some (.int .i64 sq) := hat 3 _ (by decide) rfl
      have g4 : wc.cell? ⟨gq, a * 6 + 4, none⟩ = some (.int .i64 ak) := hat 4 _ (by decide) rfl
      have g5 : wc.cell? ⟨gq, a * 6 + 5, none⟩ = some (.slice xA nb xc) := by rw [hnb]; exact hat 5 _ (by decide) rfl
      have HK : Hid (doX 5 now body i X = upd X i (inS (X i) ⟨kd, mi, yo, sq, ak, bd⟩)) := Lib.hid (by
        have h0 : (X i).q[atQ now (X i).q.length]? = some ⟨kd, mi, yo, sq, ak, bd⟩ := by rw [← HQ.out.2.2.2.2, ← hlt.2]; exact hxe
        unfold doX doS
        rw [if_neg (show ¬ (5 : Int) = 1 by decide), if_neg (show ¬ (5 : Int) = 3 by decide), if_pos (show ((5 : Int) = 4 ∨ (5 : Int) = 5 ∨ (5 : Int) = 6) by decide)]
        simp only [h0]
        rw [if_neg (show ¬ (5 : Int) = 6 by decide), if_pos trivial]
        skip
        exact upd_pair X hi _)
      have HNb := Lib.hid hnb
      have HEs := Lib.hid hen
      have HLt := Lib.hid hlt.1
      have hlt0 := hlt.1
      have HBx := Lib.hid (hbx.kept (Below.ku HBw.out))
      have HCl := Lib.hid hcl
      have HCq : Hid (nl ≤ cq) := Lib.hid (own_capK hqc).1
      have HFe := Lib.hid (hfq _ (List.mem_of_getElem? hxe))
      have HEq := Lib.hid HQ.out.2.1
      have HCe := Lib.hid hcell
      have HByc : Hid (∀ x ∈ es, ByU wc x.A x.e.body) := Lib.hid (fun x hx => (HQ.out.2.2.2.1 x hx).kept (Below.ku HBw.out))
      have hlt1 : (a : Int) < (nl : Int) := by omega
      have ha0 : (0 : Int) ≤ (a : Int) := by omega
      have hza : ((nl : Int) == 0) = false := by simp; omega
      clear hlt hen hx hxe hxm hat hbx hnb hqc hcell hz
      go_wp2_with (refine wpList_store_new rfl 29 (.tmp 7) (.tmp 120) rfl wc.heap.size #[.int .i64 kd, .int .i64 mi, .int .i64 yo, .int .i64 sq, .int .i64 ak, .slice xA nb xc] rfl rfl 29 #[.int .i64 0, .int .i64 0, .int .i64 0, .int .i64 0, .int .i64 0, .slice none 0 0] (heap_new wc _) (by kernel_rfl) rfl rfl ?_; intro w2 hzz hb2 hk2 ho2; have hb2b := hb2 wc.heap.size wc (below_alloc _ _) (Nat.le_refl _); have HB2 := Lib.hid hb2b; have HE2 := Lib.hid hk2; have H2 := Lib.hid (HXc.out.later hb2b); have hO2 := (hb2b.block _ (heap_lt HOc.out)).trans HOc.out; have HO2 : Hid (OpBox w2 w.heap.size 5 b now A0 n0 c0 v3 v4 v5 v6 v7 v8) := Lib.hid hO2; have x4w := cell_later hb2b x4; clear x4 o0 o1 o2 o9; have o0 := HO2.out.cells.1; have e0 := cell_of_row _ _ 0 _ _ _ hk2; have e1 := cell_of_row _ _ 1 _ _ _ hk2; have e2 := cell_of_row _ _ 2 _ _ _ hk2; have e3 := cell_of_row _ _ 3 _ _ _ hk2; have e4 := cell_of_row _ _ 4 _ _ _ hk2; have e5 := cell_of_row _ _ 5 _ _ _ hk2; have x4 := x4w; clear x4w; clear hzz hb2 hk2 ho2 hb2b hO2; go_wp2_with fail)
      clear g0 g1 g2 g3 g4 g5
      have HQ2 : Hid (∀ j u, (cellsE es)[j]? = some u → w2.cell? ⟨gq, j, none⟩ = some u) := Lib.hid (fun j u hu => cell_later HB2.out (HCe.out j u hu))
      have HBy2 : Hid (∀ x ∈ es, ByU w2 x.A x.e.body) := Lib.hid (fun x hx => (HByc.out x hx).later HB2.out)
      have HIn : Hid (Calls Try.prog 17 #[.pointer (some ⟨pp, 0, none⟩), .int .i64 (i : Int), .agg #[.int .i64 kd, .int .i64 mi, .int .i64 yo, .int .i64 sq, .int .i64 ak, .slice xA nb xc]] w2 (InPost B pp i X ⟨kd, mi, yo, sq, ak, bd⟩ w2)) := Lib.hid (by
        have hpu : (X i).ss.l.puts < 1000000 := by have := HS0.out.2.2.1; have := HS0.out.2.2.2; show (X i).ss.l.puts < _; omega
        have hce : (X i).came.length ≤ 2147483648 := by exact HCl.out
        have := in_any H2.out hi ⟨kd, mi, yo, sq, ak, bd⟩ xA xc (.inl ((HBx.out.later HB2.out))) HFe.out hpu hce (Nat.le_trans (onS_len _ _) (by have := HS0.out.2.2.1; have := HS0.out.2.2.2; show (X i).ss.l.puts + 2 ≤ _; omega))
        rw [HNb.out]; exact this)
      go_wp2_with (go_at_call 17; refine Calls.mono HIn.out ?_; rintro e9 w19 ⟨rfl, hP, hb5, hk5⟩; have HP := Lib.hid hP; have HB5 := Lib.hid (And.intro hb5 hk5); clear hP hb5 hk5)
      go_wp2
      go_ret
      refine ⟨rfl, ?_, ((HBw.out.mono HX.out.lowle).trans (HB2.out.mono HXc.out.lowle)).trans HB5.out.1, ((Below.ku HBw.out).trans (Below.ku HB2.out)).trans HB5.out.2⟩
      rw [HK.out]
      exact HP.out
end
end Go.Proofs.Ytihkjdoajfjnpaa
