/- Walk of package label: the parse of a text, part by part. -/
import Derived.Test.YtpkjllliidpgoaaGreatDoorLabS
set_option linter.unusedSimpArgs false
set_option linter.unusedVariables false
namespace Go.Proofs.YtpkjllliidpgoaaGreatDoor
open Go.ChangeShapes Go.WideShapes Go.ChangeAt Go.RowKit Go.Base Go.Lab Go.Shelf
attribute [local go_sem] Oper.semAt_some

def ParsePost (r : Except (Int × Nat) (List PC)) (w : World) (e : Ending) (W' : World) : Prop :=
  (∀ e' p, r = .error (e', p) → e = .returned (.tuple #[.slice none 0 0, .int .i64 e', .int .i64 (p : Nat)])) ∧ (∀ cs, r = .ok cs → ∃ v, e = .returned (.tuple #[v, .int .i64 0, .int .i64 0]) ∧ CRows W' w.heap.size cs v) ∧ Below w.heap.size w W'
/-- The world ahead of the first look at the text. -/
def paW (w : World) : World := ((w.alloc (.cells #[.slice none 0 0] 33)).alloc (.cells #[.int .i64 0] 23)).alloc (.cells #[.int .i64 0] 3)
theorem pa_size (w : World) : (paW w).heap.size = w.heap.size + 3 := by simp [paW]
theorem pa_below (w : World) : Below w.heap.size w (paW w) := by
  unfold paW; exact ((below_alloc _ _).alloc (by simp) _).alloc (by simp; omega) _
theorem pa_r0 (w : World) : (paW w).heap[w.heap.size]? = some (.cells #[.slice none 0 0] 33 (0, 0)) := by
  unfold paW; iterate 2 (refine heap_old _ (by simp <;> omega) ?_)
  exact heap_at _ (by simp)
theorem pa_r1 (w : World) : (paW w).heap[w.heap.size + 1]? = some (.cells #[.int .i64 0] 23 (0, 0)) := by
  unfold paW; refine heap_old _ (by simp <;> omega) ?_
  exact heap_at _ (by simp)
theorem pa_r2 (w : World) : (paW w).heap[w.heap.size + 1 + 1]? = some (.cells #[.int .i64 0] 3 (0, 0)) := by
  unfold paW; exact heap_at _ (by simp)
/-- .. and in which the range over the parts begins. -/
def pbW (W1 : World) (s : ByteArray) : World := (W1.alloc (.cells #[.slice none 0 0] 33)).alloc (.cells #[.string s] 9)
theorem pb_size (W1 : World) (s : ByteArray) : (pbW W1 s).heap.size = W1.heap.size + 2 := by simp [pbW]
theorem pb_below (W1 : World) (s : ByteArray) : Below W1.heap.size W1 (pbW W1 s) := by
  unfold pbW; exact (below_alloc _ _).alloc (by simp) _
theorem pb_r0 (W1 : World) (s : ByteArray) : (pbW W1 s).heap[W1.heap.size]? = some (.cells #[.slice none 0 0] 33 (0, 0)) := by
  unfold pbW; refine heap_old _ (by simp <;> omega) ?_
  exact heap_at _ (by simp)
theorem pb_r1 (W1 : World) (s : ByteArray) : (pbW W1 s).heap[W1.heap.size + 1]? = some (.cells #[.string s] 9 (0, 0)) := by
  unfold pbW; exact heap_at _ (by simp)

theorem Eq.trans_same1 {a : Nat} {A B C : World} (h : Same1 a A B) (k : Same1 a B C) : Same1 a A C := Eq.trans k h
theorem news_cells (W : World) (kk : Int) (ky : Bytes) (la : Option Addr) (vs : List Bytes) (lc : Nat) : ∀ j u, (clC ⟨kk, ky, la, vs, lc⟩)[j]? = some u → ((W.alloc (.cells #[.int .i64 kk, strV ky, .slice la vs.length lc] 42)).alloc (.cells #[.int .i64 kk, strV ky, .slice la vs.length lc] 42)).cell? ((⟨W.heap.size + 1, 0, none⟩ : Addr).add j) = some u := by
  intro j u hu
  have h := (cells_of_heap (heap_new (W.alloc (.cells #[.int .i64 kk, strV ky, .slice la vs.length lc] 42)) (.cells #[.int .i64 kk, strV ky, .slice la vs.length lc] 42))).1 j
  rw [show (W.alloc (.cells #[.int .i64 kk, strV ky, .slice la vs.length lc] 42)).heap.size = W.heap.size + 1 by simp] at h
  have hadd : (⟨W.heap.size + 1, 0, none⟩ : Addr).add j = ⟨W.heap.size + 1, j, none⟩ := by unfold Addr.add; split <;> simp_all
  rw [hadd, h, ← hu]
  simp [clC]
theorem clC_one (c : Cl) : ∀ u ∈ clC c, u.oneCell' = true := by
  intro u hu
  simp only [clC, List.mem_cons, List.not_mem_nil, or_false] at hu
  rcases hu with rfl | rfl | rfl <;> rfl
set_option maxRecDepth 100000 in
set_option maxHeartbeats 4000000 in
theorem parse_in (l : Bytes) (hl : l.length ≤ 512) (hne : trimS l ≠ []) (w : World) (hV : VarI w) :
    CallsIn Fence.wide 3 Tryz.prog 20 #[.string ⟨l.toArray⟩] w (ParsePost (parseB l) w) := by
  have hlm : l.length ≤ maxLen := by unfold maxLen; omega
  have hs : ¬ (512 : Int) < (l.length : Int) := by omega
  have HP : Hid (parseB l = foldP (partsB 0 l) []) := Lib.hid (by unfold parseB; rw [if_neg (by omega), if_neg hne])
  have HT0 := Lib.hid (fun W => trim_l l hlm W)
  have HV := Lib.hid hV
  obtain ⟨tc, tl, htr⟩ := List.exists_cons_of_ne_nil hne
  rw [htr] at HT0
  clear hV hne htr
  refine callsIn_of_wp_marks Tryz.func20 rfl trivial ?_ rfl
  simp only [Tryz.ntmps20, List.size_toArray, List.length_cons, List.length_nil, Nat.reduceAdd, Nat.reduceSub, Array.replicate_succ, Array.replicate_zero, List.push_toArray, List.append_toArray, List.nil_append, List.cons_append]
  gi_wp2_with fail
  refine ⟨trivial, ?_⟩
  change CallsIn _ _ _ _ _ (paW w) _
  refine (callsIn_wide.2 (HT0.out _)).mono ?_
  rintro e W1 ⟨rfl, hb1⟩
  have z1 := hb1.size
  rw [pa_size] at z1
  have hbW1 : Below w.heap.size w W1 := (pa_below w).trans (hb1.mono (by rw [pa_size]; omega))
  have v0 := Lib.hid (row_below hb1 (by rw [pa_size]; omega) (pa_r0 w))
  have v1 := Lib.hid (row_below hb1 (by rw [pa_size]; omega) (pa_r1 w))
  have v2 := Lib.hid (row_below hb1 (by rw [pa_size]; omega) (pa_r2 w))
  clear hb1
  gi_wp2_with (refine ⟨trivial, ?_⟩; gi_at_call 37; refine (callsIn_wide.2 (parts_call _ _)).mono ?_; rintro e w' ⟨rfl, rfl⟩)
  change Code.wpIn _ _ _ _ _ _ (pbW W1 ⟨l.toArray⟩)
  have hz := pb_size W1 ⟨l.toArray⟩
  have hbb := pb_below W1 ⟨l.toArray⟩
  have u0 := pb_r0 W1 ⟨l.toArray⟩
  have u1 := pb_r1 W1 ⟨l.toArray⟩
  have c5 := (cells_of_heap u1).1 0
  have t0 := row_below hbb (by omega) v0.out
  have t1 := row_below hbb (by omega) v1.out
  have t2 := row_below hbb (by omega) v2.out
  have hbw := hbW1.trans (hbb.mono (by omega))
  generalize pbW W1 ⟨l.toArray⟩ = W0 at *
  have hsz : (⟨l.toArray⟩ : ByteArray).size ≤ 512 := by simpa [ByteArray.size] using hl
  have hsplit := parts_stops 2 (by omega) ⟨l.toArray⟩ 512 hsz (by unfold maxLen; decide) (W1.heap.size + 1) W0 (by omega) c5
  refine wpIn_rangeFunc_ownF rfl (by omega) (gf := 54) (lb := #[.pointer (some ⟨W1.heap.size + 1, 0, none⟩)]) rfl trivial (enters_of Tryz.func54 (by kernel_rfl) rfl)
    hsplit Eq.trans_same1 (same1_b (by omega)) (Below.refl _ _) (fun _ => rfl)
    (fun pre W => PaI w W1.heap.size pre W ∧ Below w.heap.size w W)
    (fun c pre W => PaX w c pre W ∧ Below w.heap.size w W)
    (OwnFrom.and (Own.from (paI_own w _) _) (ownFrom_below (Nat.le_refl _) (by omega)))
    (fun c => OwnFrom.and (Own.from (paX_own w c) _) (ownFrom_below (Nat.le_refl _) (by omega)))
    ⟨⟨t0, t1, t2, ⟨[], _, rfl, by decide, u0, CRows.nil _ _⟩, ⟨_, u1⟩, by omega, HV.out.later hbw⟩, hbw⟩
    (fun x => { tmps := #[.string ⟨l.toArray⟩, undef, .pointer (some ⟨w.heap.size, 0, none⟩), .pointer (some ⟨w.heap.size + 1, 0, none⟩), .pointer (some ⟨w.heap.size + 1 + 1, 0, none⟩), .pointer (some ⟨W1.heap.size, 0, none⟩), .string ⟨x.1.toArray⟩, undef, undef, undef, .string ⟨l.toArray⟩, .int .i64 (l.length : Nat), .bool false, .string ⟨l.toArray⟩, strV (tc :: tl), .bool false, .string ⟨l.toArray⟩, .func (.func 54) #[] #[.pointer (some ⟨W1.heap.size + 1, 0, none⟩)], .string ⟨x.1.toArray⟩, undef, undef, undef, undef, undef, undef, undef, undef, undef, undef, undef, undef, undef, undef, undef, undef, undef, undef, undef, undef, undef, undef, undef, undef], defers := [] }) ?assign ?body ?done ?stop
  case assign =>
    intro l0 x W K hK
    dsimp only [encP]
    gi_wp2
    exact hK
  case body =>
    clear t0 t1 t2 u0 u1 c5 hsplit hz hbb hbw hsz hl hlm hs
    rintro l0 pre x W ⟨⟨r0, r1, r2, ⟨acc, v, hfold, hacc, r4, r5⟩, ⟨sp, r6⟩, hbig, hvar⟩, hB⟩ hlen
    have hd1 : 1 ≤ 3 - 1 - 1 := by decide
    obtain ⟨A, cap, rfl⟩ := r5.form
    have happ : Hid (foldP ((pre ++ [x]).map (·.1)) [] = stepP acc x.1) := Lib.hid (by rw [List.map_append, foldP_append, hfold]; exact foldP_one)
    have y0 : w.heap.size < W.heap.size := (by omega)
    have y1 : w.heap.size + 1 < W.heap.size := (by omega)
    have y2 : w.heap.size + 1 + 1 < W.heap.size := (by omega)
    have y3 : W1.heap.size < W.heap.size := (by omega)
    obtain ⟨c4, f4⟩ := cells_of_heap r4
    have R0 := Lib.hid r0
    have R1 := Lib.hid r1
    have R2 := Lib.hid r2
    have R4 := Lib.hid r4
    have R5 := Lib.hid r5
    have R6 := Lib.hid r6
    have HB := Lib.hid hB
    have HVr := Lib.hid hvar
    by_cases h16 : acc.length = 16
    · have hbad : Hid (stepP acc x.1 = .error (3, 16)) := Lib.hid (by unfold stepP; rw [if_pos h16])
      obtain ⟨c0, f0⟩ := cells_of_heap r0
      obtain ⟨c1, f1⟩ := cells_of_heap r1
      obtain ⟨c2, f2⟩ := cells_of_heap r2
      rw [h16] at c4
      clear r0 r1 r2 r4 r5 r6 hfold hB hvar hacc
      gi_wp2_with fail
      exact fin_bad (p := 16) (fin_set (w := w) (.slice none 0 0) 3 16 (KeepsOthers.refl _) HB.out R0.out R1.out R2.out) (by rw [happ.out, hbad.out])
    · have HT := Lib.hid (fun V => trim_l x.1 (Nat.le_trans x.2 (by unfold maxLen; decide)) V)
      have HCl := Lib.hid (fun V (hb : Below W.heap.size W V) => parseClause_l (trimS x.1) (Nat.le_trans (trimS_len _) (Nat.le_trans x.2 (by decide))) V (HVr.out.later hb))
      have hst : Hid (stepP acc x.1 = match parseClB (trimS x.1) with | none => .error (40, acc.length) | some c => if 16 < c.2.2.length then .error (3, acc.length) else .ok (acc ++ [c])) := Lib.hid (by unfold stepP; rw [if_neg h16]; cases parseClB (trimS x.1) <;> rfl)
      have h16' : ((acc.length : Int) == 16) = false := by simp; omega
      generalize parseClB (trimS x.1) = r at *
      generalize trimS x.1 = tx at *
      clear r0 r1 r2 r4 r5 r6 hfold hB hvar
      cases r with
      | none =>
        have hbad : Hid (stepP acc x.1 = .error (40, acc.length)) := Lib.hid (by rw [hst.out])
        clear hst
        gi_wp2_with (first | (refine ⟨trivial, ?_⟩; gi_at_call 36; refine (CallsIn.inRound l0 (callsIn_wide.2 (HT.out _))).mono ?_; rintro e W2 ⟨rfl, hb2⟩; have HB2 := Lib.hid hb2; clear hb2) | (refine ⟨trivial, ?_⟩; gi_at_call 38; refine (CallsIn.inRound l0 (callsIn_wide.2 (HCl.out _ HB2.out))).mono ?_; rintro e W3 ⟨h, _, hb3⟩; obtain rfl := h rfl; have hb := HB2.out.trans (hb3.mono HB2.out.size); have z3 := hb.size; have HBW := Lib.hid hb; have R0' := Lib.hid (row_below hb (by omega) R0.out); have R1' := Lib.hid (row_below hb (by omega) R1.out); have R2' := Lib.hid (row_below hb (by omega) R2.out); have R4' := Lib.hid (row_below hb (by omega) R4.out); have z4 : w.heap.size < W3.heap.size := (by omega); have z5 : w.heap.size + 1 < W3.heap.size := (by omega); have z6 : w.heap.size + 1 + 1 < W3.heap.size := (by omega); have z7 : W1.heap.size < W3.heap.size := (by omega); obtain ⟨c0, f0⟩ := cells_of_heap R0'.out; obtain ⟨c1, f1⟩ := cells_of_heap R1'.out; obtain ⟨c2, f2⟩ := cells_of_heap R2'.out; obtain ⟨c4, f4⟩ := cells_of_heap R4'.out; clear h hb hb3))
        exact fin_bad (p := acc.length) ((fin_set (w := w) (.slice none 0 0) 40 acc.length (keepsOthers_below HBW.out) (HB.out.trans (HBW.out.mono HB.out.size)) R0'.out R1'.out R2'.out).alloc _) (by rw [happ.out, hbad.out])
      | some p =>
        obtain ⟨kk, ky, vs⟩ := p
        by_cases hv16 : 16 < vs.length
        · have hv16' : (16 : Int) < (vs.length : Int) := by omega
          have hbad : Hid (stepP acc x.1 = .error (3, acc.length)) := Lib.hid (by rw [hst.out]; simp only; rw [if_pos hv16])
          clear hst
          gi_wp2_with (first | (refine ⟨trivial, ?_⟩; gi_at_call 36; refine (CallsIn.inRound l0 (callsIn_wide.2 (HT.out _))).mono ?_; rintro e W2 ⟨rfl, hb2⟩; have HB2 := Lib.hid hb2; clear hb2) | (refine ⟨trivial, ?_⟩; gi_at_call 38; refine (CallsIn.inRound l0 (callsIn_wide.2 (HCl.out _ HB2.out))).mono ?_; rintro e W3 ⟨_, h, hb3⟩; obtain ⟨la, lc, rfl, hft, _, hty⟩ := h _ _ _ rfl; have HFt := Lib.hid hft; have HTy := Lib.hid hty; have hb := HB2.out.trans (hb3.mono HB2.out.size); have z3 := hb.size; have HBW := Lib.hid hb; have R0' := Lib.hid (row_below hb (by omega) R0.out); have R1' := Lib.hid (row_below hb (by omega) R1.out); have R2' := Lib.hid (row_below hb (by omega) R2.out); have R4' := Lib.hid (row_below hb (by omega) R4.out); have z4 : w.heap.size < W3.heap.size := (by omega); have z5 : w.heap.size + 1 < W3.heap.size := (by omega); have z6 : w.heap.size + 1 + 1 < W3.heap.size := (by omega); have z7 : W1.heap.size < W3.heap.size := (by omega); obtain ⟨c0, f0⟩ := cells_of_heap R0'.out; obtain ⟨c1, f1⟩ := cells_of_heap R1'.out; obtain ⟨c2, f2⟩ := cells_of_heap R2'.out; obtain ⟨c4, f4⟩ := cells_of_heap R4'.out; clear h hb hb3 hft hty))
          exact fin_bad (p := acc.length) ((fin_set (w := w) (.slice none 0 0) 3 acc.length (keepsOthers_below HBW.out) (HB.out.trans (HBW.out.mono HB.out.size)) R0'.out R1'.out R2'.out).alloc _) (by rw [happ.out, hbad.out])
        · have hv16' : ¬ (16 : Int) < (vs.length : Int) := by omega
          have hgo : Hid (stepP acc x.1 = .ok (acc ++ [(kk, ky, vs)])) := Lib.hid (by rw [hst.out]; simp only; rw [if_neg hv16])
          obtain ⟨i0, hi, hz0, hz1, hz2⟩ := info_parts (P := Tryz.prog) (e := 42) (z := clV0) (size := 3) (bytes := 48) (by kernel_rfl)
          clear hst
          gi_wp2_with (first | (refine ⟨trivial, ?_⟩; gi_at_call 36; refine (CallsIn.inRound l0 (callsIn_wide.2 (HT.out _))).mono ?_; rintro e W2 ⟨rfl, hb2⟩; have HB2 := Lib.hid hb2; clear hb2) | (refine ⟨trivial, ?_⟩; gi_at_call 38; refine (CallsIn.inRound l0 (callsIn_wide.2 (HCl.out _ HB2.out))).mono ?_; rintro e W3 ⟨_, h, hb3⟩; obtain ⟨la, lc, rfl, hft, _, hty⟩ := h _ _ _ rfl; have HFt := Lib.hid hft; have HTy := Lib.hid hty; have hb := HB2.out.trans (hb3.mono HB2.out.size); have z3 := hb.size; have HBW := Lib.hid hb; have R0' := Lib.hid (row_below hb (by omega) R0.out); have R1' := Lib.hid (row_below hb (by omega) R1.out); have R2' := Lib.hid (row_below hb (by omega) R2.out); have R4' := Lib.hid (row_below hb (by omega) R4.out); have z4 : w.heap.size < W3.heap.size := (by omega); have z5 : w.heap.size + 1 < W3.heap.size := (by omega); have z6 : w.heap.size + 1 + 1 < W3.heap.size := (by omega); have z7 : W1.heap.size < W3.heap.size := (by omega); obtain ⟨c0, f0⟩ := cells_of_heap R0'.out; obtain ⟨c1, f1⟩ := cells_of_heap R1'.out; obtain ⟨c2, f2⟩ := cells_of_heap R2'.out; obtain ⟨c4, f4⟩ := cells_of_heap R4'.out; have HBA : Hid (Below W.heap.size W ((W3.alloc (.cells #[.int .i64 kk, strV ky, .slice la vs.length lc] 42)).alloc (.cells #[.int .i64 kk, strV ky, .slice la vs.length lc] 42))) := Lib.hid ((hb.alloc hb.size _).alloc (by simp; omega) _); obtain ⟨cs, hcs, hown, hall⟩ := R5.out.below HBA.out; have HOwn := Lib.hid hown; have HAll := Lib.hid hall; have HCs := Lib.hid hcs; have HNew : Hid (∀ j u, (clC ⟨kk, ky, la, vs, lc⟩)[j]? = some u → ((W3.alloc (.cells #[.int .i64 kk, strV ky, .slice la vs.length lc] 42)).alloc (.cells #[.int .i64 kk, strV ky, .slice la vs.length lc] 42)).cell? ((⟨W3.heap.size + 1, 0, none⟩ : Addr).add j) = some u) := Lib.hid (news_cells _ _ _ _ _ _); clear h hb hb3 hft hty hcs hown hall) | (gi_at_builtin; refine wpListIn_append_own _ rfl _ _ 33 rfl w.heap.size 42 i0 clV0 3 48 Tryz.underlying33 hi hz0 hz1 hz2 rfl (by decide) _ _ _ rfl HOwn.out ⟨W3.heap.size + 1, 0, none⟩ 1 1 (clC ⟨kk, ky, la, vs, lc⟩) rfl rfl HNew.out (clC_one _) (by unfold maxLen; omega) (by omega) (by simp; omega) ?_; intro v' w5 hown5 hg5 hn5; have HRow5 := Lib.hid (crows_add HOwn.out HAll.out (by have := congrArg List.length HCs.out; simpa using this) ((HFt.out.later (below_alloc _ _)).later (below_alloc _ _)) ((HTy.out.later (below_alloc _ _)).later (below_alloc _ _)) hg5 hown5); obtain ⟨A', cap', rfl⟩ := HRow5.out.form; have HG5 := Lib.hid hg5; have R4f := Lib.hid (own_other HOwn.out hg5 (row_below HBA.out (by omega) R4.out) (by decide)); clear c4 f4; obtain ⟨c4, f4⟩ := cells_of_heap R4f.out; clear hown5 hg5 hn5))
          have z8 := HBA.out.size
          have z9 := HG5.out.size
          have HBf : Below w.heap.size w w5 := (HB.out.trans (HBA.out.mono HB.out.size)).grown HG5.out (by omega) (own_base HOwn.out)
          have HBx := HBf.setCell (p := ⟨W1.heap.size, 0, none⟩) (by show w.heap.size ≤ W1.heap.size; omega) (.slice A' (cs.length + 1) cap')
          refine ⟨((keepsOthers_below HBA.out).trans (KeepsOthers.of_grownBy HG5.out (own_cells HOwn.out))).trans (KeepsOthers.setCell _ _ _), ?_, ⟨?_, ?_, ?_, ⟨acc ++ [(kk, ky, vs)], _, by rw [happ.out, hgo.out], by simp; omega, row_set (i := 0) _ R4f.out, ?_⟩, ⟨sp, ?_⟩, ?_, HV.out.later HBx⟩, HBx⟩
          · show _ = _
            rw [R6.out]
            exact row_other _ (by omega) (own_other HOwn.out HG5.out (row_below HBA.out (by omega) R6.out) (by decide))
          · exact row_other _ (by omega) (own_other HOwn.out HG5.out (row_below HBA.out (by omega) R0.out) (by decide))
          · exact row_other _ (by omega) (own_other HOwn.out HG5.out (row_below HBA.out (by omega) R1.out) (by decide))
          · exact row_other _ (by omega) (own_other HOwn.out HG5.out (row_below HBA.out (by omega) R2.out) (by decide))
          · have h := HRow5.out
            simp only [List.length_append, List.length_map, List.length_cons, List.length_nil, Nat.zero_add] at h
            rw [HCs.out] at h
            exact h.set R4f.out (by decide) (by decide) _
          · exact row_other _ (by omega) (own_other HOwn.out HG5.out (row_below HBA.out (by omega) R6.out) (by decide))
          · have h := Nat.le_trans hbig (Nat.le_trans HBA.out.size HG5.out.size)
            simpa [World.setCell] using h
  case done =>
    clear t0 t1 t2 u0 u1 c5 hsplit hbb hbw hsz hl hlm hs
    rintro D xs W hD hS ⟨⟨r0, r1, r2, ⟨acc, v, hfold, hacc, r4, r5⟩, ⟨sp, r6⟩, hbig, hvar⟩, hB⟩ hK
    obtain ⟨A, cap, rfl⟩ := r5.form
    have hgood : Hid (parseB l = .ok acc) := Lib.hid (by rw [HP.out, show partsB 0 l = xs.map (·.1) from hS.symm, hfold])
    obtain ⟨c0, f0⟩ := cells_of_heap r0
    obtain ⟨c1, f1⟩ := cells_of_heap r1
    obtain ⟨c2, f2⟩ := cells_of_heap r2
    obtain ⟨c4, _⟩ := cells_of_heap r4
    have y0 : w.heap.size < W.heap.size := (by omega)
    have y1 : w.heap.size + 1 < W.heap.size := (by omega)
    have y2 : w.heap.size + 1 + 1 < W.heap.size := (by omega)
    have HF := Lib.hid (fin_set (w := w) (.slice A acc.length cap) 0 0 (KeepsOthers.refl W) hB r0 r1 r2)
    have HR := Lib.hid (crows_fin (w := w) (v := .slice A acc.length cap) (e' := .int .i64 0) (p := .int .i64 0) r5 r0 r1 r2)
    have HK := Lib.hid hK
    have hDw : w.heap.size ≤ D := by omega
    clear r0 r1 r2 r4 r5 r6 hfold hS hK hB hvar hacc
    gi_wp2
    clear c0 f0 c1 f1 c2 f2 c4
    have hK' := HF.out.o.same D _ HK.out rfl
    refine ⟨by simp, .inl ⟨_, _, rfl, run_takeDeferred hK', ?_⟩⟩
    obtain ⟨⟨q0, q1, q2⟩, hb9⟩ := fin_put HF.out hK' hDw
    obtain ⟨e0, _⟩ := cells_of_heap q0
    obtain ⟨e1, _⟩ := cells_of_heap q1
    obtain ⟨e2, _⟩ := cells_of_heap q2
    refine ⟨.tuple #[.slice A acc.length cap, .int .i64 0, .int .i64 0], ?_, ⟨?_, ?_, hb9⟩⟩
    · simp [results, Tryz.f20, go_sem, e0, e1, e2]
    · intro e' q he; rw [hgood.out] at he; cases he
    · intro cs hm; rw [hgood.out] at hm; cases hm; exact ⟨.slice A acc.length cap, rfl, HR.out.kept (grownBy_putObj' _ D (.deferred none)) (fun r e => by cases e; exact ⟨_, hK', rfl⟩)⟩
  case stop =>
    clear t0 t1 t2 u0 u1 c5 hsplit hbb hbw hsz hl hlm hs
    rintro D c pre W hD hpre ⟨⟨rfl, e', p, hfold, r0, r1, r2⟩, hB⟩ hK
    have hbad : Hid (parseB l = .error (e', p)) := Lib.hid (by
      rw [HP.out]
      obtain ⟨t, ht⟩ := hpre
      rw [show partsB 0 l = pre.map (·.1) ++ t from ht.symm, foldP_append, hfold])
    have HF : Fin3 w W W (.slice none 0 0) e' p := ⟨KeepsOthers.refl _, hB, r0, r1, r2⟩
    clear hfold hB r0 r1 r2
    gi_wp2
    have hDw : w.heap.size ≤ D := by omega
    have hK' := HF.o.same D _ hK rfl
    refine ⟨by simp, .inl ⟨_, _, rfl, run_takeDeferred hK', ?_⟩⟩
    obtain ⟨⟨q0, q1, q2⟩, hb9⟩ := fin_put HF hK' hDw
    obtain ⟨e0, _⟩ := cells_of_heap q0
    obtain ⟨e1, _⟩ := cells_of_heap q1
    obtain ⟨e2, _⟩ := cells_of_heap q2
    refine ⟨.tuple #[.slice none 0 0, .int .i64 e', .int .i64 (p : Nat)], ?_, ⟨?_, ?_, hb9⟩⟩
    · simp [results, Tryz.f20, go_sem, e0, e1, e2]
    · intro e2 q he; rw [hbad.out] at he; cases he; rfl
    · intro m hm; rw [hbad.out] at hm; cases hm
theorem parse_long (l : Bytes) (w : World) (hl : l.length ≤ maxLen) (h : 512 < l.length) :
    Calls Tryz.prog 20 #[.string ⟨l.toArray⟩] w (ParsePost (parseB l) w) := by
  have HP : Hid (parseB l = .error (3, 0)) := Lib.hid (by unfold parseB; rw [if_pos h])
  have hs3 : (512 : Int) < (l.length : Int) := by omega
  clear hl h
  go_enter Tryz.func20, Tryz.ntmps20
  go_wp2_with fail
  refine bodyPost_ret (v := .tuple #[.slice none 0 0, .int .i64 3, .int .i64 0]) (by simp [results, Tryz.results20, go_sem]) rfl ⟨?_, ?_, by go_grown⟩
  · intro e' p he; rw [HP.out] at he; cases he; rfl
  · intro ms hm; rw [HP.out] at hm; cases hm
theorem parse_blank (l : Bytes) (w : World) (hl : l.length ≤ 512) (h : trimS l = []) :
    Calls Tryz.prog 20 #[.string ⟨l.toArray⟩] w (ParsePost (parseB l) w) := by
  have HP : Hid (parseB l = .ok []) := Lib.hid (by unfold parseB; rw [if_neg (by omega), if_pos h])
  have hs3 : ¬ (512 : Int) < (l.length : Int) := by omega
  have HT0 := Lib.hid (fun W => trim_l l (by unfold maxLen; omega) W)
  rw [h] at HT0
  have HR0 := Lib.hid (pa_r0 w)
  have HR1 := Lib.hid (pa_r1 w)
  have HR2 := Lib.hid (pa_r2 w)
  have HS := pa_size w
  have HBp := Lib.hid (pa_below w)
  clear hl h
  go_enter Tryz.func20, Tryz.ntmps20
  go_wp2_with (go_at_call 36; change Calls _ _ _ (paW w) _; refine (HT0.out _).mono ?_; rintro e W1 ⟨rfl, hb⟩; have z1 := hb.size; have R0 := Lib.hid (row_below hb (by omega) HR0.out); have R1 := Lib.hid (row_below hb (by omega) HR1.out); have R2 := Lib.hid (row_below hb (by omega) HR2.out); have HB := Lib.hid (HBp.out.trans (hb.mono (by omega))); obtain ⟨c0, f0⟩ := cells_of_heap R0.out; obtain ⟨c1, f1⟩ := cells_of_heap R1.out; obtain ⟨c2, f2⟩ := cells_of_heap R2.out; clear hb)
  have HF := fin_set (w := w) (.slice none 0 0) 0 0 (KeepsOthers.refl W1) HB.out R0.out R1.out R2.out
  obtain ⟨e0, _⟩ := cells_of_heap HF.q0
  obtain ⟨e1, _⟩ := cells_of_heap HF.q1
  obtain ⟨e2, _⟩ := cells_of_heap HF.q2
  clear c0 f0 c1 f1 c2 f2
  refine bodyPost_ret (v := .tuple #[.slice none 0 0, .int .i64 0, .int .i64 0]) (by simp [results, Tryz.results20, go_sem, e0, e1, e2]) rfl ⟨?_, ?_, HF.b⟩
  · intro e' p he; rw [HP.out] at he; cases he
  · intro ms hm; rw [HP.out] at hm; cases hm; exact ⟨_, rfl, CRows.nil _ _⟩
/-- Parse, of whatever text. -/
theorem parse_l (l : Bytes) (hl : l.length ≤ maxLen) (w : World) (hV : VarI w) :
    Calls Tryz.prog 20 #[.string ⟨l.toArray⟩] w (ParsePost (parseB l) w) := by
  by_cases h : 512 < l.length
  · exact parse_long l w hl h
  · by_cases ht : trimS l = []
    · exact parse_blank l w (by omega) ht
    · exact callsIn_wide.1 (parse_in l (by omega) ht w hV)
end Go.Proofs.YtpkjllliidpgoaaGreatDoor
