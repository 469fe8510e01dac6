/- Package net: add, Send, Again. -/
import Derived.Test.YtbmadhmcnjcdfaaNetD
import Derived.Test.YtbmadhmcnjcdfaaHeldZ
set_option linter.unusedSimpArgs false
set_option linter.unusedVariables false
namespace Go.Proofs.Ytbmadhmcnjcdfaa
open Go.ChangeShapes Go.WideShapes Go.ChangeAt Go.RowKit Go.Base Go.Net

section
variable {T : TypeId} {F G : Nat → Prop} {w w' : World} {p : Nat} {s : St} {A : Option Addr} {c : Nat} {vs : List PkV} {x : PkV}
theorem own_parts {b b' n n' k k' : Nat} {e e' : TypeId} {v v' : Value} {xs xs' : List Value} (h : w.ownsRow b e k v n xs) (h' : w.ownsRow b' e' k' v' n' xs') (hne : e ≠ e') : v.ownBlock = none ∨ v.ownBlock ≠ v'.ownBlock := by
  rcases h.2 with ⟨rfl, _⟩ | ⟨g, cap, cur, rfl, _, hg, _⟩
  · exact .inl rfl
  · refine .inr (fun e => ?_)
    rcases h'.2 with ⟨rfl, _⟩ | ⟨g', cap', cur', rfl, _, hg', _⟩
    · cases e
    · have e : g = g' := Option.some.inj e
      subst e
      exact block_ne hg hg' hne rfl
theorem BodV.grown {b n : Nat} {v : Value} {ys : List Value} (h : BodV w F x) (ho : w.ownsRow b 37 4 v n ys) (hg : w.grownBy w' v.ownBlock) : BodV w' F x := ⟨h.1.kept hg (own_parts h.1 ho (by decide)), h.2⟩
theorem BodV.setSelf {i : Nat} {cs : Array Value} (h : BodV w F x) (hp : w.heap[p]? = some (.cells cs T (0, 0))) (hT : T ≠ 5) (v : Value) : BodV (w.setCell ⟨p, i, none⟩ v) F x :=
  ⟨own_moved (p := fun k => k = p) h.1 ((Moved.refl (fun k => k = p) w).setCell (.inr rfl) _) (fun k hk e => own_ne h.1 hp (Ne.symm hT) (e ▸ hk)), h.2⟩
theorem own_setSelf {b n i : Nat} {cs : Array Value} {v : Value} {ys : List Value} (h : w.ownsRow b 37 4 v n ys) (hp : w.heap[p]? = some (.cells cs T (0, 0))) (hT : T ≠ 37) (u : Value) : (w.setCell ⟨p, i, none⟩ u).ownsRow b 37 4 v n ys :=
  own_moved (p := fun k => k = p) h ((Moved.refl (fun k => k = p) w).setCell (.inr rfl) _) (fun k hk e => own_ne h hp (Ne.symm hT) (e ▸ hk))
theorem NOk.lastMore (h : NOk s) {k : Int} (hk : s.last ≤ k) : NOk { s with last := k } := ⟨h.p0, h.p1, h.few, h.asc, fun p hp => ⟨(h.ids p hp).1, Int.le_trans (h.ids p hp).2 hk⟩, h.bod, Int.le_trans h.last0 hk, h.lost0⟩
theorem NetX.setLast (h : NetX T w F p s A c vs) (z : Int) (hz : s.last ≤ z) : NetX T (w.setCell ⟨p, 2, none⟩ (.int .i64 z)) F p { s with last := z } A c vs :=
  ⟨NOk.lastMore h.good hz, h.is, (heap_set h.self 2 _).trans rfl, own_setSelf h.row h.self h.ty.1 _, h.inF, fun x hx => (h.bod x hx).setSelf h.self h.ty.2 _, h.ty⟩
theorem byt_setCell {A0 : Option Addr} {bs : List UInt8} {a : Addr} {v u : Value} (h : Byt w A0 bs) (hc : w.cell? a = some v) (hv : ∀ x, v ≠ .int .u8 x) : Byt (w.setCell a u) A0 bs := fun j hj => by
  obtain ⟨g, o, e, hx⟩ := h j hj
  refine ⟨g, o, e, (World.cell?_setCell_other w _ _ _ (fun e2 => ?_)).trans hx⟩
  rw [← e2, hc] at hx
  exact hv _ (Option.some.inj hx)
/-- In an elder world's blocks. -/
theorem NetX.tightTo {s2 : St} (h : NetX T w' F p s2 A c vs) (h0 : NetX T w F p s A c vs) : NetX T w' (fun k => F k ∧ k < w.heap.size) p s2 A c vs :=
  ⟨h.good, h.is, h.self, h.row, ⟨⟨h.inF.1, h0.lt⟩, fun k hk => ⟨h.inF.2 k hk, (h0.row.lt k hk).2⟩⟩, fun x hx => ⟨(h.bod x hx).1, fun k hk => ⟨(h.bod x hx).2 k hk, ((h0.bod x hx).1.lt k hk).2⟩⟩, h.ty⟩
theorem own_zero {b n k : Nat} {e : TypeId} {v : Value} {xs : List Value} (h : w.ownsRow b e k v n xs) : w.ownsRow 0 e k v n xs := by
  refine ⟨h.1, ?_⟩
  rcases h.2 with h0 | ⟨g', cap, cur, h1, h2, h3⟩
  · exact .inl h0
  · exact .inr ⟨g', cap, cur, h1, Nat.zero_le _, h3⟩
theorem cells_of_block {g : Nat} {cs : Array Value} {t : TypeId} {z : Nat × Nat} (h : w.heap[g]? = some (.cells cs t z)) : ∀ j u, cs.toList[j]? = some u → w.cell? ((⟨g, 0, none⟩ : Addr).add j) = some u := fun j u hu => by
  have e : (⟨g, 0, none⟩ : Addr).add j = ⟨g, j, none⟩ := by unfold Addr.add; split <;> simp_all
  rw [e, cell_of_row _ _ j _ _ _ h, ← Array.getElem?_toList]; exact hu
/-- One more packet: the end of add. -/
theorem add_end {w6 w7 : World} {A7 Ab : Option Addr} {c7 cb : Nat} {fr dst : Int} {b : List UInt8} (h : NetX T w6 F p { s with last := s.last + 1 } A c vs) (h0 : NOk s) (hf : ¬ 4096 ≤ s.l.length) (hb : b.length ≤ 32832)
    (hbd : BodV w6 G ⟨⟨s.last + 1, fr, dst, b⟩, Ab, cb⟩) (hFG : ∀ k, F k → G k) (hnew : ∀ k, w6.heap.size ≤ k → G k)
    (hown : w7.ownsRow 0 37 4 (.slice A7 (vs.length + 1) c7) (vs.length + 1) (cellsP vs ++ [.int .i64 (s.last + 1), .int .i64 fr, .int .i64 dst, .slice Ab b.length cb])) (hg : w6.grownBy w7 (Value.slice A vs.length c).ownBlock)
    (hw : (Value.slice A7 (vs.length + 1) c7).ownBlock = (Value.slice A vs.length c).ownBlock ∨ (Value.slice A7 (vs.length + 1) c7).ownBlock = some w6.heap.size) :
    NT T G (w7.setCell ⟨p, 1, none⟩ (.slice A7 (vs.length + 1) c7)) p (addS s fr dst b).2 := by
  have hs7 : w7.heap[p]? = some (.cells #[.int .i64 s.places, .slice A vs.length c, .int .i64 (s.last + 1), .int .i64 s.lost] T (0, 0)) := (hg.block p h.lt (fun e => own_ne h.row h.self (Ne.symm h.ty.1) e.symm)).trans h.self
  refine ⟨A7, c7, vs ++ [⟨⟨s.last + 1, fr, dst, b⟩, Ab, cb⟩], ⟨good_add h0 fr dst hb, ?_, ?_, ?_, ⟨hFG _ h.inF.1, fun k hk => ?_⟩, fun x hx => ?_, h.ty⟩⟩
  · unfold addS; rw [if_neg hf, List.map_append, h.is]; rfl
  · rw [heap_set hs7 1 _]; unfold addS; rw [if_neg hf, List.length_append]; rfl
  · rw [List.length_append, cellsP_append]
    exact own_setSelf hown hs7 h.ty.1 _
  · rw [List.length_append] at hk
    rcases hw with e | e
    · exact hFG _ (h.inF.2 k (e ▸ hk))
    · have hk : (Value.slice A7 (vs.length + 1) c7).ownBlock = some k := hk
      rw [e] at hk; injection hk with hk; exact hnew _ (by omega)
  · rcases List.mem_append.1 hx with h1 | h1
    · exact (((h.bod x h1).grown h.row hg).wide hFG).setSelf hs7 h.ty.2 _
    · obtain rfl := List.mem_singleton.1 h1
      exact (hbd.grown h.row hg).setSelf hs7 h.ty.2 _
set_option maxHeartbeats 4000000 in
set_option maxRecDepth 20000 in
theorem add_any (h : NetX T w F p s A c vs) (i fr dst : Int) (A0 : Option Addr) (b : List UInt8) (c0 : Nat) (hy : Byt w A0 b) (hb : b.length ≤ 32832) (hk1 : s.last + 1 ≤ 9223372036854775807) (hk2 : s.lost + 1 ≤ 9223372036854775807) :
    Calls Try.prog 28 #[.pointer (some ⟨p, 0, none⟩), .agg #[.int .i64 i, .int .i64 fr, .int .i64 dst, .slice A0 b.length c0]] w
      (OpN T F p (addS s fr dst b).2 (.tuple #[.int .i64 (addS s fr dst b).1.1, .int .i64 (addS s fr dst b).1.2]) w) := by
  have g0 := h.good.last0
  have g1 := h.good.lost0
  have hfew := h.few
  have hlen := h.len
  obtain ⟨W1, hW1⟩ : ∃ W1, W1 = w.alloc (.cells #[.int .i64 i, .int .i64 fr, .int .i64 dst, .slice A0 b.length c0] 37) := ⟨_, rfl⟩
  have hB1 : Below w.heap.size w W1 := by rw [hW1]; exact below_alloc _ _
  have hX1 := h.later hB1
  obtain ⟨e0, e1, e2, e3⟩ := hX1.cells
  have f2 := hX1.free 2
  have f3 := hX1.free 3
  have hp : p < w.heap.size := h.lt
  have hpW : p < W1.heap.size := by rw [hW1]; simp; omega
  have HX0 := Lib.hid h
  have HX1 := Lib.hid hX1
  have HB1 := Lib.hid hB1
  have kbx : W1.heap[w.heap.size]? = some (.cells #[.int .i64 i, .int .i64 fr, .int .i64 dst, .slice A0 b.length c0] 37 (0, 0)) := by rw [hW1]; exact heap_new w _
  have HBy := Lib.hid hy
  have hz1 : W1.heap.size = w.heap.size + 1 := by rw [hW1]; simp
  obtain ⟨n, hn⟩ : ∃ n, n = vs.length := ⟨_, rfl⟩
  rw [← hn] at e1 hfew hlen
  have HN := Lib.hid hn
  have HLen := Lib.hid hlen
  have HW1 := Lib.hid hW1
  clear h hB1 hX1 hy hn hlen hW1
  go_enter Try.func28, Try.ntmps28
  by_cases hf : 4096 ≤ n
  · have hf' : (4096 : Int) ≤ (n : Int) := by omega
    have HF : Hid (4096 ≤ s.l.length) := Lib.hid (by have := HLen.out; omega)
    have HE : Hid (NT T (fun k => F k ∨ w.heap.size ≤ k) (W1.setCell ⟨p, 3, none⟩ (.int .i64 (s.lost + 1))) p (addS s fr dst b).2 ∧ Moved F w (W1.setCell ⟨p, 3, none⟩ (.int .i64 (s.lost + 1)))) := Lib.hid (by
      unfold addS; rw [if_pos HF.out]
      exact ⟨⟨A, c, vs, (HX1.out.setLost (s.lost + 1) (by omega)).wide (fun k h => .inl h)⟩, (Below.movedNew HB1.out).setCell (.inr HX0.out.inF.1) _⟩)
    clear kbx hz1
    go_wp2_with (rw [← HW1.out])
    go_ret2
    refine ⟨?_, HE.out.1, HE.out.2⟩
    unfold addS; rw [if_pos HF.out]; rfl
  · have hf' : ¬ (4096 : Int) ≤ (n : Int) := by omega
    have HF : Hid (¬ 4096 ≤ s.l.length) := Lib.hid (by have := HLen.out; omega)
    obtain ⟨i0, hinfo, hz0, hzs, hz2⟩ := info_parts (P := Try.prog) (e := 37) (z := .agg #[.int .i64 0, .int .i64 0, .int .i64 0, .slice none 0 0]) (size := 4) (bytes := 48) (by kernel_rfl)
    go_wp2_with (rw [← HW1.out])
    have HX2 := Lib.hid (HX1.out.setLast (s.last + 1) (by omega))
    have HM2 : Hid (Moved F w (W1.setCell ⟨p, 2, none⟩ (.int .i64 (s.last + 1)))) := Lib.hid ((Below.movedNew HB1.out).setCell (.inr HX0.out.inF.1) _)
    have hpne : w.heap.size ≠ p := by omega
    have kb2 : (W1.setCell ⟨p, 2, none⟩ (.int .i64 (s.last + 1))).heap[w.heap.size]? = some (.cells #[.int .i64 i, .int .i64 fr, .int .i64 dst, .slice A0 b.length c0] 37 (0, 0)) := (Below.heap_setCell W1 _ _ w.heap.size hpne).trans kbx
    have HBy2 : Hid (Byt (W1.setCell ⟨p, 2, none⟩ (.int .i64 (s.last + 1))) A0 b) := Lib.hid (byt_setCell (HBy.out.later HB1.out) e2 (fun _ h => nomatch h))
    have HZ2 : Hid ((W1.setCell ⟨p, 2, none⟩ (.int .i64 (s.last + 1))).heap.size = w.heap.size + 1) := Lib.hid (by simpa using hz1)
    obtain ⟨W2, hW2⟩ : ∃ W2, W2 = W1.setCell ⟨p, 2, none⟩ (.int .i64 (s.last + 1)) := ⟨_, rfl⟩
    rw [← hW2] at HX2 HM2 kb2 HBy2 HZ2 ⊢
    clear hW2 kbx e0 e1 e2 e3 f2 f3 hz1 hpW
    have q2 := HX2.out.cells.2.2.1
    have qb : W2.cell? ⟨w.heap.size, 3, none⟩ = some (.slice A0 b.length c0) := cell_of_row _ _ 3 _ _ _ kb2
    have HKb := Lib.hid kb2
    clear kb2
    refine wp_region_heldz_drew (S := (fun V => V.cell? ⟨p, 2, none⟩ = some (.int .i64 (s.last + 1)) ∧ V.cell? ⟨w.heap.size, 3, none⟩ = some (.slice A0 b.length c0))) 10 (by kernel_rfl) ⟨q2, qb⟩ (fun hHeld => ?_)
    refine wpAnyZ_take (i := 0) (v := ?vv1) rfl (by kernel_rfl) (by kernel_rfl) (by kernel_rfl) (fun _ _ _ h => h) (Or.inl ⟨by rfl, ?hy1⟩) hHeld ?rr1
    case hy1 => (intro w' hSw; obtain ⟨s0, s1⟩ := hSw; go_simp; try with_reducible rfl)
    try simp only [Act.put, List.setIfInBounds_toArray, List.set_cons_zero, List.set_cons_succ, List.getElem_toArray, List.getElem_cons_succ, List.getElem_cons_zero]
    refine wpAnyZ_take (i := 1) (v := ?vv2) rfl (by kernel_rfl) (by kernel_rfl) (by kernel_rfl) (fun _ _ _ h => h) (Or.inl ⟨by rfl, ?hy2⟩) hHeld ?rr2
    case hy2 => (intro w' hSw; obtain ⟨s0, s1⟩ := hSw; go_simp; try with_reducible rfl)
    try simp only [Act.put, List.setIfInBounds_toArray, List.set_cons_zero, List.set_cons_succ, List.getElem_toArray, List.getElem_cons_succ, List.getElem_cons_zero]
    refine wpAnyZ_take (i := 2) (v := ?vv3) rfl (by kernel_rfl) (by kernel_rfl) (by kernel_rfl) (fun _ _ _ h => h) (Or.inl ⟨by rfl, ?hy3⟩) hHeld ?rr3
    case hy3 => (intro w' hSw; obtain ⟨s0, s1⟩ := hSw; go_simp; try with_reducible rfl)
    try simp only [Act.put, List.setIfInBounds_toArray, List.set_cons_zero, List.set_cons_succ, List.getElem_toArray, List.getElem_cons_succ, List.getElem_cons_zero]
    refine wpAnyZ_take (i := 3) (v := ?vv4) rfl (by kernel_rfl) (by kernel_rfl) (by kernel_rfl) (fun _ _ _ h => h) (Or.inl ⟨by rfl, ?hy4⟩) hHeld ?rr4
    case hy4 => (intro w' hSw; obtain ⟨s0, s1⟩ := hSw; go_simp; try with_reducible rfl)
    try simp only [Act.put, List.setIfInBounds_toArray, List.set_cons_zero, List.set_cons_succ, List.getElem_toArray, List.getElem_cons_succ, List.getElem_cons_zero]
    refine wpAnyZ_take (i := 4) (v := ?vv5) rfl (by kernel_rfl) (by kernel_rfl) (by kernel_rfl) (fun _ _ _ h => h) (Or.inl ⟨by rfl, ?hy5⟩) hHeld ?rr5
    case hy5 => (intro w' hSw; obtain ⟨s0, s1⟩ := hSw; go_simp; try with_reducible rfl)
    try simp only [Act.put, List.setIfInBounds_toArray, List.set_cons_zero, List.set_cons_succ, List.getElem_toArray, List.getElem_cons_succ, List.getElem_cons_zero]
    refine wpAnyZ_take (i := 5) (v := ?vv6) rfl (by kernel_rfl) (by kernel_rfl) (by kernel_rfl) (fun _ _ _ h => h) (Or.inl ⟨by rfl, ?hy6⟩) hHeld ?rr6
    case hy6 => (intro w' hSw; obtain ⟨s0, s1⟩ := hSw; go_simp; try with_reducible rfl)
    try simp only [Act.put, List.setIfInBounds_toArray, List.set_cons_zero, List.set_cons_succ, List.getElem_toArray, List.getElem_cons_succ, List.getElem_cons_zero]
    refine wpAnyZ_take (i := 7) (v := ?vv7) rfl (by kernel_rfl) (by kernel_rfl) (by kernel_rfl) (fun _ _ _ h => h) (Or.inl ⟨by rfl, ?hy7⟩) hHeld ?rr7
    case hy7 => (intro w' hSw; obtain ⟨s0, s1⟩ := hSw; go_simp; try with_reducible rfl)
    try simp only [Act.put, List.setIfInBounds_toArray, List.set_cons_zero, List.set_cons_succ, List.getElem_toArray, List.getElem_cons_succ, List.getElem_cons_zero]
    refine wpAnyZ_ready (rs := [6]) (by kernel_rfl) (by simp) ?_
    refine AllReadyZ.cons rfl (fun K hK => ?_) AllReadyZ.nil
    try rw [if_pos (by rfl)]
    go_simp
    go_at_call 38
    refine Calls.mono (clone_any A0 b c0 _ (HBy2.out.later (Below.refl _ _).drew) (by omega)) ?_
    rintro e w3 ⟨A3, c3, rfl, hby3, hb3, hl3, hc31, hc32, hown3⟩
    have HB3 : Hid (Below W2.heap.size W2 w3) := Lib.hid ((Below.refl _ _).drew.trans hb3)
    have HX3 := Lib.hid (HX2.out.later HB3.out)
    have kb3 := (HB3.out.block _ (heap_lt HKb.out)).trans HKb.out
    have HO3 := Lib.hid (own_zero hown3)
    have HL3 := Lib.hid hl3
    have kc3 := (cells_of_heap kb3).1
    have kf3 := (cells_of_heap kb3).2
    have HK3 := Lib.hid kb3
    have p3 := HX3.out.cells.2.2.1
    have x3 : w3.cell? ⟨w.heap.size, 3, none⟩ = some (.slice A0 b.length c0) := kc3 3
    have x0 : w3.cell? ⟨w.heap.size, 0, none⟩ = some (.int .i64 i) := kc3 0
    have y0 := kf3 0
    have y3 := kf3 3
    clear hby3 hb3 hl3 hc31 hc32 hown3 kb3 kc3 kf3
    go_wp2_with fail
    refine hK.out _ _ ⟨p3, x3⟩ (fun hHeld2 => ?_)
    clear hK K hHeld
    have hHeld := hHeld2
    clear hHeld2
    try simp only [Act.put, List.setIfInBounds_toArray, List.set_cons_zero, List.set_cons_succ, List.getElem_toArray, List.getElem_cons_succ, List.getElem_cons_zero]
    refine wpAnyZ_ready (rs := [8]) (by kernel_rfl) (by simp) ?_
    refine AllReadyZ.cons rfl (fun K hK => ?_) AllReadyZ.nil
    try rw [if_pos (by rfl)]
    go_simp
    have p4 : (w3.setCell ⟨w.heap.size, 0, none⟩ (.int .i64 (s.last + 1))).cell? ⟨p, 2, none⟩ = some (.int .i64 (s.last + 1)) := (World.cell?_setCell_other w3 _ _ _ (by intro e; injection e with e _ _; exact hpne e)).trans p3
    have x4 : (w3.setCell ⟨w.heap.size, 0, none⟩ (.int .i64 (s.last + 1))).cell? ⟨w.heap.size, 3, none⟩ = some (.slice A0 b.length c0) := (World.cell?_setCell_other w3 _ _ _ (by intro e; injection e with _ e _; cases e)).trans x3
    refine hK.out _ _ ⟨p4, x4⟩ (fun hHeld2 => ?_)
    clear hK K hHeld
    have hHeld := hHeld2
    clear hHeld2
    try simp only [Act.put, List.setIfInBounds_toArray, List.set_cons_zero, List.set_cons_succ, List.getElem_toArray, List.getElem_cons_succ, List.getElem_cons_zero]
    refine wpAnyZ_take (i := 9) (v := ?vv8) rfl (by kernel_rfl) (by kernel_rfl) (by kernel_rfl) (fun _ _ _ h => h) (Or.inl ⟨by rfl, ?hy8⟩) hHeld ?rr8
    case hy8 => (intro w' hSw; obtain ⟨s0, s1⟩ := hSw; go_simp; try with_reducible rfl)
    try simp only [Act.put, List.setIfInBounds_toArray, List.set_cons_zero, List.set_cons_succ, List.getElem_toArray, List.getElem_cons_succ, List.getElem_cons_zero]
    refine wpAnyZ_ready (rs := [10]) (by kernel_rfl) (by simp) ?_
    refine AllReadyZ.last rfl (fun K hK => ?_)
    try rw [if_pos (by rfl)]
    go_simp
    refine hK.out _ _ ?_
    clear hK K hHeld
    try simp only [Act.put, List.setIfInBounds_toArray, List.set_cons_zero, List.set_cons_succ, List.getElem_toArray, List.getElem_cons_succ, List.getElem_cons_zero]
    refine wpAnyZ_done (by kernel_rfl) ?_ _
    have HM5 : Hid (Moved F w ((w3.setCell ⟨w.heap.size, 0, none⟩ (.int .i64 (s.last + 1))).setCell ⟨w.heap.size, 3, none⟩ (.slice A3 b.length c3))) := Lib.hid (((HM2.out.trans (q := fun _ => False) (Below.movedNew HB3.out) (fun _ _ h => h.elim)).setCell (.inl (Nat.le_refl _)) _).setCell (.inl (Nat.le_refl _)) _)
    have HKp : Hid (Moved (fun k => k = w.heap.size) w3 ((w3.setCell ⟨w.heap.size, 0, none⟩ (.int .i64 (s.last + 1))).setCell ⟨w.heap.size, 3, none⟩ (.slice A3 b.length c3))) := Lib.hid (((Moved.refl (fun k => k = w.heap.size) w3).setCell (.inr rfl) _).setCell (.inr rfl) _)
    have kb5 : ((w3.setCell ⟨w.heap.size, 0, none⟩ (.int .i64 (s.last + 1))).setCell ⟨w.heap.size, 3, none⟩ (.slice A3 b.length c3)).heap[w.heap.size]? = some (.cells #[.int .i64 (s.last + 1), .int .i64 fr, .int .i64 dst, .slice A3 b.length c3] 37 (0, 0)) := by rw [heap_set (heap_set HK3.out 0 _) 3 _]; rfl
    have HX5 : Hid (NetX T ((w3.setCell ⟨w.heap.size, 0, none⟩ (.int .i64 (s.last + 1))).setCell ⟨w.heap.size, 3, none⟩ (.slice A3 b.length c3)) (fun k => F k ∧ k < w.heap.size) p { s with last := s.last + 1 } A c vs) := Lib.hid ((HX3.out.tightTo HX0.out).kept HKp.out (fun k hk e => by omega))
    have HZ5 : Hid (w.heap.size + 1 ≤ ((w3.setCell ⟨w.heap.size, 0, none⟩ (.int .i64 (s.last + 1))).setCell ⟨w.heap.size, 3, none⟩ (.slice A3 b.length c3)).heap.size) := Lib.hid (by have := HB3.out.size; have := HZ2.out; simp; omega)
    have HO5 := Lib.hid (own_moved HO3.out HKp.out (fun k hk e => by have := HL3.out k hk; have := HZ2.out; have hdd : W2.drew.heap.size = W2.heap.size := rfl; omega))
    obtain ⟨W5, hW5⟩ : ∃ W5, W5 = (w3.setCell ⟨w.heap.size, 0, none⟩ (.int .i64 (s.last + 1))).setCell ⟨w.heap.size, 3, none⟩ (.slice A3 b.length c3) := ⟨_, rfl⟩
    have HLw : Hid (∀ k, (Value.slice A3 b.length c3).ownBlock = some k → w.heap.size ≤ k) := Lib.hid (fun k hk => by have := HL3.out k hk; have := HZ2.out; have hdd : W2.drew.heap.size = W2.heap.size := rfl; omega)
    rw [← hW5] at HM5 kb5 HX5 HZ5 HO5 ⊢
    clear hW5 q2 qb p3 x3 x0 y0 y3 p4 x4 HX2 HM2 HBy2 HX3 HO3 HL3 HK3 HKp HB3 HKb HBy
    have c51 := HX5.out.cells.2.1
    rw [← HN.out] at c51
    have HXd := Lib.hid (fun V (hV : Below W5.heap.size W5 V) => HX5.out.later hV)
    have kc5 := (cells_of_heap kb5).1
    have v0 : W5.cell? ⟨w.heap.size, 0, none⟩ = some (.int .i64 (s.last + 1)) := kc5 0
    have v1 : W5.cell? ⟨w.heap.size, 1, none⟩ = some (.int .i64 fr) := kc5 1
    have v2 : W5.cell? ⟨w.heap.size, 2, none⟩ = some (.int .i64 dst) := kc5 2
    have v3 : W5.cell? ⟨w.heap.size, 3, none⟩ = some (.slice A3 b.length c3) := kc5 3
    have hwz : w.heap.size < W5.heap.size := by have := HZ5.out; omega
    have HWz := Lib.hid hwz
    clear kc5
    go_wp2_with fail
    refine wp_region_heldz_drew (S := (fun V => V.cell? ⟨p, 1, none⟩ = some (.slice A n c) ∧ V.cell? ⟨w.heap.size, 0, none⟩ = some (.int .i64 (s.last + 1)) ∧ V.cell? ⟨w.heap.size, 1, none⟩ = some (.int .i64 fr) ∧ V.cell? ⟨w.heap.size, 2, none⟩ = some (.int .i64 dst) ∧ V.cell? ⟨w.heap.size, 3, none⟩ = some (.slice A3 b.length c3))) 10 (by kernel_rfl) ⟨c51, v0, v1, v2, v3⟩ (fun hHeld => ?_)
    refine wpAnyZ_take (i := 0) (v := ?vv9) rfl (by kernel_rfl) (by kernel_rfl) (by kernel_rfl) (fun _ _ _ h => h) (Or.inl ⟨by rfl, ?hy9⟩) hHeld ?rr9
    case hy9 => (intro w' hSw; obtain ⟨s0, s1, s2, s3, s4⟩ := hSw; go_simp; try with_reducible rfl)
    try simp only [Act.put, List.setIfInBounds_toArray, List.set_cons_zero, List.set_cons_succ, List.getElem_toArray, List.getElem_cons_succ, List.getElem_cons_zero]
    refine wpAnyZ_take (i := 1) (v := ?vv10) rfl (by kernel_rfl) (by kernel_rfl) (by kernel_rfl) (fun _ _ _ h => h) (Or.inl ⟨by rfl, ?hy10⟩) hHeld ?rr10
    case hy10 => (intro w' hSw; obtain ⟨s0, s1, s2, s3, s4⟩ := hSw; go_simp; try with_reducible rfl)
    try simp only [Act.put, List.setIfInBounds_toArray, List.set_cons_zero, List.set_cons_succ, List.getElem_toArray, List.getElem_cons_succ, List.getElem_cons_zero]
    refine wpAnyZ_take (i := 2) (v := ?vv11) rfl (by kernel_rfl) (by kernel_rfl) (by kernel_rfl) (fun _ _ _ h => h) (Or.inl ⟨by rfl, ?hy11⟩) hHeld ?rr11
    case hy11 => (intro w' hSw; obtain ⟨s0, s1, s2, s3, s4⟩ := hSw; go_simp; try with_reducible rfl)
    try simp only [Act.put, List.setIfInBounds_toArray, List.set_cons_zero, List.set_cons_succ, List.getElem_toArray, List.getElem_cons_succ, List.getElem_cons_zero]
    refine wpAnyZ_take (i := 3) (v := ?vv12) rfl (by kernel_rfl) (by kernel_rfl) (by kernel_rfl) (fun _ _ _ h => h) (Or.inl ⟨by rfl, ?hy12⟩) hHeld ?rr12
    case hy12 => (intro w' hSw; obtain ⟨s0, s1, s2, s3, s4⟩ := hSw; go_simp; try with_reducible rfl)
    try simp only [Act.put, List.setIfInBounds_toArray, List.set_cons_zero, List.set_cons_succ, List.getElem_toArray, List.getElem_cons_succ, List.getElem_cons_zero]
    refine wpAnyZ_take (i := 4) (v := ?vv13) rfl (by kernel_rfl) (by kernel_rfl) (by kernel_rfl) (fun _ _ _ h => h) (Or.inl ⟨by rfl, ?hy13⟩) hHeld ?rr13
    case hy13 => (intro w' hSw; obtain ⟨s0, s1, s2, s3, s4⟩ := hSw; go_simp; try with_reducible rfl)
    try simp only [Act.put, List.setIfInBounds_toArray, List.set_cons_zero, List.set_cons_succ, List.getElem_toArray, List.getElem_cons_succ, List.getElem_cons_zero]
    refine wpAnyZ_take (i := 5) (v := ?vv14) rfl (by kernel_rfl) (by kernel_rfl) (by kernel_rfl) (fun _ _ _ h => h) (Or.inl ⟨by rfl, ?hy14⟩) hHeld ?rr14
    case hy14 => (intro w' hSw; obtain ⟨s0, s1, s2, s3, s4⟩ := hSw; go_simp; try with_reducible rfl)
    try simp only [Act.put, List.setIfInBounds_toArray, List.set_cons_zero, List.set_cons_succ, List.getElem_toArray, List.getElem_cons_succ, List.getElem_cons_zero]
    refine wpAnyZ_ready (rs := [6]) (by kernel_rfl) (by simp) ?_
    refine AllReadyZ.cons rfl (fun K hK => ?_) AllReadyZ.nil
    try rw [if_pos (by rfl)]
    go_simp
    refine hK.out _ _ ⟨cell_old _ c51, cell_old _ v0, cell_old _ v1, cell_old _ v2, cell_old _ v3⟩ (fun hHeld2 => ?_)
    clear hK K hHeld
    have hHeld := hHeld2
    clear hHeld2
    try simp only [Act.put, List.setIfInBounds_toArray, List.set_cons_zero, List.set_cons_succ, List.getElem_toArray, List.getElem_cons_succ, List.getElem_cons_zero]
    have HB6 : Hid (Below W5.heap.size W5 (W5.alloc (.cells #[.int .i64 (s.last + 1), .int .i64 fr, .int .i64 dst, .slice A3 b.length c3] 37)).drew) := Lib.hid (below_alloc _ _).drew
    have HX6 := Lib.hid (HXd.out _ HB6.out)
    refine wpAnyZ_ready (rs := [7]) (by kernel_rfl) (by simp) ?_
    refine AllReadyZ.cons rfl (fun K hK => ?_) AllReadyZ.nil
    try rw [if_pos (by rfl)]
    refine oper_append_k _ (.tmp 39) (.tmp 41) 48 rfl 37 i0 (.agg #[.int .i64 0, .int .i64 0, .int .i64 0, .slice none 0 0]) 4 48 Try.underlying48 hinfo hz0 hzs hz2 rfl (by decide) 0 _ n (cellsP vs) rfl (by rw [HN.out]; exact HX6.out.row) (some ⟨W5.heap.size, 0, none⟩) 1 1 [.int .i64 (s.last + 1), .int .i64 fr, .int .i64 dst, .slice A3 b.length c3] rfl rfl (fun _ => ⟨_, rfl, cells_of_block (heap_new W5 (.cells #[.int .i64 (s.last + 1), .int .i64 fr, .int .i64 dst, .slice A3 b.length c3] 37))⟩) (fun u hu => by simp at hu; rcases hu with rfl | rfl | rfl | rfl <;> rfl) (by unfold maxLen; omega) (by omega) (Nat.zero_le _) ?_
    intro A7 c7 w7 hown7 hgrow7 hwh7
    have HE : Hid (NT T (fun k => F k ∨ w.heap.size ≤ k) (w7.setCell ⟨p, 1, none⟩ (.slice A7 (n + 1) c7)) p (addS s fr dst b).2 ∧ Moved F w (w7.setCell ⟨p, 1, none⟩ (.slice A7 (n + 1) c7))) := Lib.hid (by
      have hwz6 : W5.heap.size ≤ (W5.alloc (.cells #[.int .i64 (s.last + 1), .int .i64 fr, .int .i64 dst, .slice A3 b.length c3] 37)).drew.heap.size := HB6.out.size
      rw [HN.out] at hown7 hgrow7 hwh7 ⊢
      refine ⟨add_end HX6.out HX0.out.good HF.out hb ⟨own_moved (p := fun _ => False) HO5.out (Below.movedNew HB6.out) (fun _ _ h => h), fun k hk => .inr (HLw.out k hk)⟩ (fun k hk => .inl hk.1) (fun k hk => .inr (by omega)) hown7 hgrow7 hwh7, ?_⟩
      exact (((HM5.out.trans (q := fun _ => False) (Below.movedNew HB6.out) (fun _ _ h => h.elim)).grown hgrow7 (fun k _ e => (HX6.out.inF.2 k e).1)).setCell (.inr HX0.out.inF.1) _))
    have hx7 : w7.heap[p]? = some (.cells #[.int .i64 s.places, .slice A vs.length c, .int .i64 (s.last + 1), .int .i64 s.lost] T (0, 0)) := (hgrow7.block p HX6.out.lt (fun e => own_ne (by have := HX6.out.row; rw [← HN.out] at this; exact this) HX6.out.self (Ne.symm HX6.out.ty.1) e.symm)).trans HX6.out.self
    have k71 : w7.cell? ⟨p, 1, none⟩ = some (.slice A n c) := by rw [HN.out]; exact cell_of_row _ _ 1 _ _ _ hx7
    have f71 : w7.frozen? ⟨p, 1, none⟩ = false := (cells_of_heap hx7).2 1
    have kb7 : w7.heap[w.heap.size]? = some (.cells #[.int .i64 (s.last + 1), .int .i64 fr, .int .i64 dst, .slice A3 b.length c3] 37 (0, 0)) := (hgrow7.block _ (by have := HB6.out.size; have := HWz.out; omega) (fun e => by have := (HX6.out.inF.2 _ (by rw [← HN.out]; exact e.symm)).2; omega)).trans (HB6.out.block _ HWz.out |>.trans kb5)
    have kc7 := (cells_of_heap kb7).1
    have j0 : w7.cell? ⟨w.heap.size, 0, none⟩ = some (.int .i64 (s.last + 1)) := kc7 0
    have j1 : w7.cell? ⟨w.heap.size, 1, none⟩ = some (.int .i64 fr) := kc7 1
    have j2 : w7.cell? ⟨w.heap.size, 2, none⟩ = some (.int .i64 dst) := kc7 2
    have j3 : w7.cell? ⟨w.heap.size, 3, none⟩ = some (.slice A3 b.length c3) := kc7 3
    clear hown7 hgrow7 hwh7 hx7 kb7 kc7
    refine hK.out _ _ ⟨k71, j0, j1, j2, j3⟩ (fun hHeld2 => ?_)
    clear hK K hHeld
    have hHeld := hHeld2
    clear hHeld2
    try simp only [Act.put, List.setIfInBounds_toArray, List.set_cons_zero, List.set_cons_succ, List.getElem_toArray, List.getElem_cons_succ, List.getElem_cons_zero]
    refine wpAnyZ_ready (rs := [8]) (by kernel_rfl) (by simp) ?_
    refine AllReadyZ.cons rfl (fun K hK => ?_) AllReadyZ.nil
    try rw [if_pos (by rfl)]
    go_simp
    refine hK.out _ _ ⟨k71, j0, j1, j2, j3⟩ (fun hHeld2 => ?_)
    clear hK K hHeld
    have hHeld := hHeld2
    clear hHeld2
    try simp only [Act.put, List.setIfInBounds_toArray, List.set_cons_zero, List.set_cons_succ, List.getElem_toArray, List.getElem_cons_succ, List.getElem_cons_zero]
    refine wpAnyZ_take (i := 9) (v := ?vv15) rfl (by kernel_rfl) (by kernel_rfl) (by kernel_rfl) (fun _ _ _ h => h) (Or.inl ⟨by rfl, ?hy15⟩) hHeld ?rr15
    case hy15 => (intro w' hSw; obtain ⟨s0, s1, s2, s3, s4⟩ := hSw; go_simp; try with_reducible rfl)
    try simp only [Act.put, List.setIfInBounds_toArray, List.set_cons_zero, List.set_cons_succ, List.getElem_toArray, List.getElem_cons_succ, List.getElem_cons_zero]
    refine wpAnyZ_ready (rs := [10]) (by kernel_rfl) (by simp) ?_
    refine AllReadyZ.last rfl (fun K hK => ?_)
    try rw [if_pos (by rfl)]
    go_simp
    refine hK.out _ _ ?_
    clear hK K hHeld
    try simp only [Act.put, List.setIfInBounds_toArray, List.set_cons_zero, List.set_cons_succ, List.getElem_toArray, List.getElem_cons_succ, List.getElem_cons_zero]
    refine wpAnyZ_done (by kernel_rfl) ?_ _
    have hpne2 : ¬ p = w.heap.size := by omega
    go_wp2
    go_ret2
    refine ⟨?_, HE.out.1, HE.out.2⟩
    unfold addS; rw [if_neg HF.out]; rfl
end
end Go.Proofs.Ytbmadhmcnjcdfaa
