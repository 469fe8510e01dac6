/- The reference's net: Take, Drop. -/
import Derived.Test.YtbmadhmcnjcdfaaNetR1
set_option linter.unusedSimpArgs false
set_option linter.unusedVariables false
namespace Go.Proofs.Ytbmadhmcnjcdfaa
open Go.ChangeShapes Go.WideShapes Go.ChangeAt Go.RowKit Go.Base Go.Net

section
variable {T : TypeId} {F G : Nat → Prop} {w w1 w' V : World} {p : Nat} {s : St} {A : Option Addr} {c n : Nat} {vs : List PkV} {x : PkV}
theorem src_take {b g : Nat} (h : V.ownsRow b 37 4 (.slice (some ⟨g, 0, none⟩) vs.length c) vs.length (cellsP vs)) {k : Nat} (hk : k ≤ vs.length) : ∀ j u, (cellsP (vs.take k))[j]? = some u → V.cell? ((⟨g, 0, none⟩ : Addr).add j) = some u := fun j u hu => by
  have hj : j < k * 4 := by
    have h1 := (List.getElem?_eq_some_iff.1 hu).1
    rw [cellsP_len, List.length_take] at h1; omega
  obtain ⟨g', e, hc⟩ := own_cell h rfl j (by omega)
  injection e with e; injection e with e; subst e
  rw [← cellsP_take _ _ hk, List.getElem?_take_of_lt hj] at hu
  rw [show (⟨g, 0, none⟩ : Addr).add j = ⟨g, j, none⟩ by unfold Addr.add; split <;> simp_all]
  exact hc.trans hu
theorem src_drop {b g : Nat} (h : V.ownsRow b 37 4 (.slice (some ⟨g, 0, none⟩) vs.length c) vs.length (cellsP vs)) {k : Nat} (hk : k ≤ vs.length) : ∀ j u, (cellsP (vs.drop k))[j]? = some u → V.cell? ((⟨g, k * 4, none⟩ : Addr).add j) = some u := fun j u hu => by
  have hj : k * 4 + j < vs.length * 4 := by
    have h1 := (List.getElem?_eq_some_iff.1 hu).1
    rw [cellsP_len, List.length_drop] at h1; omega
  obtain ⟨g', e, hc⟩ := own_cell h rfl (k * 4 + j) hj
  injection e with e; injection e with e; subst e
  rw [← cellsP_drop _ _ hk, List.getElem?_drop] at hu
  rw [show (⟨g, k * 4, none⟩ : Addr).add j = ⟨g, k * 4 + j, none⟩ by unfold Addr.add; split <;> simp_all]
  exact hc.trans hu
set_option maxHeartbeats 8000000 in
set_option maxRecDepth 20000 in
theorem rtake_any (h : NetX T w F p s A c vs) (i : Int) : Calls Try.prog 13 #[.pointer (some ⟨p, 0, none⟩), .int .i64 i] w (fun e w' => Moved (fun j => j = p) w w' ∧ TakePost T F p s i w e w') := by
  have HB0 := Lib.hid (below_alloc w (.cells #[.int .i64 0, .int .i64 0, .int .i64 0, .slice none 0 0] 37))
  obtain ⟨W0, hW0⟩ : ∃ W0, W0 = w.alloc (.cells #[.int .i64 0, .int .i64 0, .int .i64 0, .slice none 0 0] 37) := ⟨_, rfl⟩
  have k0 : W0.heap[w.heap.size]? = some (.cells #[.int .i64 0, .int .i64 0, .int .i64 0, .slice none 0 0] 37 (0, 0)) := by rw [hW0]; exact heap_new w _
  rw [← hW0] at HB0
  have HK0 := Lib.hid k0
  have HW0 := Lib.hid hW0
  have h0 := h.later HB0.out
  have HFd := Lib.hid (rfind_any h0 i)
  have HX := Lib.hid h
  have hlen := h.len
  have hfew := h.few
  by_cases hI : idx s.l i < s.l.length
  · clear hW0 k0
    obtain ⟨k, hk⟩ : ∃ k, k = idx s.l i := ⟨_, rfl⟩
    have HR : Hid (RFind s i = (k : Int)) := Lib.hid (by unfold RFind; rw [if_pos hI, hk])
    rw [HR.out] at HFd
    have hI2 : k < s.l.length := by rw [hk]; exact hI
    have hkv : k < vs.length := by omega
    have he : vs[k].p = s.l[k] := by simp only [← h.is, List.getElem_map]
    have hEz : s.l[idx s.l i]? = some vs[k].p := by rw [he]; subst hk; exact List.getElem?_eq_getElem hI
    obtain ⟨g, rfl, r0, r1, r2, r3⟩ := rowP_at h0.row hkv
    obtain ⟨c0, c1, c2, c3⟩ := h0.cells
    obtain ⟨z, hz⟩ : ∃ z, z = vs[k] := ⟨_, rfl⟩
    rw [← hz] at r0 r1 r2 r3 hEz
    simp only [PkV.val] at r3
    have HEz := Lib.hid hEz
    -- the packet's own copy
    obtain ⟨W1, hW1⟩ : ∃ W1, W1 = W0.alloc (.cells #[.int .i64 z.p.id, .int .i64 z.p.fr, .int .i64 z.p.dst, .slice z.A z.p.body.length z.c] 37) := ⟨_, rfl⟩
    have hb1 : Below W0.heap.size W0 W1 := by rw [hW1]; exact below_alloc _ _
    have kb1 : W1.heap[W0.heap.size]? = some (.cells #[.int .i64 z.p.id, .int .i64 z.p.fr, .int .i64 z.p.dst, .slice z.A z.p.body.length z.c] 37 (0, 0)) := by rw [hW1]; exact heap_new W0 _
    have kb0 := (hb1.block _ (heap_lt HK0.out)).trans HK0.out
    have hB1 : Below w.heap.size w W1 := HB0.out.trans (hb1.mono HB0.out.size)
    have h1 := h.later hB1
    have HW1 := Lib.hid hW1
    have HB1 := Lib.hid hB1
    have l01 : w.heap.size < W0.heap.size := heap_lt HK0.out
    have lp : p < w.heap.size := h.lt
    have lW1 : W0.heap.size < W1.heap.size := heap_lt kb1
    obtain ⟨n, hn⟩ : ∃ n, n = vs.length := ⟨_, rfl⟩
    have HN := Lib.hid hn
    have hcn : n ≤ c ∧ c ≤ maxLen := by rw [hn]; exact rowP_cap h.row
    have HEnd : Hid (∀ (V : World) (A5 : Option Addr) (m d5 : Nat), m = n - 1 → Below W1.heap.size W1 V → V.ownsRow W1.heap.size 37 4 (.slice A5 m d5) m (cellsP (vs.take k) ++ cellsP (vs.drop (k + 1))) →
        NT T (fun j => (F j ∧ j < w.heap.size) ∨ W1.heap.size ≤ j) (V.setCell ⟨p, 1, none⟩ (.slice A5 m d5)) p (takeS s i) ∧ Moved (fun j => j = p) w (V.setCell ⟨p, 1, none⟩ (.slice A5 m d5)) ∧
        (V.setCell ⟨p, 1, none⟩ (.slice A5 m d5)).heap[w.heap.size]? = some (.cells #[.int .i64 0, .int .i64 0, .int .i64 0, .slice none 0 0] 37 (0, 0)) ∧
        (V.setCell ⟨p, 1, none⟩ (.slice A5 m d5)).heap[W0.heap.size]? = some (.cells #[.int .i64 z.p.id, .int .i64 z.p.fr, .int .i64 z.p.dst, .slice z.A z.p.body.length z.c] 37 (0, 0)) ∧
        Byt (V.setCell ⟨p, 1, none⟩ (.slice A5 m d5)) z.A z.p.body) := Lib.hid (fun V A5 m d5 hm hV hr => by
      have hVx := (h1.later hV).tightTo h
      have hl : (vs.eraseIdx k).length = m := by rw [List.length_eraseIdx_of_lt hkv, hm, hn]
      have er : cellsP (vs.take k) ++ cellsP (vs.drop (k + 1)) = cellsP (vs.eraseIdx k) := by rw [← cellsP_append, List.eraseIdx_eq_take_drop_succ]
      rw [er] at hr
      refine ⟨⟨A5, d5, vs.eraseIdx k, ⟨good_take h.good i, ?_, ?_, ?_, ⟨.inl hVx.inF.1, fun j hj => .inr ?_⟩, fun x hx => ?_, hVx.ty⟩⟩, Moved.setCell (p := fun j => j = p) ((Below.movedNew HB1.out).trans (q := fun _ => False) (Below.movedNew hV) (fun _ _ h => h.elim)) (.inr (rfl : p = p)) _, ?_, ?_, ?_⟩
      · show (vs.eraseIdx k).map (·.p) = s.l.eraseIdx (idx s.l i)
        rw [← hk, map_eraseIdx, h.is]
      · rw [heap_set hVx.self 1 _, hl]; rfl
      · rw [hl]; exact own_setSelf (own_zero hr) hVx.self hVx.ty.1 _
      · rw [hl] at hj; exact (hr.lt j hj).1
      · exact ((hVx.bod x ((List.eraseIdx_sublist ..).subset hx)).wide (fun k hk => .inl hk)).setSelf hVx.self hVx.ty.2 _
      · exact (Below.heap_setCell V _ _ w.heap.size (by show ¬ w.heap.size = p; omega)).trans ((hV.block _ (heap_lt kb0)).trans kb0)
      · exact (Below.heap_setCell V _ _ W0.heap.size (by show ¬ W0.heap.size = p; omega)).trans ((hV.block _ (heap_lt kb1)).trans kb1)
      · exact byt_setCell (hVx.bod z (by rw [hz]; exact List.getElem_mem _)).byt (cell_of_row _ _ 1 _ _ _ hVx.self) (fun _ h => nomatch h))
    have HSt : Hid (∀ V, Below W1.heap.size W1 V → V.cell? ⟨p, 1, none⟩ = some (.slice (some ⟨g, 0, none⟩) n c) ∧ V.frozen? ⟨p, 1, none⟩ = false) := Lib.hid (fun V hV => by
      have hx := h1.later hV
      exact ⟨by rw [hn]; exact hx.cells.2.1, hx.free 1⟩)
    have HS1 : Hid (∀ V, Below W1.heap.size W1 V → 0 < k → ∃ ad, (some ⟨g, 0, none⟩ : Option Addr) = some ad ∧ ∀ j u, (cellsP (vs.take k))[j]? = some u → V.cell? (ad.add j) = some u) := Lib.hid (fun V hV _ => ⟨_, rfl, src_take (h1.later hV).row (by omega)⟩)
    have HS2 : Hid (∀ V, Below W1.heap.size W1 V → 0 < n - (k + 1) → ∃ ad, (some ⟨g, (k + 1) * 4, none⟩ : Option Addr) = some ad ∧ ∀ j u, (cellsP (vs.drop (k + 1)))[j]? = some u → V.cell? (ad.add j) = some u) := Lib.hid (fun V hV _ => ⟨_, rfl, src_drop (h1.later hV).row (by omega)⟩)
    have HL1 : Hid ((cellsP (vs.take k)).length = k * 4) := Lib.hid (by rw [cellsP_len, List.length_take, Nat.min_eq_left (by omega)])
    have HL2 : Hid ((cellsP (vs.drop (k + 1))).length = (n - (k + 1)) * 4) := Lib.hid (by rw [cellsP_len, List.length_drop, ← hn])
    have HO1 : Hid ((W1.alloc (.cells #[] 37)).drew.ownsRow W1.heap.size 37 4 (.slice (some ⟨W1.heap.size, 0, none⟩) 0 0) 0 []) := Lib.hid (World.ownsRow_made W1 #[] 0 (Nat.le_refl _) (Nat.zero_le _) rfl)
    have HBa : Hid (Below W1.heap.size W1 (W1.alloc (.cells #[] 37)).drew) := Lib.hid (below_alloc _ _).drew
    have HI := Lib.hid hI
    obtain ⟨i0, hinfo, hz0, hz1, hz2⟩ := info_parts (P := Try.prog) (e := 37) (z := zPk) (size := 4) (bytes := 48) (by kernel_rfl)
    have hkn : (k : Int) < (n : Int) := by omega
    have hkz : (0 : Int) ≤ (k : Int) := by omega
    have hk00 : ¬ (k : Int) < 0 := by omega
    have hkc : k ≤ c := by omega
    have hkc2 : (k : Int) ≤ (c : Int) := by omega
    have hkn1 : k + 1 ≤ n := by omega
    have hkn2 : (k : Int) + 1 ≤ (n : Int) := by omega
    have hkb : (k : Int) ≤ 65536 := by omega
    have hlW : W0.heap.size < W1.heap.size := lW1
    rw [← hn] at c1 hfew
    have HL := Lib.hid (show p < w.heap.size ∧ w.heap.size < W0.heap.size ∧ W0.heap.size < W1.heap.size from ⟨lp, l01, lW1⟩)
    clear h h0 h1 hI hI2 hlen he hEz hk hz hkv hn hW1 hb1 kb1 kb0 hB1 l01 lp lW1
    go_enter Try.func13, Try.ntmps13
    go_wp2_with (first
      | rw [← HW0.out]
      | rw [← HW1.out]
      | (go_at_call 33; refine Calls.mono HFd.out ?_; rintro e w1 ⟨rfl, rfl⟩))
    clear c0 c1 c2 c3 r0 r1 r2 r3
    by_cases hc1 : c = k + 1
    · obtain rfl : n = k + 1 := by omega
      subst hc1
      have hka : (k : Int) ≤ (k : Int) + 1 := by omega
      have hkw : IntKind.i64.wrap ((k : Int) + 1) = (k : Int) + 1 := by rw [IntKind.wrap_i64]; omega
      have hkp : (0 : Int) ≤ (k : Int) + 1 := by omega
      have hkt : ((k : Int) + 1).toNat = k + 1 := by omega
      refine wp_region_heldz_drew (S := (fun V => Below W1.heap.size W1 V)) 19 (by kernel_rfl) (Below.refl _ _).drew (fun hHeld => ?_)
      refine wpAnyZ_take (i := 0) (v := ?vv1) rfl (by kernel_rfl) (by kernel_rfl) (by kernel_rfl) (fun _ _ _ h => h) (Or.inl ⟨by rfl, ?hy1⟩) hHeld ?rr1
      case hy1 => (intro w' hSw; obtain ⟨g0, g1⟩ := HSt.out _ hSw; go_simp; try with_reducible rfl)
      try simp only [Act.put, List.setIfInBounds_toArray, List.set_cons_zero, List.set_cons_succ, List.getElem_toArray, List.getElem_cons_succ, List.getElem_cons_zero]
      refine wpAnyZ_take (i := 2) (v := ?vv2) rfl (by kernel_rfl) (by kernel_rfl) (by kernel_rfl) (fun _ _ _ h => h) (Or.inl ⟨by rfl, ?hy2⟩) hHeld ?rr2
      case hy2 => (intro w' hSw; obtain ⟨g0, g1⟩ := HSt.out _ hSw; go_simp; try with_reducible rfl)
      try simp only [Act.put, List.setIfInBounds_toArray, List.set_cons_zero, List.set_cons_succ, List.getElem_toArray, List.getElem_cons_succ, List.getElem_cons_zero]
      refine wpAnyZ_take (i := 3) (v := ?vv3) rfl (by kernel_rfl) (by kernel_rfl) (by kernel_rfl) (fun _ _ _ h => h) (Or.inl ⟨by rfl, ?hy3⟩) hHeld ?rr3
      case hy3 => (intro w' hSw; obtain ⟨g0, g1⟩ := HSt.out _ hSw; go_simp; try with_reducible rfl)
      try simp only [Act.put, List.setIfInBounds_toArray, List.set_cons_zero, List.set_cons_succ, List.getElem_toArray, List.getElem_cons_succ, List.getElem_cons_zero]
      refine wpAnyZ_take (i := 4) (v := ?vv4) rfl (by kernel_rfl) (by kernel_rfl) (by kernel_rfl) (fun _ _ _ h => h) (Or.inl ⟨by rfl, ?hy4⟩) hHeld ?rr4
      case hy4 => (intro w' hSw; obtain ⟨g0, g1⟩ := HSt.out _ hSw; go_simp; try with_reducible rfl)
      try simp only [Act.put, List.setIfInBounds_toArray, List.set_cons_zero, List.set_cons_succ, List.getElem_toArray, List.getElem_cons_succ, List.getElem_cons_zero]
      refine wpAnyZ_take (i := 5) (v := ?vv5) rfl (by kernel_rfl) (by kernel_rfl) (by kernel_rfl) (fun _ _ _ h => h) (Or.inl ⟨by rfl, ?hy5⟩) hHeld ?rr5
      case hy5 => (intro w' hSw; obtain ⟨g0, g1⟩ := HSt.out _ hSw; go_simp; try with_reducible rfl)
      try simp only [Act.put, List.setIfInBounds_toArray, List.set_cons_zero, List.set_cons_succ, List.getElem_toArray, List.getElem_cons_succ, List.getElem_cons_zero]
      refine wpAnyZ_take (i := 6) (v := ?vv6) rfl (by kernel_rfl) (by kernel_rfl) (by kernel_rfl) (fun _ _ _ h => h) (Or.inl ⟨by rfl, ?hy6⟩) hHeld ?rr6
      case hy6 => (intro w' hSw; obtain ⟨g0, g1⟩ := HSt.out _ hSw; go_simp; try with_reducible rfl)
      try simp only [Act.put, List.setIfInBounds_toArray, List.set_cons_zero, List.set_cons_succ, List.getElem_toArray, List.getElem_cons_succ, List.getElem_cons_zero]
      refine wpAnyZ_take (i := 7) (v := ?vv7) rfl (by kernel_rfl) (by kernel_rfl) (by kernel_rfl) (fun _ _ _ h => h) (Or.inl ⟨by rfl, ?hy7⟩) hHeld ?rr7
      case hy7 => (intro w' hSw; obtain ⟨g0, g1⟩ := HSt.out _ hSw; go_simp; try with_reducible rfl)
      try simp only [Act.put, List.setIfInBounds_toArray, List.set_cons_zero, List.set_cons_succ, List.getElem_toArray, List.getElem_cons_succ, List.getElem_cons_zero]
      refine wpAnyZ_take (i := 9) (v := ?vv8) rfl (by kernel_rfl) (by kernel_rfl) (by kernel_rfl) (fun _ _ _ h => h) (Or.inl ⟨by rfl, ?hy8⟩) hHeld ?rr8
      case hy8 => (intro w' hSw; obtain ⟨g0, g1⟩ := HSt.out _ hSw; go_simp; try with_reducible rfl)
      try simp only [Act.put, List.setIfInBounds_toArray, List.set_cons_zero, List.set_cons_succ, List.getElem_toArray, List.getElem_cons_succ, List.getElem_cons_zero]
      refine wpAnyZ_take (i := 10) (v := ?vv9) rfl (by kernel_rfl) (by kernel_rfl) (by kernel_rfl) (fun _ _ _ h => h) (Or.inl ⟨by rfl, ?hy9⟩) hHeld ?rr9
      case hy9 => (intro w' hSw; obtain ⟨g0, g1⟩ := HSt.out _ hSw; go_simp; try with_reducible rfl)
      try simp only [Act.put, List.setIfInBounds_toArray, List.set_cons_zero, List.set_cons_succ, List.getElem_toArray, List.getElem_cons_succ, List.getElem_cons_zero]
      refine wpAnyZ_take (i := 11) (v := ?vv10) rfl (by kernel_rfl) (by kernel_rfl) (by kernel_rfl) (fun _ _ _ h => h) (Or.inl ⟨by rfl, ?hy10⟩) hHeld ?rr10
      case hy10 => (intro w' hSw; obtain ⟨g0, g1⟩ := HSt.out _ hSw; go_simp; try with_reducible rfl)
      try simp only [Act.put, List.setIfInBounds_toArray, List.set_cons_zero, List.set_cons_succ, List.getElem_toArray, List.getElem_cons_succ, List.getElem_cons_zero]
      refine wpAnyZ_take (i := 12) (v := ?vv11) rfl (by kernel_rfl) (by kernel_rfl) (by kernel_rfl) (fun _ _ _ h => h) (Or.inl ⟨by rfl, ?hy11⟩) hHeld ?rr11
      case hy11 => (intro w' hSw; obtain ⟨g0, g1⟩ := HSt.out _ hSw; go_simp; try with_reducible rfl)
      try simp only [Act.put, List.setIfInBounds_toArray, List.set_cons_zero, List.set_cons_succ, List.getElem_toArray, List.getElem_cons_succ, List.getElem_cons_zero]
      refine wpAnyZ_take (i := 13) (v := ?vv12) rfl (by kernel_rfl) (by kernel_rfl) (by kernel_rfl) (fun _ _ _ h => h) (Or.inl ⟨by rfl, ?hy12⟩) hHeld ?rr12
      case hy12 => (intro w' hSw; obtain ⟨g0, g1⟩ := HSt.out _ hSw; go_simp; try with_reducible rfl)
      try simp only [Act.put, List.setIfInBounds_toArray, List.set_cons_zero, List.set_cons_succ, List.getElem_toArray, List.getElem_cons_succ, List.getElem_cons_zero]
      refine wpAnyZ_take (i := 14) (v := ?vv13) rfl (by kernel_rfl) (by kernel_rfl) (by kernel_rfl) (fun _ _ _ h => h) (Or.inl ⟨by rfl, ?hy13⟩) hHeld ?rr13
      case hy13 => (intro w' hSw; obtain ⟨g0, g1⟩ := HSt.out _ hSw; go_simp; try with_reducible rfl)
      try simp only [Act.put, List.setIfInBounds_toArray, List.set_cons_zero, List.set_cons_succ, List.getElem_toArray, List.getElem_cons_succ, List.getElem_cons_zero]
      refine wpAnyZ_take (i := 15) (v := ?vv14) rfl (by kernel_rfl) (by kernel_rfl) (by kernel_rfl) (fun _ _ _ h => h) (Or.inl ⟨by rfl, ?hy14⟩) hHeld ?rr14
      case hy14 => (intro w' hSw; obtain ⟨g0, g1⟩ := HSt.out _ hSw; go_simp; try with_reducible rfl)
      try simp only [Act.put, List.setIfInBounds_toArray, List.set_cons_zero, List.set_cons_succ, List.getElem_toArray, List.getElem_cons_succ, List.getElem_cons_zero]
      refine wpAnyZ_ready (rs := [1]) (by kernel_rfl) (by simp) ?_
      refine AllReadyZ.cons rfl (fun K hK => ?_) AllReadyZ.nil
      try rw [if_pos (by rfl)]
      go_simp
      refine hK.out _ _ HBa.out (fun hHeld2 => ?_)
      clear hK K hHeld
      have hHeld := hHeld2
      clear hHeld2
      try simp only [Act.put, List.setIfInBounds_toArray, List.set_cons_zero, List.set_cons_succ, List.getElem_toArray, List.getElem_cons_succ, List.getElem_cons_zero]
      refine wpAnyZ_ready (rs := [8]) (by kernel_rfl) (by simp) ?_
      refine AllReadyZ.cons rfl (fun K hK => ?_) AllReadyZ.nil
      try rw [if_pos (by rfl)]
      refine oper_append_k _ (.tmp 22) (.tmp 28) 48 rfl 37 i0 zPk 4 48 Try.underlying48 hinfo hz0 hz1 hz2 rfl (by decide) W1.heap.size _ 0 [] rfl HO1.out (some ⟨g, 0, none⟩) k (k + 1) (cellsP (vs.take k)) rfl HL1.out (HS1.out _ HBa.out) (cellsP_one _) (by unfold maxLen; omega) (by omega) (by simp) ?_
      intro A5 c5 w5 hown5 hgrow5 _
      have HO5 : Hid (w5.ownsRow W1.heap.size 37 4 (.slice A5 (0 + k) c5) (0 + k) (cellsP (vs.take k))) := Lib.hid (by simpa using hown5)
      have HB5 : Hid (Below W1.heap.size W1 w5) := Lib.hid (HBa.out.grown hgrow5 HBa.out.size (fun k e => Nat.le_of_eq (Option.some.inj e)))
      clear hown5 hgrow5
      refine hK.out _ _ HB5.out (fun hHeld2 => ?_)
      clear hK K hHeld
      have hHeld := hHeld2
      clear hHeld2
      try simp only [Act.put, List.setIfInBounds_toArray, List.set_cons_zero, List.set_cons_succ, List.getElem_toArray, List.getElem_cons_succ, List.getElem_cons_zero]
      refine wpAnyZ_ready (rs := [16]) (by kernel_rfl) (by simp) ?_
      refine AllReadyZ.cons rfl (fun K hK => ?_) AllReadyZ.nil
      try rw [if_pos (by rfl)]
      refine oper_append_k _ (.tmp 29) (.tmp 36) 48 rfl 37 i0 zPk 4 48 Try.underlying48 hinfo hz0 hz1 hz2 rfl (by decide) W1.heap.size _ (0 + k) (cellsP (vs.take k)) rfl HO5.out (some ⟨g, 0, none⟩) 0 0 (cellsP (vs.drop (k + 1))) rfl (by have := HL2.out; simpa using this) (fun h => absurd h (Nat.lt_irrefl _)) (cellsP_one _) (by unfold maxLen; omega) (by omega) HB5.out.size ?_
      intro A6 c6 w6 hown6 hgrow6 _
      have HO6 := Lib.hid hown6
      have HB6 : Hid (Below W1.heap.size W1 w6) := Lib.hid (HB5.out.grown hgrow6 HB5.out.size (fun k e => (HO5.out.lt k e).1))
      clear hown6 hgrow6
      obtain ⟨b0, b1⟩ := HSt.out _ HB6.out
      refine hK.out _ _ HB6.out (fun hHeld2 => ?_)
      clear hK K hHeld
      have hHeld := hHeld2
      clear hHeld2
      try simp only [Act.put, List.setIfInBounds_toArray, List.set_cons_zero, List.set_cons_succ, List.getElem_toArray, List.getElem_cons_succ, List.getElem_cons_zero]
      refine wpAnyZ_ready (rs := [17]) (by kernel_rfl) (by simp) ?_
      refine AllReadyZ.cons rfl (fun K hK => ?_) AllReadyZ.nil
      try rw [if_pos (by rfl)]
      go_simp
      refine hK.out _ _ HB6.out (fun hHeld2 => ?_)
      clear hK K hHeld
      have hHeld := hHeld2
      clear hHeld2
      try simp only [Act.put, List.setIfInBounds_toArray, List.set_cons_zero, List.set_cons_succ, List.getElem_toArray, List.getElem_cons_succ, List.getElem_cons_zero]
      refine wpAnyZ_take (i := 18) (v := ?vv15) rfl (by kernel_rfl) (by kernel_rfl) (by kernel_rfl) (fun _ _ _ h => h) (Or.inl ⟨by rfl, ?hy15⟩) hHeld ?rr15
      case hy15 => (intro w' hSw; obtain ⟨g0, g1⟩ := HSt.out _ hSw; go_simp; try with_reducible rfl)
      try simp only [Act.put, List.setIfInBounds_toArray, List.set_cons_zero, List.set_cons_succ, List.getElem_toArray, List.getElem_cons_succ, List.getElem_cons_zero]
      refine wpAnyZ_ready (rs := [19]) (by kernel_rfl) (by simp) ?_
      refine AllReadyZ.last rfl (fun K hK => ?_)
      try rw [if_pos (by rfl)]
      go_simp
      refine hK.out _ _ ?_
      clear hK K hHeld
      try simp only [Act.put, List.setIfInBounds_toArray, List.set_cons_zero, List.set_cons_succ, List.getElem_toArray, List.getElem_cons_succ, List.getElem_cons_zero]
      refine wpAnyZ_done (by kernel_rfl) ?_ _
      have hE := HEnd.out w6 A6 (k) c6 (by omega) HB6.out (by have := HO6.out; simpa using this)
      obtain ⟨W4, hW4⟩ : ∃ W4, W4 = w6.setCell ⟨p, 1, none⟩ (.slice A6 (k) c6) := ⟨_, rfl⟩
      rw [← hW4] at hE ⊢
      clear hW4 b0 b1
      obtain ⟨hN3, hMw, b0, b8, hY3⟩ := hE
      have HN3 := Lib.hid hN3
      have HMw := Lib.hid hMw
      have HY3 := Lib.hid hY3
      have HK4 := Lib.hid b0
      obtain ⟨u8, _⟩ := cells_of_heap b8
      have u80 := u8 0
      have u81 := u8 1
      have u82 := u8 2
      have u83 := u8 3
      obtain ⟨u4, v4⟩ := cells_of_heap b0
      have u40 := u4 0
      have u41 := u4 1
      have u42 := u4 2
      have u43 := u4 3
      have v40 := v4 0
      have v41 := v4 1
      have v42 := v4 2
      have v43 := v4 3
      have l08 : ¬ W0.heap.size = w.heap.size := by have := HL.out; omega
      clear hN3 hMw hY3 b8 u8 u4 v4 b0
      go_wp2
      have b0 := HK4.out
      clear u80 u81 u82 u83 u40 u41 u42 u43 v40 v41 v42 v43
      have b1 := heap_set b0 0 (.int .i64 z.p.id)
      have b2 := heap_set b1 1 (.int .i64 z.p.fr)
      have b3 := heap_set b2 2 (.int .i64 z.p.dst)
      have b4 := heap_set b3 3 (.slice z.A z.p.body.length z.c)
      have y1 := byt_setCell (u := .int .i64 z.p.id) HY3.out (cell_of_row _ _ 0 _ _ _ b0) (fun _ h => nomatch h)
      have y2 := byt_setCell (u := .int .i64 z.p.fr) y1 (cell_of_row _ _ 1 _ _ _ b1) (fun _ h => nomatch h)
      have y3 := byt_setCell (u := .int .i64 z.p.dst) y2 (cell_of_row _ _ 2 _ _ _ b2) (fun _ h => nomatch h)
      have y4 := byt_setCell (u := .slice z.A z.p.body.length z.c) y3 (cell_of_row _ _ 3 _ _ _ b3) (fun _ h => nomatch h)
      have m4 : Moved (fun k => k = w.heap.size) W4 ((((W4.setCell ⟨w.heap.size, 0, none⟩ (.int .i64 z.p.id)).setCell ⟨w.heap.size, 1, none⟩ (.int .i64 z.p.fr)).setCell ⟨w.heap.size, 2, none⟩ (.int .i64 z.p.dst)).setCell ⟨w.heap.size, 3, none⟩ (.slice z.A z.p.body.length z.c)) :=
        ((((Moved.refl (fun k => k = w.heap.size) W4).setCell (.inr rfl) _).setCell (.inr rfl) _).setCell (.inr rfl) _).setCell (.inr rfl) _
      have mw : Moved (fun j => j = p) w ((((W4.setCell ⟨w.heap.size, 0, none⟩ (.int .i64 z.p.id)).setCell ⟨w.heap.size, 1, none⟩ (.int .i64 z.p.fr)).setCell ⟨w.heap.size, 2, none⟩ (.int .i64 z.p.dst)).setCell ⟨w.heap.size, 3, none⟩ (.slice z.A z.p.body.length z.c)) :=
        (((HMw.out.setCell (.inl (Nat.le_refl _)) _).setCell (.inl (Nat.le_refl _)) _).setCell (.inl (Nat.le_refl _)) _).setCell (.inl (Nat.le_refl _)) _
      obtain ⟨Z, hZ⟩ : ∃ Z, Z = (((W4.setCell ⟨w.heap.size, 0, none⟩ (.int .i64 z.p.id)).setCell ⟨w.heap.size, 1, none⟩ (.int .i64 z.p.fr)).setCell ⟨w.heap.size, 2, none⟩ (.int .i64 z.p.dst)).setCell ⟨w.heap.size, 3, none⟩ (.slice z.A z.p.body.length z.c) := ⟨_, rfl⟩
      rw [← hZ] at b4 y4 m4 mw ⊢
      have z0 : Z.cell? ⟨w.heap.size, 0, none⟩ = some (.int .i64 z.p.id) := cell_of_row _ _ 0 _ _ _ b4
      have z1 : Z.cell? ⟨w.heap.size, 1, none⟩ = some (.int .i64 z.p.fr) := cell_of_row _ _ 1 _ _ _ b4
      have z2 : Z.cell? ⟨w.heap.size, 2, none⟩ = some (.int .i64 z.p.dst) := cell_of_row _ _ 2 _ _ _ b4
      have z3 : Z.cell? ⟨w.heap.size, 3, none⟩ = some (.slice z.A z.p.body.length z.c) := cell_of_row _ _ 3 _ _ _ b4
      have HY := Lib.hid y4
      have HN := Lib.hid ((HN3.out.kept m4 (fun k hk e => by have := HL.out; rcases hk with hk | hk; (have := hk.2; omega); omega)).wide (G := fun k => F k ∨ w.heap.size ≤ k) (fun k hk => hk.elim (fun h => .inl h.1) (fun h => .inr (by have := HL.out; omega))))
      clear hZ b0 b1 b2 b3 b4 y1 y2 y3 y4 m4
      refine bodyPost_ret (v := .tuple #[.agg #[.int .i64 z.p.id, .int .i64 z.p.fr, .int .i64 z.p.dst, .slice z.A z.p.body.length z.c], .int .i64 0]) (by simp [results, Try.results13, go_sem, z0, z1, z2, z3]) rfl ⟨mw, mw.weaken (fun j _ e => e ▸ HX.out.inF.1), ?_⟩
      refine ⟨fun q hq => ?_, fun hq => ?_⟩
      · rw [HEz.out] at hq
        obtain rfl := Option.some.inj hq
        exact ⟨HN.out, z.A, z.c, rfl, HY.out⟩
      · rw [HEz.out] at hq; cases hq
    · have hkw : IntKind.i64.wrap ((k : Int) + 1) = (k : Int) + 1 := by rw [IntKind.wrap_i64]; omega
      have hkp : (0 : Int) ≤ (k : Int) + 1 := by omega
      have hkt : ((k : Int) + 1).toNat = k + 1 := by omega
      refine wp_region_heldz_drew (S := (fun V => Below W1.heap.size W1 V)) 19 (by kernel_rfl) (Below.refl _ _).drew (fun hHeld => ?_)
      refine wpAnyZ_take (i := 0) (v := ?vv16) rfl (by kernel_rfl) (by kernel_rfl) (by kernel_rfl) (fun _ _ _ h => h) (Or.inl ⟨by rfl, ?hy16⟩) hHeld ?rr16
      case hy16 => (intro w' hSw; obtain ⟨g0, g1⟩ := HSt.out _ hSw; go_simp; try with_reducible rfl)
      try simp only [Act.put, List.setIfInBounds_toArray, List.set_cons_zero, List.set_cons_succ, List.getElem_toArray, List.getElem_cons_succ, List.getElem_cons_zero]
      refine wpAnyZ_take (i := 2) (v := ?vv17) rfl (by kernel_rfl) (by kernel_rfl) (by kernel_rfl) (fun _ _ _ h => h) (Or.inl ⟨by rfl, ?hy17⟩) hHeld ?rr17
      case hy17 => (intro w' hSw; obtain ⟨g0, g1⟩ := HSt.out _ hSw; go_simp; try with_reducible rfl)
      try simp only [Act.put, List.setIfInBounds_toArray, List.set_cons_zero, List.set_cons_succ, List.getElem_toArray, List.getElem_cons_succ, List.getElem_cons_zero]
      refine wpAnyZ_take (i := 3) (v := ?vv18) rfl (by kernel_rfl) (by kernel_rfl) (by kernel_rfl) (fun _ _ _ h => h) (Or.inl ⟨by rfl, ?hy18⟩) hHeld ?rr18
      case hy18 => (intro w' hSw; obtain ⟨g0, g1⟩ := HSt.out _ hSw; go_simp; try with_reducible rfl)
      try simp only [Act.put, List.setIfInBounds_toArray, List.set_cons_zero, List.set_cons_succ, List.getElem_toArray, List.getElem_cons_succ, List.getElem_cons_zero]
      refine wpAnyZ_take (i := 4) (v := ?vv19) rfl (by kernel_rfl) (by kernel_rfl) (by kernel_rfl) (fun _ _ _ h => h) (Or.inl ⟨by rfl, ?hy19⟩) hHeld ?rr19
      case hy19 => (intro w' hSw; obtain ⟨g0, g1⟩ := HSt.out _ hSw; go_simp; try with_reducible rfl)
      try simp only [Act.put, List.setIfInBounds_toArray, List.set_cons_zero, List.set_cons_succ, List.getElem_toArray, List.getElem_cons_succ, List.getElem_cons_zero]
      refine wpAnyZ_take (i := 5) (v := ?vv20) rfl (by kernel_rfl) (by kernel_rfl) (by kernel_rfl) (fun _ _ _ h => h) (Or.inl ⟨by rfl, ?hy20⟩) hHeld ?rr20
      case hy20 => (intro w' hSw; obtain ⟨g0, g1⟩ := HSt.out _ hSw; go_simp; try with_reducible rfl)
      try simp only [Act.put, List.setIfInBounds_toArray, List.set_cons_zero, List.set_cons_succ, List.getElem_toArray, List.getElem_cons_succ, List.getElem_cons_zero]
      refine wpAnyZ_take (i := 6) (v := ?vv21) rfl (by kernel_rfl) (by kernel_rfl) (by kernel_rfl) (fun _ _ _ h => h) (Or.inl ⟨by rfl, ?hy21⟩) hHeld ?rr21
      case hy21 => (intro w' hSw; obtain ⟨g0, g1⟩ := HSt.out _ hSw; go_simp; try with_reducible rfl)
      try simp only [Act.put, List.setIfInBounds_toArray, List.set_cons_zero, List.set_cons_succ, List.getElem_toArray, List.getElem_cons_succ, List.getElem_cons_zero]
      refine wpAnyZ_take (i := 7) (v := ?vv22) rfl (by kernel_rfl) (by kernel_rfl) (by kernel_rfl) (fun _ _ _ h => h) (Or.inl ⟨by rfl, ?hy22⟩) hHeld ?rr22
      case hy22 => (intro w' hSw; obtain ⟨g0, g1⟩ := HSt.out _ hSw; go_simp; try with_reducible rfl)
      try simp only [Act.put, List.setIfInBounds_toArray, List.set_cons_zero, List.set_cons_succ, List.getElem_toArray, List.getElem_cons_succ, List.getElem_cons_zero]
      refine wpAnyZ_take (i := 9) (v := ?vv23) rfl (by kernel_rfl) (by kernel_rfl) (by kernel_rfl) (fun _ _ _ h => h) (Or.inl ⟨by rfl, ?hy23⟩) hHeld ?rr23
      case hy23 => (intro w' hSw; obtain ⟨g0, g1⟩ := HSt.out _ hSw; go_simp; try with_reducible rfl)
      try simp only [Act.put, List.setIfInBounds_toArray, List.set_cons_zero, List.set_cons_succ, List.getElem_toArray, List.getElem_cons_succ, List.getElem_cons_zero]
      refine wpAnyZ_take (i := 10) (v := ?vv24) rfl (by kernel_rfl) (by kernel_rfl) (by kernel_rfl) (fun _ _ _ h => h) (Or.inl ⟨by rfl, ?hy24⟩) hHeld ?rr24
      case hy24 => (intro w' hSw; obtain ⟨g0, g1⟩ := HSt.out _ hSw; go_simp; try with_reducible rfl)
      try simp only [Act.put, List.setIfInBounds_toArray, List.set_cons_zero, List.set_cons_succ, List.getElem_toArray, List.getElem_cons_succ, List.getElem_cons_zero]
      refine wpAnyZ_take (i := 11) (v := ?vv25) rfl (by kernel_rfl) (by kernel_rfl) (by kernel_rfl) (fun _ _ _ h => h) (Or.inl ⟨by rfl, ?hy25⟩) hHeld ?rr25
      case hy25 => (intro w' hSw; obtain ⟨g0, g1⟩ := HSt.out _ hSw; go_simp; try with_reducible rfl)
      try simp only [Act.put, List.setIfInBounds_toArray, List.set_cons_zero, List.set_cons_succ, List.getElem_toArray, List.getElem_cons_succ, List.getElem_cons_zero]
      refine wpAnyZ_take (i := 12) (v := ?vv26) rfl (by kernel_rfl) (by kernel_rfl) (by kernel_rfl) (fun _ _ _ h => h) (Or.inl ⟨by rfl, ?hy26⟩) hHeld ?rr26
      case hy26 => (intro w' hSw; obtain ⟨g0, g1⟩ := HSt.out _ hSw; go_simp; try with_reducible rfl)
      try simp only [Act.put, List.setIfInBounds_toArray, List.set_cons_zero, List.set_cons_succ, List.getElem_toArray, List.getElem_cons_succ, List.getElem_cons_zero]
      refine wpAnyZ_take (i := 13) (v := ?vv27) rfl (by kernel_rfl) (by kernel_rfl) (by kernel_rfl) (fun _ _ _ h => h) (Or.inl ⟨by rfl, ?hy27⟩) hHeld ?rr27
      case hy27 => (intro w' hSw; obtain ⟨g0, g1⟩ := HSt.out _ hSw; go_simp; try with_reducible rfl)
      try simp only [Act.put, List.setIfInBounds_toArray, List.set_cons_zero, List.set_cons_succ, List.getElem_toArray, List.getElem_cons_succ, List.getElem_cons_zero]
      refine wpAnyZ_take (i := 14) (v := ?vv28) rfl (by kernel_rfl) (by kernel_rfl) (by kernel_rfl) (fun _ _ _ h => h) (Or.inl ⟨by rfl, ?hy28⟩) hHeld ?rr28
      case hy28 => (intro w' hSw; obtain ⟨g0, g1⟩ := HSt.out _ hSw; go_simp; try with_reducible rfl)
      try simp only [Act.put, List.setIfInBounds_toArray, List.set_cons_zero, List.set_cons_succ, List.getElem_toArray, List.getElem_cons_succ, List.getElem_cons_zero]
      refine wpAnyZ_take (i := 15) (v := ?vv29) rfl (by kernel_rfl) (by kernel_rfl) (by kernel_rfl) (fun _ _ _ h => h) (Or.inl ⟨by rfl, ?hy29⟩) hHeld ?rr29
      case hy29 => (intro w' hSw; obtain ⟨g0, g1⟩ := HSt.out _ hSw; go_simp; try with_reducible rfl)
      try simp only [Act.put, List.setIfInBounds_toArray, List.set_cons_zero, List.set_cons_succ, List.getElem_toArray, List.getElem_cons_succ, List.getElem_cons_zero]
      refine wpAnyZ_ready (rs := [1]) (by kernel_rfl) (by simp) ?_
      refine AllReadyZ.cons rfl (fun K hK => ?_) AllReadyZ.nil
      try rw [if_pos (by rfl)]
      go_simp
      refine hK.out _ _ HBa.out (fun hHeld2 => ?_)
      clear hK K hHeld
      have hHeld := hHeld2
      clear hHeld2
      try simp only [Act.put, List.setIfInBounds_toArray, List.set_cons_zero, List.set_cons_succ, List.getElem_toArray, List.getElem_cons_succ, List.getElem_cons_zero]
      refine wpAnyZ_ready (rs := [8]) (by kernel_rfl) (by simp) ?_
      refine AllReadyZ.cons rfl (fun K hK => ?_) AllReadyZ.nil
      try rw [if_pos (by rfl)]
      refine oper_append_k _ (.tmp 22) (.tmp 28) 48 rfl 37 i0 zPk 4 48 Try.underlying48 hinfo hz0 hz1 hz2 rfl (by decide) W1.heap.size _ 0 [] rfl HO1.out (some ⟨g, 0, none⟩) k c (cellsP (vs.take k)) rfl HL1.out (HS1.out _ HBa.out) (cellsP_one _) (by unfold maxLen; omega) (by omega) (by simp) ?_
      intro A5 c5 w5 hown5 hgrow5 _
      have HO5 : Hid (w5.ownsRow W1.heap.size 37 4 (.slice A5 (0 + k) c5) (0 + k) (cellsP (vs.take k))) := Lib.hid (by simpa using hown5)
      have HB5 : Hid (Below W1.heap.size W1 w5) := Lib.hid (HBa.out.grown hgrow5 HBa.out.size (fun k e => Nat.le_of_eq (Option.some.inj e)))
      clear hown5 hgrow5
      refine hK.out _ _ HB5.out (fun hHeld2 => ?_)
      clear hK K hHeld
      have hHeld := hHeld2
      clear hHeld2
      try simp only [Act.put, List.setIfInBounds_toArray, List.set_cons_zero, List.set_cons_succ, List.getElem_toArray, List.getElem_cons_succ, List.getElem_cons_zero]
      refine wpAnyZ_ready (rs := [16]) (by kernel_rfl) (by simp) ?_
      refine AllReadyZ.cons rfl (fun K hK => ?_) AllReadyZ.nil
      try rw [if_pos (by rfl)]
      refine oper_append_k _ (.tmp 29) (.tmp 36) 48 rfl 37 i0 zPk 4 48 Try.underlying48 hinfo hz0 hz1 hz2 rfl (by decide) W1.heap.size _ (0 + k) (cellsP (vs.take k)) rfl HO5.out (some ⟨g, (k + 1) * 4, none⟩) (n - (k + 1)) (c - (k + 1)) (cellsP (vs.drop (k + 1))) rfl HL2.out (HS2.out _ HB5.out) (cellsP_one _) (by unfold maxLen; omega) (by omega) HB5.out.size ?_
      intro A6 c6 w6 hown6 hgrow6 _
      have HO6 := Lib.hid hown6
      have HB6 : Hid (Below W1.heap.size W1 w6) := Lib.hid (HB5.out.grown hgrow6 HB5.out.size (fun k e => (HO5.out.lt k e).1))
      clear hown6 hgrow6
      obtain ⟨b0, b1⟩ := HSt.out _ HB6.out
      refine hK.out _ _ HB6.out (fun hHeld2 => ?_)
      clear hK K hHeld
      have hHeld := hHeld2
      clear hHeld2
      try simp only [Act.put, List.setIfInBounds_toArray, List.set_cons_zero, List.set_cons_succ, List.getElem_toArray, List.getElem_cons_succ, List.getElem_cons_zero]
      refine wpAnyZ_ready (rs := [17]) (by kernel_rfl) (by simp) ?_
      refine AllReadyZ.cons rfl (fun K hK => ?_) AllReadyZ.nil
      try rw [if_pos (by rfl)]
      go_simp
      refine hK.out _ _ HB6.out (fun hHeld2 => ?_)
      clear hK K hHeld
      have hHeld := hHeld2
      clear hHeld2
      try simp only [Act.put, List.setIfInBounds_toArray, List.set_cons_zero, List.set_cons_succ, List.getElem_toArray, List.getElem_cons_succ, List.getElem_cons_zero]
      refine wpAnyZ_take (i := 18) (v := ?vv30) rfl (by kernel_rfl) (by kernel_rfl) (by kernel_rfl) (fun _ _ _ h => h) (Or.inl ⟨by rfl, ?hy30⟩) hHeld ?rr30
      case hy30 => (intro w' hSw; obtain ⟨g0, g1⟩ := HSt.out _ hSw; go_simp; try with_reducible rfl)
      try simp only [Act.put, List.setIfInBounds_toArray, List.set_cons_zero, List.set_cons_succ, List.getElem_toArray, List.getElem_cons_succ, List.getElem_cons_zero]
      refine wpAnyZ_ready (rs := [19]) (by kernel_rfl) (by simp) ?_
      refine AllReadyZ.last rfl (fun K hK => ?_)
      try rw [if_pos (by rfl)]
      go_simp
      refine hK.out _ _ ?_
      clear hK K hHeld
      try simp only [Act.put, List.setIfInBounds_toArray, List.set_cons_zero, List.set_cons_succ, List.getElem_toArray, List.getElem_cons_succ, List.getElem_cons_zero]
      refine wpAnyZ_done (by kernel_rfl) ?_ _
      have hE := HEnd.out w6 A6 (k + (n - (k + 1))) c6 (by omega) HB6.out (by have := HO6.out; simpa using this)
      obtain ⟨W4, hW4⟩ : ∃ W4, W4 = w6.setCell ⟨p, 1, none⟩ (.slice A6 (k + (n - (k + 1))) c6) := ⟨_, rfl⟩
      rw [← hW4] at hE ⊢
      clear hW4 b0 b1
      obtain ⟨hN3, hMw, b0, b8, hY3⟩ := hE
      have HN3 := Lib.hid hN3
      have HMw := Lib.hid hMw
      have HY3 := Lib.hid hY3
      have HK4 := Lib.hid b0
      obtain ⟨u8, _⟩ := cells_of_heap b8
      have u80 := u8 0
      have u81 := u8 1
      have u82 := u8 2
      have u83 := u8 3
      obtain ⟨u4, v4⟩ := cells_of_heap b0
      have u40 := u4 0
      have u41 := u4 1
      have u42 := u4 2
      have u43 := u4 3
      have v40 := v4 0
      have v41 := v4 1
      have v42 := v4 2
      have v43 := v4 3
      have l08 : ¬ W0.heap.size = w.heap.size := by have := HL.out; omega
      clear hN3 hMw hY3 b8 u8 u4 v4 b0
      go_wp2
      have b0 := HK4.out
      clear u80 u81 u82 u83 u40 u41 u42 u43 v40 v41 v42 v43
      have b1 := heap_set b0 0 (.int .i64 z.p.id)
      have b2 := heap_set b1 1 (.int .i64 z.p.fr)
      have b3 := heap_set b2 2 (.int .i64 z.p.dst)
      have b4 := heap_set b3 3 (.slice z.A z.p.body.length z.c)
      have y1 := byt_setCell (u := .int .i64 z.p.id) HY3.out (cell_of_row _ _ 0 _ _ _ b0) (fun _ h => nomatch h)
      have y2 := byt_setCell (u := .int .i64 z.p.fr) y1 (cell_of_row _ _ 1 _ _ _ b1) (fun _ h => nomatch h)
      have y3 := byt_setCell (u := .int .i64 z.p.dst) y2 (cell_of_row _ _ 2 _ _ _ b2) (fun _ h => nomatch h)
      have y4 := byt_setCell (u := .slice z.A z.p.body.length z.c) y3 (cell_of_row _ _ 3 _ _ _ b3) (fun _ h => nomatch h)
      have m4 : Moved (fun k => k = w.heap.size) W4 ((((W4.setCell ⟨w.heap.size, 0, none⟩ (.int .i64 z.p.id)).setCell ⟨w.heap.size, 1, none⟩ (.int .i64 z.p.fr)).setCell ⟨w.heap.size, 2, none⟩ (.int .i64 z.p.dst)).setCell ⟨w.heap.size, 3, none⟩ (.slice z.A z.p.body.length z.c)) :=
        ((((Moved.refl (fun k => k = w.heap.size) W4).setCell (.inr rfl) _).setCell (.inr rfl) _).setCell (.inr rfl) _).setCell (.inr rfl) _
      have mw : Moved (fun j => j = p) w ((((W4.setCell ⟨w.heap.size, 0, none⟩ (.int .i64 z.p.id)).setCell ⟨w.heap.size, 1, none⟩ (.int .i64 z.p.fr)).setCell ⟨w.heap.size, 2, none⟩ (.int .i64 z.p.dst)).setCell ⟨w.heap.size, 3, none⟩ (.slice z.A z.p.body.length z.c)) :=
        (((HMw.out.setCell (.inl (Nat.le_refl _)) _).setCell (.inl (Nat.le_refl _)) _).setCell (.inl (Nat.le_refl _)) _).setCell (.inl (Nat.le_refl _)) _
      obtain ⟨Z, hZ⟩ : ∃ Z, Z = (((W4.setCell ⟨w.heap.size, 0, none⟩ (.int .i64 z.p.id)).setCell ⟨w.heap.size, 1, none⟩ (.int .i64 z.p.fr)).setCell ⟨w.heap.size, 2, none⟩ (.int .i64 z.p.dst)).setCell ⟨w.heap.size, 3, none⟩ (.slice z.A z.p.body.length z.c) := ⟨_, rfl⟩
      rw [← hZ] at b4 y4 m4 mw ⊢
      have z0 : Z.cell? ⟨w.heap.size, 0, none⟩ = some (.int .i64 z.p.id) := cell_of_row _ _ 0 _ _ _ b4
      have z1 : Z.cell? ⟨w.heap.size, 1, none⟩ = some (.int .i64 z.p.fr) := cell_of_row _ _ 1 _ _ _ b4
      have z2 : Z.cell? ⟨w.heap.size, 2, none⟩ = some (.int .i64 z.p.dst) := cell_of_row _ _ 2 _ _ _ b4
      have z3 : Z.cell? ⟨w.heap.size, 3, none⟩ = some (.slice z.A z.p.body.length z.c) := cell_of_row _ _ 3 _ _ _ b4
      have HY := Lib.hid y4
      have HN := Lib.hid ((HN3.out.kept m4 (fun k hk e => by have := HL.out; rcases hk with hk | hk; (have := hk.2; omega); omega)).wide (G := fun k => F k ∨ w.heap.size ≤ k) (fun k hk => hk.elim (fun h => .inl h.1) (fun h => .inr (by have := HL.out; omega))))
      clear hZ b0 b1 b2 b3 b4 y1 y2 y3 y4 m4
      refine bodyPost_ret (v := .tuple #[.agg #[.int .i64 z.p.id, .int .i64 z.p.fr, .int .i64 z.p.dst, .slice z.A z.p.body.length z.c], .int .i64 0]) (by simp [results, Try.results13, go_sem, z0, z1, z2, z3]) rfl ⟨mw, mw.weaken (fun j _ e => e ▸ HX.out.inF.1), ?_⟩
      refine ⟨fun q hq => ?_, fun hq => ?_⟩
      · rw [HEz.out] at hq
        obtain rfl := Option.some.inj hq
        exact ⟨HN.out, z.A, z.c, rfl, HY.out⟩
      · rw [HEz.out] at hq; cases hq
  · have HR : Hid (RFind s i = -1) := Lib.hid (by unfold RFind; rw [if_neg hI])
    rw [HR.out] at HFd
    have HI := Lib.hid hI
    obtain ⟨u0, v0⟩ := cells_of_heap k0
    have u00 := u0 0
    have u01 := u0 1
    have u02 := u0 2
    have u03 := u0 3
    have v00 := v0 0
    have v01 := v0 1
    have v02 := v0 2
    have v03 := v0 3
    clear h h0 hI hlen hW0 k0 u0 v0
    go_enter Try.func13, Try.ntmps13
    go_wp2_with (first
      | rw [← HW0.out]
      | (go_at_call 33; refine Calls.mono HFd.out ?_; rintro e w1 ⟨rfl, rfl⟩))
    have kz := heap_set (heap_set (heap_set (heap_set HK0.out 0 (.int .i64 0)) 1 (.int .i64 0)) 2 (.int .i64 0)) 3 (.slice none 0 0)
    have hbz : Below w.heap.size w ((((W0.setCell ⟨w.heap.size, 0, none⟩ (.int .i64 0)).setCell ⟨w.heap.size, 1, none⟩ (.int .i64 0)).setCell ⟨w.heap.size, 2, none⟩ (.int .i64 0)).setCell ⟨w.heap.size, 3, none⟩ (.slice none 0 0)) :=
      (((HB0.out.setCell (Nat.le_refl _) _).setCell (Nat.le_refl _) _).setCell (Nat.le_refl _) _).setCell (Nat.le_refl _) _
    obtain ⟨Z, hZ⟩ : ∃ Z, Z = (((W0.setCell ⟨w.heap.size, 0, none⟩ (.int .i64 0)).setCell ⟨w.heap.size, 1, none⟩ (.int .i64 0)).setCell ⟨w.heap.size, 2, none⟩ (.int .i64 0)).setCell ⟨w.heap.size, 3, none⟩ (.slice none 0 0) := ⟨_, rfl⟩
    rw [← hZ] at kz hbz ⊢
    have z0 : Z.cell? ⟨w.heap.size, 0, none⟩ = some (.int .i64 0) := cell_of_row _ _ 0 _ _ _ kz
    have z1 : Z.cell? ⟨w.heap.size, 1, none⟩ = some (.int .i64 0) := cell_of_row _ _ 1 _ _ _ kz
    have z2 : Z.cell? ⟨w.heap.size, 2, none⟩ = some (.int .i64 0) := cell_of_row _ _ 2 _ _ _ kz
    have z3 : Z.cell? ⟨w.heap.size, 3, none⟩ = some (.slice none 0 0) := cell_of_row _ _ 3 _ _ _ kz
    clear hZ kz u00 u01 u02 u03 v00 v01 v02 v03
    refine bodyPost_ret (v := .tuple #[.agg #[.int .i64 0, .int .i64 0, .int .i64 0, .slice none 0 0], .int .i64 4]) (by simp [results, Try.results13, go_sem, z0, z1, z2, z3]) rfl ⟨Below.movedNew hbz, Below.movedNew hbz, ?_⟩
    have hnone : s.l[idx s.l i]? = none := List.getElem?_eq_none (Nat.le_of_not_lt HI.out)
    refine ⟨fun q hq => ?_, fun _ => ⟨HX.out.stay hbz, rfl⟩⟩
    rw [hnone] at hq; cases hq
set_option maxHeartbeats 2000000 in
theorem rdrop_any (h : NetX T w F p s A c vs) (i : Int) (hk2 : s.lost + 1 ≤ 9223372036854775807) :
    Calls Try.prog 16 #[.pointer (some ⟨p, 0, none⟩), .int .i64 i] w (OpN T F p (dropS s i).2 (.int .i64 (dropS s i).1) w) := by
  have HT := Lib.hid (rtake_any h i)
  have g1 := h.good.lost0
  have HFp := Lib.hid h.inF.1
  clear h
  by_cases hI : idx s.l i < s.l.length
  · have HT2 : Hid (Calls Try.prog 13 #[.pointer (some ⟨p, 0, none⟩), .int .i64 i] w fun e w1 => ∃ (a b c : Int) (A' : Option Addr) (n c' : Nat), e = .returned (.tuple #[.agg #[.int .i64 a, .int .i64 b, .int .i64 c, .slice A' n c'], .int .i64 0]) ∧ NT T (fun k => F k ∨ w.heap.size ≤ k) w1 p (takeS s i) ∧ Moved F w w1) := Lib.hid (HT.out.mono fun e w1 ⟨_, hm, hr⟩ => by
      obtain ⟨hn, A', c', he, _⟩ := hr.1 _ (List.getElem?_eq_getElem hI)
      exact ⟨_, _, _, _, _, _, he, hn, hm⟩)
    have HE : Hid (dropS s i = (0, { takeS s i with lost := s.lost + 1 })) := Lib.hid (by unfold dropS; rw [if_pos hI])
    clear HT hI
    go_enter Try.func16, Try.ntmps16
    go_wp2_with (go_at_call 13; refine Calls.mono HT2.out ?_; rintro e w1 ⟨a, b, d, A1, n1, c1, rfl, ⟨A2, c2, vs2, hx⟩, hm⟩; have HX := Lib.hid hx; have q3 := (hx.cells).2.2.2; have f3 := hx.free 3; have hp1 : p < w1.heap.size := hx.lt; have HM := Lib.hid hm; clear hx hm; simp only [takeS] at q3)
    go_ret
    rw [HE.out]
    exact ⟨rfl, ⟨A2, c2, vs2, (HX.out.setLost (s.lost + 1) (by show s.lost ≤ s.lost + 1; omega)).later (below_alloc _ _)⟩, (HM.out.setCell (.inr HFp.out) _).trans (q := fun _ => False) (Below.movedNew (below_alloc _ _)) (fun _ _ h => h.elim)⟩
  · have HT2 : Hid (Calls Try.prog 13 #[.pointer (some ⟨p, 0, none⟩), .int .i64 i] w fun e w1 => e = .returned (.tuple #[.agg #[.int .i64 0, .int .i64 0, .int .i64 0, .slice none 0 0], .int .i64 4]) ∧ NT T (fun k => F k ∨ w.heap.size ≤ k) w1 p s ∧ Moved F w w1) := Lib.hid (HT.out.mono fun e w1 ⟨_, hm, hr⟩ => by
      have hr := hr.2 (List.getElem?_eq_none (Nat.le_of_not_lt hI))
      exact ⟨hr.2, hr.1, hm⟩)
    have HE : Hid (dropS s i = (4, s)) := Lib.hid (by unfold dropS; rw [if_neg hI])
    clear HT hI
    go_enter Try.func16, Try.ntmps16
    go_wp2_with (go_at_call 13; refine Calls.mono HT2.out ?_; rintro e w1 ⟨rfl, hn, hm⟩; have HN := Lib.hid hn; have HM := Lib.hid hm; clear hn hm)
    go_ret
    rw [HE.out]
    exact ⟨rfl, HN.out.later (below_alloc _ _), HM.out.trans (q := fun _ => False) (Below.movedNew (below_alloc _ _)) (fun _ _ h => h.elim)⟩
end
end Go.Proofs.Ytbmadhmcnjcdfaa
