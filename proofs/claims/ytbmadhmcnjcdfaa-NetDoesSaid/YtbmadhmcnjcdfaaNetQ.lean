/- The reference's net: is, find, add. -/
import Derived.Test.YtbmadhmcnjcdfaaNetN
import Derived.Test.YtbmadhmcnjcdfaaQuietW
set_option linter.unusedSimpArgs false
set_option linter.unusedVariables false
namespace Go.Proofs.Ytbmadhmcnjcdfaa
open Go.ChangeShapes Go.WideShapes Go.ChangeAt Go.RowKit Go.Base Go.Net

section
variable {T : TypeId} {F G : Nat → Prop} {w w1 w' : World} {p : Nat} {s : St} {A : Option Addr} {c n : Nat} {vs : List PkV} {x : PkV}
theorem ris_any (h : NetX T w F p s A c vs) (a : Int) : Calls Try.prog 29 #[.pointer (some ⟨p, 0, none⟩), .int .i64 a] w fun e w' => e = .returned (.bool (decide (isP s a))) ∧ w = w' := by
  obtain ⟨c0, c1, c2, c3⟩ := h.cells
  obtain ⟨N, hN⟩ : ∃ N, N = s.places := ⟨_, rfl⟩
  rw [← hN] at c0
  have HN := Lib.hid hN
  clear h hN
  go_enter Try.func29, Try.ntmps29
  go_wp2
  all_goals
    go_ret
    refine ⟨ret_bool ?_, rfl⟩
    have hN := HN.out
    rw [Bool.eq_iff_iff]
    simp only [decide_eq_true_eq, Bool.false_eq_true]
    unfold isP
    first | omega | (refine ⟨fun h => h.elim, fun h => ?_⟩; omega)
theorem byt_src {A0 : Option Addr} {b : List UInt8} (h : Byt w A0 b) : 0 < b.length → ∃ ad, A0 = some ad ∧ ∀ j u, (b.map u8v)[j]? = some u → w.cell? (ad.add j) = some u := fun h0 => by
  obtain ⟨g, o, e, _⟩ := h 0 h0
  subst e
  exact ⟨_, rfl, h.news⟩
def RFind (s : St) (i : Int) : Int := if idx s.l i < s.l.length then (idx s.l i : Int) else -1
theorem rfind_any (h : NetX T w F p s A c vs) (i : Int) : Calls Try.prog 33 #[.pointer (some ⟨p, 0, none⟩), .int .i64 i] w fun e w' => e = .returned (.int .i64 (RFind s i)) ∧ w = w' := by
  obtain ⟨c0, c1, c2, c3⟩ := h.cells
  have HX := Lib.hid h
  have hfew := h.few
  obtain ⟨n, hn⟩ : ∃ n, n = vs.length := ⟨_, rfl⟩
  have HN := Lib.hid hn
  rw [← hn] at c1 hfew
  clear h hn
  go_enter Try.func33, Try.ntmps33
  go_wp2
  go_loop [5] (fun iv => ∃ k : Nat, k ≤ n ∧ iv = .int .i64 (k : Int) ∧ Hid (∀ j (hj : j < vs.length), j < k → vs[j].p.id ≠ i)) (fun iv => n - (intOf iv).toNat)
  case atStart => exact ⟨0, Nat.zero_le _, rfl, Lib.hid (fun j hj h => by omega)⟩
  case round =>
    obtain ⟨k, hkn, rfl, HP⟩ := hrel
    by_cases hlt : k < n
    · have hlt' : (k : Int) < (n : Int) := by omega
      have hkz : (0 : Int) ≤ (k : Int) := by omega
      have hkv : k < vs.length := by rw [← HN.out]; exact hlt
      obtain ⟨g, rfl, r0, r1, r2, r3⟩ := rowP_at HX.out.row hkv
      have hks : k < s.l.length := by rw [← HX.out.len]; exact hkv
      have he : vs[k].p = s.l[k] := by simp only [← HX.out.is, List.getElem_map]
      have HNx : Hid (vs[k].p.id ≠ i → ∀ j (hj : j < vs.length), j < k + 1 → vs[j].p.id ≠ i) := Lib.hid (fun h j hj hjk => by
        by_cases e : j = k
        · subst e; exact h
        · exact HP.out j hj (by omega))
      have HHit : Hid (vs[k].p.id = i → RFind s i = (k : Int)) := Lib.hid (fun h => by
        rw [he] at h
        have h1 := idx_at HX.out.good.asc hks
        rw [h] at h1
        unfold RFind
        rw [if_pos (by rw [h1]; exact hks), h1])
      obtain ⟨z, hz⟩ : ∃ z, z = vs[k].p.id := ⟨_, rfl⟩
      rw [← hz] at r0 HNx HHit
      clear hz he hkv hks r1 r2 r3
      by_cases hzi : z = i
      · have HH := Lib.hid (HHit.out hzi)
        have hz' : (z == i) = true := by simpa using hzi
        clear hzi
        go_wp2
        go_ret
        exact ⟨ret_int HH.out.symm, rfl⟩
      · have HH := Lib.hid (HNx.out hzi)
        have hz' : (z == i) = false := by simpa using hzi
        clear hzi
        go_wp2
        go_round
        case rel => exact ⟨k + 1, by omega, by go_num, HH⟩
        case measure => simp [intOf]; omega
    · have hlt' : ¬ (k : Int) < (n : Int) := by omega
      go_wp2
      go_ret
      refine ⟨ret_int ?_, rfl⟩
      unfold RFind
      rw [if_neg (fun hI => ?_)]
      have h1 := idx_hit hI
      have h2 : idx s.l i < vs.length := by rw [HX.out.len]; exact hI
      have h3 := HP.out _ h2 (by have := HN.out; omega)
      have he : vs[idx s.l i].p = s.l[idx s.l i] := by simp only [← HX.out.is, List.getElem_map]
      rw [he] at h3
      exact h3 h1
set_option maxHeartbeats 16000000 in
set_option maxRecDepth 20000 in
theorem radd_any (h : NetX T w F p s A c vs) (i fr dst : Int) (A0 : Option Addr) (b : List UInt8) (c0 : Nat) (hy : Byt w A0 b) (hb : b.length ≤ 32832) (hk1 : s.last + 1 ≤ 9223372036854775807) (hk2 : s.lost + 1 ≤ 9223372036854775807) :
    Calls Try.prog 30 #[.pointer (some ⟨p, 0, none⟩), .agg #[.int .i64 i, .int .i64 fr, .int .i64 dst, .slice A0 b.length c0]] w
      (OpN T F p (addS s fr dst b).2 (.tuple #[.int .i64 (addS s fr dst b).1.1, .int .i64 (addS s fr dst b).1.2]) w) := by
  have g0 := h.good.last0
  have g1 := h.good.lost0
  have hfew := h.few
  have hlen := h.len
  have HX0 := Lib.hid h
  obtain ⟨W1, hW1⟩ : ∃ W1, W1 = w.alloc (.cells #[.int .i64 i, .int .i64 fr, .int .i64 dst, .slice A0 b.length c0] 37) := ⟨_, rfl⟩
  have hB1 : Below w.heap.size w W1 := by rw [hW1]; exact below_alloc _ _
  have hX1 := h.later hB1
  obtain ⟨e0, e1, e2, e3⟩ := hX1.cells
  have f2 := hX1.free 2
  have f3 := hX1.free 3
  have hp : p < w.heap.size := h.lt
  have HX1 := Lib.hid hX1
  have HB1 := Lib.hid hB1
  have kbx : W1.heap[w.heap.size]? = some (.cells #[.int .i64 i, .int .i64 fr, .int .i64 dst, .slice A0 b.length c0] 37 (0, 0)) := by rw [hW1]; exact heap_new w _
  have hz1 : W1.heap.size = w.heap.size + 1 := by rw [hW1]; simp
  have HBy := Lib.hid (hy.later hB1)
  obtain ⟨n, hn⟩ : ∃ n, n = vs.length := ⟨_, rfl⟩
  rw [← hn] at e1 hfew hlen
  have HN := Lib.hid hn
  have HLen := Lib.hid hlen
  have HW1 := Lib.hid hW1
  clear h hB1 hX1 hy hn hlen hW1
  go_enter Try.func30, Try.ntmps30
  by_cases hf : 4096 ≤ n
  · have hf' : (4096 : Int) ≤ (n : Int) := by omega
    have HF : Hid (4096 ≤ s.l.length) := Lib.hid (by have := HLen.out; omega)
    have HE : Hid (NT T (fun k => F k ∨ w.heap.size ≤ k) (W1.setCell ⟨p, 3, none⟩ (.int .i64 (s.lost + 1))) p (addS s fr dst b).2 ∧ Moved F w (W1.setCell ⟨p, 3, none⟩ (.int .i64 (s.lost + 1)))) := Lib.hid (by
      unfold addS; rw [if_pos HF.out]
      exact ⟨⟨A, c, vs, (HX1.out.setLost (s.lost + 1) (by omega)).wide (fun k h => .inl h)⟩, (Below.movedNew HB1.out).setCell (.inr HX0.out.inF.1) _⟩)
    clear kbx hz1
    go_wp2_with (rw [← HW1.out])
    go_ret2
    refine ⟨?_, HE.out.1, HE.out.2⟩
    unfold addS; rw [if_pos HF.out]; rfl
  · have hf' : ¬ (4096 : Int) ≤ (n : Int) := by omega
    have HF : Hid (¬ 4096 ≤ s.l.length) := Lib.hid (by have := HLen.out; omega)
    obtain ⟨i0, hinfo, hz0, hzs, hz2⟩ := info_parts (P := Try.prog) (e := 37) (z := zPk) (size := 4) (bytes := 48) (by kernel_rfl)
    obtain ⟨j0, jinfo, jz0, jzs, jz2⟩ := info_parts u8_info
    have HX2 := Lib.hid (HX1.out.setLast (s.last + 1) (by omega))
    have HM2 : Hid (Moved F w (W1.setCell ⟨p, 2, none⟩ (.int .i64 (s.last + 1)))) := Lib.hid ((Below.movedNew HB1.out).setCell (.inr HX0.out.inF.1) _)
    have hpne : w.heap.size ≠ p := by omega
    have kb2 : (W1.setCell ⟨p, 2, none⟩ (.int .i64 (s.last + 1))).heap[w.heap.size]? = some (.cells #[.int .i64 i, .int .i64 fr, .int .i64 dst, .slice A0 b.length c0] 37 (0, 0)) := (Below.heap_setCell W1 _ _ w.heap.size hpne).trans kbx
    have HBy2 : Hid (Byt (W1.setCell ⟨p, 2, none⟩ (.int .i64 (s.last + 1))) A0 b) := Lib.hid (byt_setCell HBy.out e2 (fun _ h => nomatch h))
    obtain ⟨w2, HW2⟩ : ∃ w2, Hid (w2 = W1.setCell ⟨p, 2, none⟩ (.int .i64 (s.last + 1))) := ⟨_, Lib.hid rfl⟩
    rw [← HW2.out] at HX2 HM2 kb2 HBy2
    have HZ2 : Hid (w.heap.size < w2.heap.size) := Lib.hid (heap_lt kb2)
    go_wp2_with (first | rw [← HW1.out] | rw [← HW2.out])
    clear e0 e1 e2 e3 f2 f3 kbx hz1
    -- what every world of the region holds
    have HSt : Hid (∀ V, Below w2.heap.size w2 V → (V.cell? ⟨p, 1, none⟩ = some (.slice A n c) ∧ V.cell? ⟨p, 2, none⟩ = some (.int .i64 (s.last + 1)) ∧ V.frozen? ⟨p, 1, none⟩ = false) ∧ (V.cell? ⟨w.heap.size, 1, none⟩ = some (.int .i64 fr) ∧ V.cell? ⟨w.heap.size, 2, none⟩ = some (.int .i64 dst) ∧ V.cell? ⟨w.heap.size, 3, none⟩ = some (.slice A0 b.length c0))) := Lib.hid (fun V hV => by
      have hx := HX2.out.later hV
      have hk := (hV.block _ HZ2.out).trans kb2
      exact ⟨⟨by rw [HN.out]; exact hx.cells.2.1, hx.cells.2.2.1, hx.free 1⟩, cell_of_row _ _ 1 _ _ _ hk, cell_of_row _ _ 2 _ _ _ hk, cell_of_row _ _ 3 _ _ _ hk⟩)
    have HNews : Hid (∀ V, Below w2.heap.size w2 V → 0 < n → ∃ ad, A = some ad ∧ ∀ j u, (cellsP vs)[j]? = some u → V.cell? (ad.add j) = some u) := Lib.hid (fun V hV h0 => by
      have hr := (HX2.out.later hV).row
      rcases A with _ | ad
      · rcases hr.2 with ⟨_, h1⟩ | ⟨g', cap, cur, h1, _⟩
        · have := HN.out; omega
        · cases h1
      · refine ⟨ad, rfl, fun j u hu => ?_⟩
        have hj : j < vs.length * 4 := by rw [← cellsP_len]; exact (List.getElem?_eq_some_iff.1 hu).1
        obtain ⟨g, e, hc⟩ := own_cell hr rfl j hj
        injection e with e; subst e
        have e2 : (⟨g, 0, none⟩ : Addr).add j = ⟨g, j, none⟩ := by unfold Addr.add; split <;> simp_all
        rw [e2]; exact hc.trans hu)
    have HByV : Hid (∀ V, Below w2.heap.size w2 V → Byt V A0 b) := Lib.hid (fun V hV => HBy2.out.later hV)
    have HLn : Hid ((cellsP vs).length = n * 4) := Lib.hid (by rw [cellsP_len, HN.out])
    have HEnd : Hid (∀ (V : World) (A5 : Option Addr) (d5 : Nat) (AY : Option Addr) (cy : Nat), Below w2.heap.size w2 V → V.ownsRow w2.heap.size 37 4 (.slice A5 (n + 1) d5) (n + 1) (cellsP vs ++ [.int .i64 (s.last + 1), .int .i64 fr, .int .i64 dst, .slice AY b.length cy]) → V.ownsRow w2.heap.size 5 1 (.slice AY b.length cy) b.length (b.map u8v) →
        NT T (fun k => F k ∨ w.heap.size ≤ k) (V.setCell ⟨p, 1, none⟩ (.slice A5 (n + 1) d5)) p (addS s fr dst b).2 ∧ Moved F w (V.setCell ⟨p, 1, none⟩ (.slice A5 (n + 1) d5))) := Lib.hid (fun V A5 d5 AY cy hV hr hyr => by
      have hx := HX2.out.later hV
      have hsz : w.heap.size ≤ w2.heap.size := Nat.le_of_lt HZ2.out
      refine ⟨?_, (HM2.out.trans (q := fun _ => False) (Below.movedNew hV) (fun _ _ h => h.elim)).setCell (.inr HX0.out.inF.1) _⟩
      rw [HN.out] at hr ⊢
      refine ⟨A5, d5, vs ++ [⟨⟨s.last + 1, fr, dst, b⟩, AY, cy⟩], ⟨good_add HX0.out.good fr dst hb, ?_, ?_, ?_, ⟨.inl hx.inF.1, fun k hk => .inr ?_⟩, fun x hxm => ?_, hx.ty⟩⟩
      · unfold addS; rw [if_neg HF.out, List.map_append, hx.is]; rfl
      · rw [heap_set hx.self 1 _]; unfold addS; rw [if_neg HF.out, List.length_append]; rfl
      · rw [List.length_append, cellsP_append]
        exact own_setSelf (own_zero hr) hx.self hx.ty.1 _
      · rw [List.length_append] at hk
        exact Nat.le_trans hsz (hr.lt k hk).1
      · rcases List.mem_append.1 hxm with h1 | h1
        · exact ((hx.bod x h1).wide (fun k hk => .inl hk)).setSelf hx.self hx.ty.2 _
        · obtain rfl := List.mem_singleton.1 h1
          exact BodV.setSelf ⟨own_zero hyr, fun k hk => .inr (Nat.le_trans hsz (hyr.lt k hk).1)⟩ hx.self hx.ty.2 _)
    clear kb2
    refine wp_region_heldz_drew (S := (fun V => Below w2.heap.size w2 V)) 24 (by kernel_rfl) (Below.refl _ _).drew (fun hHeld => ?_)
    refine wpAnyZ_take (i := 0) (v := ?vv1) rfl (by kernel_rfl) (by kernel_rfl) (by kernel_rfl) (fun _ _ _ h => h) (Or.inl ⟨by rfl, ?hy1⟩) hHeld ?rr1
    case hy1 => (intro w' hSw; obtain ⟨⟨s0, s1, s2⟩, s3, s4, s5⟩ := HSt.out _ hSw; go_simp; try with_reducible rfl)
    try simp only [Act.put, List.setIfInBounds_toArray, List.set_cons_zero, List.set_cons_succ, List.getElem_toArray, List.getElem_cons_succ, List.getElem_cons_zero]
    refine wpAnyZ_take (i := 2) (v := ?vv2) rfl (by kernel_rfl) (by kernel_rfl) (by kernel_rfl) (fun _ _ _ h => h) (Or.inl ⟨by rfl, ?hy2⟩) hHeld ?rr2
    case hy2 => (intro w' hSw; obtain ⟨⟨s0, s1, s2⟩, s3, s4, s5⟩ := HSt.out _ hSw; go_simp; try with_reducible rfl)
    try simp only [Act.put, List.setIfInBounds_toArray, List.set_cons_zero, List.set_cons_succ, List.getElem_toArray, List.getElem_cons_succ, List.getElem_cons_zero]
    refine wpAnyZ_take (i := 3) (v := ?vv3) rfl (by kernel_rfl) (by kernel_rfl) (by kernel_rfl) (fun _ _ _ h => h) (Or.inl ⟨by rfl, ?hy3⟩) hHeld ?rr3
    case hy3 => (intro w' hSw; obtain ⟨⟨s0, s1, s2⟩, s3, s4, s5⟩ := HSt.out _ hSw; go_simp; try with_reducible rfl)
    try simp only [Act.put, List.setIfInBounds_toArray, List.set_cons_zero, List.set_cons_succ, List.getElem_toArray, List.getElem_cons_succ, List.getElem_cons_zero]
    refine wpAnyZ_take (i := 4) (v := ?vv4) rfl (by kernel_rfl) (by kernel_rfl) (by kernel_rfl) (fun _ _ _ h => h) (Or.inl ⟨by rfl, ?hy4⟩) hHeld ?rr4
    case hy4 => (intro w' hSw; obtain ⟨⟨s0, s1, s2⟩, s3, s4, s5⟩ := HSt.out _ hSw; go_simp; try with_reducible rfl)
    try simp only [Act.put, List.setIfInBounds_toArray, List.set_cons_zero, List.set_cons_succ, List.getElem_toArray, List.getElem_cons_succ, List.getElem_cons_zero]
    refine wpAnyZ_take (i := 5) (v := ?vv5) rfl (by kernel_rfl) (by kernel_rfl) (by kernel_rfl) (fun _ _ _ h => h) (Or.inl ⟨by rfl, ?hy5⟩) hHeld ?rr5
    case hy5 => (intro w' hSw; obtain ⟨⟨s0, s1, s2⟩, s3, s4, s5⟩ := HSt.out _ hSw; go_simp; try with_reducible rfl)
    try simp only [Act.put, List.setIfInBounds_toArray, List.set_cons_zero, List.set_cons_succ, List.getElem_toArray, List.getElem_cons_succ, List.getElem_cons_zero]
    refine wpAnyZ_take (i := 7) (v := ?vv6) rfl (by kernel_rfl) (by kernel_rfl) (by kernel_rfl) (fun _ _ _ h => h) (Or.inl ⟨by rfl, ?hy6⟩) hHeld ?rr6
    case hy6 => (intro w' hSw; obtain ⟨⟨s0, s1, s2⟩, s3, s4, s5⟩ := HSt.out _ hSw; go_simp; try with_reducible rfl)
    try simp only [Act.put, List.setIfInBounds_toArray, List.set_cons_zero, List.set_cons_succ, List.getElem_toArray, List.getElem_cons_succ, List.getElem_cons_zero]
    refine wpAnyZ_take (i := 8) (v := ?vv7) rfl (by kernel_rfl) (by kernel_rfl) (by kernel_rfl) (fun _ _ _ h => h) (Or.inl ⟨by rfl, ?hy7⟩) hHeld ?rr7
    case hy7 => (intro w' hSw; obtain ⟨⟨s0, s1, s2⟩, s3, s4, s5⟩ := HSt.out _ hSw; go_simp; try with_reducible rfl)
    try simp only [Act.put, List.setIfInBounds_toArray, List.set_cons_zero, List.set_cons_succ, List.getElem_toArray, List.getElem_cons_succ, List.getElem_cons_zero]
    refine wpAnyZ_take (i := 9) (v := ?vv8) rfl (by kernel_rfl) (by kernel_rfl) (by kernel_rfl) (fun _ _ _ h => h) (Or.inl ⟨by rfl, ?hy8⟩) hHeld ?rr8
    case hy8 => (intro w' hSw; obtain ⟨⟨s0, s1, s2⟩, s3, s4, s5⟩ := HSt.out _ hSw; go_simp; try with_reducible rfl)
    try simp only [Act.put, List.setIfInBounds_toArray, List.set_cons_zero, List.set_cons_succ, List.getElem_toArray, List.getElem_cons_succ, List.getElem_cons_zero]
    refine wpAnyZ_take (i := 10) (v := ?vv9) rfl (by kernel_rfl) (by kernel_rfl) (by kernel_rfl) (fun _ _ _ h => h) (Or.inl ⟨by rfl, ?hy9⟩) hHeld ?rr9
    case hy9 => (intro w' hSw; obtain ⟨⟨s0, s1, s2⟩, s3, s4, s5⟩ := HSt.out _ hSw; go_simp; try with_reducible rfl)
    try simp only [Act.put, List.setIfInBounds_toArray, List.set_cons_zero, List.set_cons_succ, List.getElem_toArray, List.getElem_cons_succ, List.getElem_cons_zero]
    refine wpAnyZ_take (i := 11) (v := ?vv10) rfl (by kernel_rfl) (by kernel_rfl) (by kernel_rfl) (fun _ _ _ h => h) (Or.inl ⟨by rfl, ?hy10⟩) hHeld ?rr10
    case hy10 => (intro w' hSw; obtain ⟨⟨s0, s1, s2⟩, s3, s4, s5⟩ := HSt.out _ hSw; go_simp; try with_reducible rfl)
    try simp only [Act.put, List.setIfInBounds_toArray, List.set_cons_zero, List.set_cons_succ, List.getElem_toArray, List.getElem_cons_succ, List.getElem_cons_zero]
    refine wpAnyZ_take (i := 12) (v := ?vv11) rfl (by kernel_rfl) (by kernel_rfl) (by kernel_rfl) (fun _ _ _ h => h) (Or.inl ⟨by rfl, ?hy11⟩) hHeld ?rr11
    case hy11 => (intro w' hSw; obtain ⟨⟨s0, s1, s2⟩, s3, s4, s5⟩ := HSt.out _ hSw; go_simp; try with_reducible rfl)
    try simp only [Act.put, List.setIfInBounds_toArray, List.set_cons_zero, List.set_cons_succ, List.getElem_toArray, List.getElem_cons_succ, List.getElem_cons_zero]
    refine wpAnyZ_take (i := 13) (v := ?vv12) rfl (by kernel_rfl) (by kernel_rfl) (by kernel_rfl) (fun _ _ _ h => h) (Or.inl ⟨by rfl, ?hy12⟩) hHeld ?rr12
    case hy12 => (intro w' hSw; obtain ⟨⟨s0, s1, s2⟩, s3, s4, s5⟩ := HSt.out _ hSw; go_simp; try with_reducible rfl)
    try simp only [Act.put, List.setIfInBounds_toArray, List.set_cons_zero, List.set_cons_succ, List.getElem_toArray, List.getElem_cons_succ, List.getElem_cons_zero]
    refine wpAnyZ_take (i := 14) (v := ?vv13) rfl (by kernel_rfl) (by kernel_rfl) (by kernel_rfl) (fun _ _ _ h => h) (Or.inl ⟨by rfl, ?hy13⟩) hHeld ?rr13
    case hy13 => (intro w' hSw; obtain ⟨⟨s0, s1, s2⟩, s3, s4, s5⟩ := HSt.out _ hSw; go_simp; try with_reducible rfl)
    try simp only [Act.put, List.setIfInBounds_toArray, List.set_cons_zero, List.set_cons_succ, List.getElem_toArray, List.getElem_cons_succ, List.getElem_cons_zero]
    refine wpAnyZ_take (i := 16) (v := ?vv14) rfl (by kernel_rfl) (by kernel_rfl) (by kernel_rfl) (fun _ _ _ h => h) (Or.inl ⟨by rfl, ?hy14⟩) hHeld ?rr14
    case hy14 => (intro w' hSw; obtain ⟨⟨s0, s1, s2⟩, s3, s4, s5⟩ := HSt.out _ hSw; go_simp; try with_reducible rfl)
    try simp only [Act.put, List.setIfInBounds_toArray, List.set_cons_zero, List.set_cons_succ, List.getElem_toArray, List.getElem_cons_succ, List.getElem_cons_zero]
    refine wpAnyZ_take (i := 17) (v := ?vv15) rfl (by kernel_rfl) (by kernel_rfl) (by kernel_rfl) (fun _ _ _ h => h) (Or.inl ⟨by rfl, ?hy15⟩) hHeld ?rr15
    case hy15 => (intro w' hSw; obtain ⟨⟨s0, s1, s2⟩, s3, s4, s5⟩ := HSt.out _ hSw; go_simp; try with_reducible rfl)
    try simp only [Act.put, List.setIfInBounds_toArray, List.set_cons_zero, List.set_cons_succ, List.getElem_toArray, List.getElem_cons_succ, List.getElem_cons_zero]
    refine at_world (C := fun V => wpAnyZ _ _ _ _ _ _ _ _ _ V) (P := fun V => Below w2.heap.size w2 V) (Below.refl _ _).drew (fun V0 hV => ?_)
    have HB0 := Lib.hid hV
    clear hHeld hV
    have hHeld := HB0.out
    refine wpAnyZ_ready (rs := [1, 15]) (by kernel_rfl) (by simp) ?_
    refine AllReadyZ.cons rfl (fun K hK => ?_) (AllReadyZ.cons rfl (fun K hK => ?_) AllReadyZ.nil)
    · try rw [if_pos (by rfl)]
      obtain ⟨gR, hgR⟩ : ∃ g, g = V0.heap.size := ⟨_, rfl⟩
      skip
      go_simp
      refine hK.out _ _ (HB0.out.alloc HB0.out.size _) (fun hHeld2 => ?_)
      clear hK K hHeld
      have hHeld := hHeld2
      clear hHeld2
      try simp only [Act.put, List.setIfInBounds_toArray, List.set_cons_zero, List.set_cons_succ, List.getElem_toArray, List.getElem_cons_succ, List.getElem_cons_zero]
      try rw [← hgR]
      refine at_world (C := fun V => wpAnyZ _ _ _ _ _ _ _ _ _ V) (P := fun V => (Below w2.heap.size w2 V) ∧ (V.ownsRow w2.heap.size 37 4 (.slice (some ⟨gR, 0, none⟩) 0 0) 0 [])) ⟨HB0.out.alloc HB0.out.size _, (by rw [hgR]; exact World.ownsRow_made V0 #[] 0 HB0.out.size (Nat.zero_le _) rfl)⟩ (fun V1 hV => ?_)
      obtain ⟨q0, q1⟩ := hV
      have HB1 := Lib.hid q0
      have HR1 := Lib.hid q1
      clear hHeld q0 q1
      have hHeld := HB1.out
      clear hgR
      refine wpAnyZ_ready (rs := [6, 15]) (by kernel_rfl) (by simp) ?_
      refine AllReadyZ.cons rfl (fun K hK => ?_) (AllReadyZ.cons rfl (fun K hK => ?_) AllReadyZ.nil)
      · try rw [if_pos (by rfl)]
        refine oper_append_k _ (.tmp 27) (.tmp 31) 48 rfl 37 i0 zPk 4 48 Try.underlying48 hinfo hz0 hzs hz2 rfl (by decide) w2.heap.size (.slice (some ⟨gR, 0, none⟩) 0 0) 0 [] rfl HR1.out A n c (cellsP vs) rfl HLn.out (HNews.out _ HB1.out) (cellsP_one _) (by unfold maxLen; omega) (by omega) HB1.out.size ?_
        intro A5 d5 V2 hown hgrow _
        simp only [Nat.zero_add, List.nil_append] at hown ⊢
        have HB2 : Hid (Below w2.heap.size w2 V2) := Lib.hid (HB1.out.grown hgrow HB1.out.size (fun j e => (HR1.out.lt j e).1))
        have HR2 := Lib.hid hown
        clear hown hgrow
        refine hK.out _ _ HB2.out (fun hHeld2 => ?_)
        clear hK K hHeld
        have hHeld := hHeld2
        clear hHeld2
        try simp only [Act.put, List.setIfInBounds_toArray, List.set_cons_zero, List.set_cons_succ, List.getElem_toArray, List.getElem_cons_succ, List.getElem_cons_zero]
        refine wpAnyZ_ready (rs := [15]) (by kernel_rfl) (by simp) ?_
        refine AllReadyZ.cons rfl (fun K hK => ?_) AllReadyZ.nil
        try rw [if_pos (by rfl)]
        obtain ⟨gY, hgY⟩ : ∃ g, g = V2.heap.size := ⟨_, rfl⟩
        skip
        go_simp
        refine hK.out _ _ (HB2.out.alloc HB2.out.size _) (fun hHeld2 => ?_)
        clear hK K hHeld
        have hHeld := hHeld2
        clear hHeld2
        try simp only [Act.put, List.setIfInBounds_toArray, List.set_cons_zero, List.set_cons_succ, List.getElem_toArray, List.getElem_cons_succ, List.getElem_cons_zero]
        try rw [← hgY]
        refine at_world (C := fun V => wpAnyZ _ _ _ _ _ _ _ _ _ V) (P := fun V => (Below w2.heap.size w2 V) ∧ (V.ownsRow w2.heap.size 37 4 (.slice A5 n d5) n (cellsP vs)) ∧ (V.ownsRow w2.heap.size 5 1 (.slice (some ⟨gY, 0, none⟩) 0 0) 0 [])) ⟨HB2.out.alloc HB2.out.size _, (own_moved (p := fun _ => False) HR2.out (Below.movedNew (below_alloc _ _)) (fun _ _ h => h)), (by rw [hgY]; exact World.ownsRow_made V2 #[] 0 HB2.out.size (Nat.zero_le _) rfl)⟩ (fun V3 hV => ?_)
        obtain ⟨q0, q1, q2⟩ := hV
        have HB3 := Lib.hid q0
        have HR3 := Lib.hid q1
        have HY3 := Lib.hid q2
        clear hHeld q0 q1 q2
        have hHeld := HB3.out
        clear hgY
        refine wpAnyZ_ready (rs := [18]) (by kernel_rfl) (by simp) ?_
        refine AllReadyZ.cons rfl (fun K hK => ?_) AllReadyZ.nil
        try rw [if_pos (by rfl)]
        refine oper_append_k _ (.tmp 41) (.tmp 43) 31 rfl 5 j0 (.int .u8 0) 1 1 Try.underlying31 jinfo jz0 jzs jz2 rfl (by decide) w2.heap.size (.slice (some ⟨gY, 0, none⟩) 0 0) 0 [] rfl HY3.out A0 b.length c0 (b.map u8v) rfl (by simp) (byt_src (HByV.out _ HB3.out)) (u8v_one b) (by unfold maxLen; omega) (by omega) HB3.out.size ?_
        intro AY cy V4 hown hgrow _
        simp only [Nat.zero_add, List.nil_append] at hown ⊢
        have HB4 : Hid (Below w2.heap.size w2 V4) := Lib.hid (HB3.out.grown hgrow HB3.out.size (fun j e => (HY3.out.lt j e).1))
        have HY4 := Lib.hid hown
        have HR4 := Lib.hid (HR3.out.kept hgrow (own_parts HR3.out HY3.out (by decide)))
        clear hown hgrow
        refine hK.out _ _ HB4.out (fun hHeld2 => ?_)
        clear hK K hHeld
        have hHeld := hHeld2
        clear hHeld2
        try simp only [Act.put, List.setIfInBounds_toArray, List.set_cons_zero, List.set_cons_succ, List.getElem_toArray, List.getElem_cons_succ, List.getElem_cons_zero]
        refine wpAnyZ_take (i := 19) (v := ?vv16) rfl (by kernel_rfl) (by kernel_rfl) (by kernel_rfl) (fun _ _ _ h => h) (Or.inl ⟨by rfl, ?hy16⟩) hHeld ?rr16
        case hy16 => (intro w' hSw; obtain ⟨⟨s0, s1, s2⟩, s3, s4, s5⟩ := HSt.out _ hSw; go_simp; try with_reducible rfl)
        try simp only [Act.put, List.setIfInBounds_toArray, List.set_cons_zero, List.set_cons_succ, List.getElem_toArray, List.getElem_cons_succ, List.getElem_cons_zero]
        refine wpAnyZ_ready (rs := [20]) (by kernel_rfl) (by simp) ?_
        refine AllReadyZ.cons rfl (fun K hK => ?_) AllReadyZ.nil
        try rw [if_pos (by rfl)]
        obtain ⟨gT, hgT⟩ : ∃ g, g = V4.heap.size := ⟨_, rfl⟩
        skip
        go_simp
        refine hK.out _ _ (HB4.out.alloc HB4.out.size _) (fun hHeld2 => ?_)
        clear hK K hHeld
        have hHeld := hHeld2
        clear hHeld2
        try simp only [Act.put, List.setIfInBounds_toArray, List.set_cons_zero, List.set_cons_succ, List.getElem_toArray, List.getElem_cons_succ, List.getElem_cons_zero]
        try rw [← hgT]
        refine at_world (C := fun V => wpAnyZ _ _ _ _ _ _ _ _ _ V) (P := fun V => (Below w2.heap.size w2 V) ∧ (V.ownsRow w2.heap.size 37 4 (.slice A5 n d5) n (cellsP vs)) ∧ (V.ownsRow w2.heap.size 5 1 (.slice AY b.length cy) b.length (b.map u8v)) ∧ (V.heap[gT]? = some (.cells #[.int .i64 (s.last + 1), .int .i64 fr, .int .i64 dst, .slice AY b.length cy] 37 (0, 0)))) ⟨HB4.out.alloc HB4.out.size _, (own_moved (p := fun _ => False) HR4.out (Below.movedNew (below_alloc _ _)) (fun _ _ h => h)), (own_moved (p := fun _ => False) HY4.out (Below.movedNew (below_alloc _ _)) (fun _ _ h => h)), (by rw [hgT]; exact heap_new V4 _)⟩ (fun V5 hV => ?_)
        obtain ⟨q0, q1, q2, q3⟩ := hV
        have HB5 := Lib.hid q0
        have HR5 := Lib.hid q1
        have HY5 := Lib.hid q2
        have HT5 := Lib.hid q3
        clear hHeld q0 q1 q2 q3
        have hHeld := HB5.out
        clear hgT
        refine wpAnyZ_ready (rs := [21]) (by kernel_rfl) (by simp) ?_
        refine AllReadyZ.cons rfl (fun K hK => ?_) AllReadyZ.nil
        try rw [if_pos (by rfl)]
        refine oper_append_k _ (.tmp 32) (.tmp 46) 48 rfl 37 i0 zPk 4 48 Try.underlying48 hinfo hz0 hzs hz2 rfl (by decide) w2.heap.size (.slice A5 n d5) n (cellsP vs) rfl HR5.out (some ⟨gT, 0, none⟩) 1 1 [.int .i64 (s.last + 1), .int .i64 fr, .int .i64 dst, .slice AY b.length cy] rfl rfl (fun _ => ⟨_, rfl, cells_of_block HT5.out⟩) (fun u hu => by simp at hu; rcases hu with rfl | rfl | rfl | rfl <;> rfl) (by unfold maxLen; omega) (by omega) HB5.out.size ?_
        intro A6 d6 V6 hown hgrow _
        have HB6 : Hid (Below w2.heap.size w2 V6) := Lib.hid (HB5.out.grown hgrow HB5.out.size (fun j e => (HR5.out.lt j e).1))
        have HE := Lib.hid (HEnd.out V6 A6 d6 AY cy HB6.out hown (HY5.out.kept hgrow (own_parts HY5.out HR5.out (by decide))))
        clear hown hgrow
        obtain ⟨⟨b0, b1, b2⟩, b3⟩ := HSt.out _ HB6.out
        refine hK.out _ _ HB6.out (fun hHeld2 => ?_)
        clear hK K hHeld
        have hHeld := hHeld2
        clear hHeld2
        try simp only [Act.put, List.setIfInBounds_toArray, List.set_cons_zero, List.set_cons_succ, List.getElem_toArray, List.getElem_cons_succ, List.getElem_cons_zero]
        refine wpAnyZ_ready (rs := [22]) (by kernel_rfl) (by simp) ?_
        refine AllReadyZ.cons rfl (fun K hK => ?_) AllReadyZ.nil
        try rw [if_pos (by rfl)]
        go_simp
        refine hK.out _ _ HB6.out (fun hHeld2 => ?_)
        clear hK K hHeld
        have hHeld := hHeld2
        clear hHeld2
        try simp only [Act.put, List.setIfInBounds_toArray, List.set_cons_zero, List.set_cons_succ, List.getElem_toArray, List.getElem_cons_succ, List.getElem_cons_zero]
        refine wpAnyZ_take (i := 23) (v := ?vv17) rfl (by kernel_rfl) (by kernel_rfl) (by kernel_rfl) (fun _ _ _ h => h) (Or.inl ⟨by rfl, ?hy17⟩) hHeld ?rr17
        case hy17 => (intro w' hSw; obtain ⟨⟨s0, s1, s2⟩, s3, s4, s5⟩ := HSt.out _ hSw; go_simp; try with_reducible rfl)
        try simp only [Act.put, List.setIfInBounds_toArray, List.set_cons_zero, List.set_cons_succ, List.getElem_toArray, List.getElem_cons_succ, List.getElem_cons_zero]
        refine wpAnyZ_ready (rs := [24]) (by kernel_rfl) (by simp) ?_
        refine AllReadyZ.last rfl (fun K hK => ?_)
        try rw [if_pos (by rfl)]
        go_simp
        refine hK.out _ _ ?_
        clear hK K hHeld
        try simp only [Act.put, List.setIfInBounds_toArray, List.set_cons_zero, List.set_cons_succ, List.getElem_toArray, List.getElem_cons_succ, List.getElem_cons_zero]
        refine wpAnyZ_done (by kernel_rfl) ?_ _
        go_wp2
        go_ret2
        refine ⟨?_, HE.out.1, HE.out.2⟩
        unfold addS; rw [if_neg HF.out]; rfl
      · try rw [if_pos (by rfl)]
        obtain ⟨gY, hgY⟩ : ∃ g, g = V1.heap.size := ⟨_, rfl⟩
        skip
        go_simp
        refine hK.out _ _ (HB1.out.alloc HB1.out.size _) (fun hHeld2 => ?_)
        clear hK K hHeld
        have hHeld := hHeld2
        clear hHeld2
        try simp only [Act.put, List.setIfInBounds_toArray, List.set_cons_zero, List.set_cons_succ, List.getElem_toArray, List.getElem_cons_succ, List.getElem_cons_zero]
        try rw [← hgY]
        refine at_world (C := fun V => wpAnyZ _ _ _ _ _ _ _ _ _ V) (P := fun V => (Below w2.heap.size w2 V) ∧ (V.ownsRow w2.heap.size 37 4 (.slice (some ⟨gR, 0, none⟩) 0 0) 0 []) ∧ (V.ownsRow w2.heap.size 5 1 (.slice (some ⟨gY, 0, none⟩) 0 0) 0 [])) ⟨HB1.out.alloc HB1.out.size _, (own_moved (p := fun _ => False) HR1.out (Below.movedNew (below_alloc _ _)) (fun _ _ h => h)), (by rw [hgY]; exact World.ownsRow_made V1 #[] 0 HB1.out.size (Nat.zero_le _) rfl)⟩ (fun V2 hV => ?_)
        obtain ⟨q0, q1, q2⟩ := hV
        have HB2 := Lib.hid q0
        have HR2 := Lib.hid q1
        have HY2 := Lib.hid q2
        clear hHeld q0 q1 q2
        have hHeld := HB2.out
        clear hgY
        refine wpAnyZ_ready (rs := [6]) (by kernel_rfl) (by simp) ?_
        refine AllReadyZ.cons rfl (fun K hK => ?_) AllReadyZ.nil
        try rw [if_pos (by rfl)]
        refine oper_append_k _ (.tmp 27) (.tmp 31) 48 rfl 37 i0 zPk 4 48 Try.underlying48 hinfo hz0 hzs hz2 rfl (by decide) w2.heap.size (.slice (some ⟨gR, 0, none⟩) 0 0) 0 [] rfl HR2.out A n c (cellsP vs) rfl HLn.out (HNews.out _ HB2.out) (cellsP_one _) (by unfold maxLen; omega) (by omega) HB2.out.size ?_
        intro A5 d5 V3 hown hgrow _
        simp only [Nat.zero_add, List.nil_append] at hown ⊢
        have HB3 : Hid (Below w2.heap.size w2 V3) := Lib.hid (HB2.out.grown hgrow HB2.out.size (fun j e => (HR2.out.lt j e).1))
        have HR3 := Lib.hid hown
        have HY3 := Lib.hid (HY2.out.kept hgrow (own_parts HY2.out HR2.out (by decide)))
        clear hown hgrow
        refine hK.out _ _ HB3.out (fun hHeld2 => ?_)
        clear hK K hHeld
        have hHeld := hHeld2
        clear hHeld2
        try simp only [Act.put, List.setIfInBounds_toArray, List.set_cons_zero, List.set_cons_succ, List.getElem_toArray, List.getElem_cons_succ, List.getElem_cons_zero]
        refine wpAnyZ_ready (rs := [18]) (by kernel_rfl) (by simp) ?_
        refine AllReadyZ.cons rfl (fun K hK => ?_) AllReadyZ.nil
        try rw [if_pos (by rfl)]
        refine oper_append_k _ (.tmp 41) (.tmp 43) 31 rfl 5 j0 (.int .u8 0) 1 1 Try.underlying31 jinfo jz0 jzs jz2 rfl (by decide) w2.heap.size (.slice (some ⟨gY, 0, none⟩) 0 0) 0 [] rfl HY3.out A0 b.length c0 (b.map u8v) rfl (by simp) (byt_src (HByV.out _ HB3.out)) (u8v_one b) (by unfold maxLen; omega) (by omega) HB3.out.size ?_
        intro AY cy V4 hown hgrow _
        simp only [Nat.zero_add, List.nil_append] at hown ⊢
        have HB4 : Hid (Below w2.heap.size w2 V4) := Lib.hid (HB3.out.grown hgrow HB3.out.size (fun j e => (HY3.out.lt j e).1))
        have HY4 := Lib.hid hown
        have HR4 := Lib.hid (HR3.out.kept hgrow (own_parts HR3.out HY3.out (by decide)))
        clear hown hgrow
        refine hK.out _ _ HB4.out (fun hHeld2 => ?_)
        clear hK K hHeld
        have hHeld := hHeld2
        clear hHeld2
        try simp only [Act.put, List.setIfInBounds_toArray, List.set_cons_zero, List.set_cons_succ, List.getElem_toArray, List.getElem_cons_succ, List.getElem_cons_zero]
        refine wpAnyZ_take (i := 19) (v := ?vv18) rfl (by kernel_rfl) (by kernel_rfl) (by kernel_rfl) (fun _ _ _ h => h) (Or.inl ⟨by rfl, ?hy18⟩) hHeld ?rr18
        case hy18 => (intro w' hSw; obtain ⟨⟨s0, s1, s2⟩, s3, s4, s5⟩ := HSt.out _ hSw; go_simp; try with_reducible rfl)
        try simp only [Act.put, List.setIfInBounds_toArray, List.set_cons_zero, List.set_cons_succ, List.getElem_toArray, List.getElem_cons_succ, List.getElem_cons_zero]
        refine wpAnyZ_ready (rs := [20]) (by kernel_rfl) (by simp) ?_
        refine AllReadyZ.cons rfl (fun K hK => ?_) AllReadyZ.nil
        try rw [if_pos (by rfl)]
        obtain ⟨gT, hgT⟩ : ∃ g, g = V4.heap.size := ⟨_, rfl⟩
        skip
        go_simp
        refine hK.out _ _ (HB4.out.alloc HB4.out.size _) (fun hHeld2 => ?_)
        clear hK K hHeld
        have hHeld := hHeld2
        clear hHeld2
        try simp only [Act.put, List.setIfInBounds_toArray, List.set_cons_zero, List.set_cons_succ, List.getElem_toArray, List.getElem_cons_succ, List.getElem_cons_zero]
        try rw [← hgT]
        refine at_world (C := fun V => wpAnyZ _ _ _ _ _ _ _ _ _ V) (P := fun V => (Below w2.heap.size w2 V) ∧ (V.ownsRow w2.heap.size 37 4 (.slice A5 n d5) n (cellsP vs)) ∧ (V.ownsRow w2.heap.size 5 1 (.slice AY b.length cy) b.length (b.map u8v)) ∧ (V.heap[gT]? = some (.cells #[.int .i64 (s.last + 1), .int .i64 fr, .int .i64 dst, .slice AY b.length cy] 37 (0, 0)))) ⟨HB4.out.alloc HB4.out.size _, (own_moved (p := fun _ => False) HR4.out (Below.movedNew (below_alloc _ _)) (fun _ _ h => h)), (own_moved (p := fun _ => False) HY4.out (Below.movedNew (below_alloc _ _)) (fun _ _ h => h)), (by rw [hgT]; exact heap_new V4 _)⟩ (fun V5 hV => ?_)
        obtain ⟨q0, q1, q2, q3⟩ := hV
        have HB5 := Lib.hid q0
        have HR5 := Lib.hid q1
        have HY5 := Lib.hid q2
        have HT5 := Lib.hid q3
        clear hHeld q0 q1 q2 q3
        have hHeld := HB5.out
        clear hgT
        refine wpAnyZ_ready (rs := [21]) (by kernel_rfl) (by simp) ?_
        refine AllReadyZ.cons rfl (fun K hK => ?_) AllReadyZ.nil
        try rw [if_pos (by rfl)]
        refine oper_append_k _ (.tmp 32) (.tmp 46) 48 rfl 37 i0 zPk 4 48 Try.underlying48 hinfo hz0 hzs hz2 rfl (by decide) w2.heap.size (.slice A5 n d5) n (cellsP vs) rfl HR5.out (some ⟨gT, 0, none⟩) 1 1 [.int .i64 (s.last + 1), .int .i64 fr, .int .i64 dst, .slice AY b.length cy] rfl rfl (fun _ => ⟨_, rfl, cells_of_block HT5.out⟩) (fun u hu => by simp at hu; rcases hu with rfl | rfl | rfl | rfl <;> rfl) (by unfold maxLen; omega) (by omega) HB5.out.size ?_
        intro A6 d6 V6 hown hgrow _
        have HB6 : Hid (Below w2.heap.size w2 V6) := Lib.hid (HB5.out.grown hgrow HB5.out.size (fun j e => (HR5.out.lt j e).1))
        have HE := Lib.hid (HEnd.out V6 A6 d6 AY cy HB6.out hown (HY5.out.kept hgrow (own_parts HY5.out HR5.out (by decide))))
        clear hown hgrow
        obtain ⟨⟨b0, b1, b2⟩, b3⟩ := HSt.out _ HB6.out
        refine hK.out _ _ HB6.out (fun hHeld2 => ?_)
        clear hK K hHeld
        have hHeld := hHeld2
        clear hHeld2
        try simp only [Act.put, List.setIfInBounds_toArray, List.set_cons_zero, List.set_cons_succ, List.getElem_toArray, List.getElem_cons_succ, List.getElem_cons_zero]
        refine wpAnyZ_ready (rs := [22]) (by kernel_rfl) (by simp) ?_
        refine AllReadyZ.cons rfl (fun K hK => ?_) AllReadyZ.nil
        try rw [if_pos (by rfl)]
        go_simp
        refine hK.out _ _ HB6.out (fun hHeld2 => ?_)
        clear hK K hHeld
        have hHeld := hHeld2
        clear hHeld2
        try simp only [Act.put, List.setIfInBounds_toArray, List.set_cons_zero, List.set_cons_succ, List.getElem_toArray, List.getElem_cons_succ, List.getElem_cons_zero]
        refine wpAnyZ_take (i := 23) (v := ?vv19) rfl (by kernel_rfl) (by kernel_rfl) (by kernel_rfl) (fun _ _ _ h => h) (Or.inl ⟨by rfl, ?hy19⟩) hHeld ?rr19
        case hy19 => (intro w' hSw; obtain ⟨⟨s0, s1, s2⟩, s3, s4, s5⟩ := HSt.out _ hSw; go_simp; try with_reducible rfl)
        try simp only [Act.put, List.setIfInBounds_toArray, List.set_cons_zero, List.set_cons_succ, List.getElem_toArray, List.getElem_cons_succ, List.getElem_cons_zero]
        refine wpAnyZ_ready (rs := [24]) (by kernel_rfl) (by simp) ?_
        refine AllReadyZ.last rfl (fun K hK => ?_)
        try rw [if_pos (by rfl)]
        go_simp
        refine hK.out _ _ ?_
        clear hK K hHeld
        try simp only [Act.put, List.setIfInBounds_toArray, List.set_cons_zero, List.set_cons_succ, List.getElem_toArray, List.getElem_cons_succ, List.getElem_cons_zero]
        refine wpAnyZ_done (by kernel_rfl) ?_ _
        go_wp2
        go_ret2
        refine ⟨?_, HE.out.1, HE.out.2⟩
        unfold addS; rw [if_neg HF.out]; rfl
    · try rw [if_pos (by rfl)]
      obtain ⟨gY, hgY⟩ : ∃ g, g = V0.heap.size := ⟨_, rfl⟩
      skip
      go_simp
      refine hK.out _ _ (HB0.out.alloc HB0.out.size _) (fun hHeld2 => ?_)
      clear hK K hHeld
      have hHeld := hHeld2
      clear hHeld2
      try simp only [Act.put, List.setIfInBounds_toArray, List.set_cons_zero, List.set_cons_succ, List.getElem_toArray, List.getElem_cons_succ, List.getElem_cons_zero]
      try rw [← hgY]
      refine at_world (C := fun V => wpAnyZ _ _ _ _ _ _ _ _ _ V) (P := fun V => (Below w2.heap.size w2 V) ∧ (V.ownsRow w2.heap.size 5 1 (.slice (some ⟨gY, 0, none⟩) 0 0) 0 [])) ⟨HB0.out.alloc HB0.out.size _, (by rw [hgY]; exact World.ownsRow_made V0 #[] 0 HB0.out.size (Nat.zero_le _) rfl)⟩ (fun V1 hV => ?_)
      obtain ⟨q0, q1⟩ := hV
      have HB1 := Lib.hid q0
      have HY1 := Lib.hid q1
      clear hHeld q0 q1
      have hHeld := HB1.out
      clear hgY
      refine wpAnyZ_ready (rs := [1]) (by kernel_rfl) (by simp) ?_
      refine AllReadyZ.cons rfl (fun K hK => ?_) AllReadyZ.nil
      try rw [if_pos (by rfl)]
      obtain ⟨gR, hgR⟩ : ∃ g, g = V1.heap.size := ⟨_, rfl⟩
      skip
      go_simp
      refine hK.out _ _ (HB1.out.alloc HB1.out.size _) (fun hHeld2 => ?_)
      clear hK K hHeld
      have hHeld := hHeld2
      clear hHeld2
      try simp only [Act.put, List.setIfInBounds_toArray, List.set_cons_zero, List.set_cons_succ, List.getElem_toArray, List.getElem_cons_succ, List.getElem_cons_zero]
      try rw [← hgR]
      refine at_world (C := fun V => wpAnyZ _ _ _ _ _ _ _ _ _ V) (P := fun V => (Below w2.heap.size w2 V) ∧ (V.ownsRow w2.heap.size 37 4 (.slice (some ⟨gR, 0, none⟩) 0 0) 0 []) ∧ (V.ownsRow w2.heap.size 5 1 (.slice (some ⟨gY, 0, none⟩) 0 0) 0 [])) ⟨HB1.out.alloc HB1.out.size _, (by rw [hgR]; exact World.ownsRow_made V1 #[] 0 HB1.out.size (Nat.zero_le _) rfl), (own_moved (p := fun _ => False) HY1.out (Below.movedNew (below_alloc _ _)) (fun _ _ h => h))⟩ (fun V2 hV => ?_)
      obtain ⟨q0, q1, q2⟩ := hV
      have HB2 := Lib.hid q0
      have HR2 := Lib.hid q1
      have HY2 := Lib.hid q2
      clear hHeld q0 q1 q2
      have hHeld := HB2.out
      clear hgR
      refine wpAnyZ_ready (rs := [6]) (by kernel_rfl) (by simp) ?_
      refine AllReadyZ.cons rfl (fun K hK => ?_) AllReadyZ.nil
      try rw [if_pos (by rfl)]
      refine oper_append_k _ (.tmp 27) (.tmp 31) 48 rfl 37 i0 zPk 4 48 Try.underlying48 hinfo hz0 hzs hz2 rfl (by decide) w2.heap.size (.slice (some ⟨gR, 0, none⟩) 0 0) 0 [] rfl HR2.out A n c (cellsP vs) rfl HLn.out (HNews.out _ HB2.out) (cellsP_one _) (by unfold maxLen; omega) (by omega) HB2.out.size ?_
      intro A5 d5 V3 hown hgrow _
      simp only [Nat.zero_add, List.nil_append] at hown ⊢
      have HB3 : Hid (Below w2.heap.size w2 V3) := Lib.hid (HB2.out.grown hgrow HB2.out.size (fun j e => (HR2.out.lt j e).1))
      have HR3 := Lib.hid hown
      have HY3 := Lib.hid (HY2.out.kept hgrow (own_parts HY2.out HR2.out (by decide)))
      clear hown hgrow
      refine hK.out _ _ HB3.out (fun hHeld2 => ?_)
      clear hK K hHeld
      have hHeld := hHeld2
      clear hHeld2
      try simp only [Act.put, List.setIfInBounds_toArray, List.set_cons_zero, List.set_cons_succ, List.getElem_toArray, List.getElem_cons_succ, List.getElem_cons_zero]
      refine wpAnyZ_ready (rs := [18]) (by kernel_rfl) (by simp) ?_
      refine AllReadyZ.cons rfl (fun K hK => ?_) AllReadyZ.nil
      try rw [if_pos (by rfl)]
      refine oper_append_k _ (.tmp 41) (.tmp 43) 31 rfl 5 j0 (.int .u8 0) 1 1 Try.underlying31 jinfo jz0 jzs jz2 rfl (by decide) w2.heap.size (.slice (some ⟨gY, 0, none⟩) 0 0) 0 [] rfl HY3.out A0 b.length c0 (b.map u8v) rfl (by simp) (byt_src (HByV.out _ HB3.out)) (u8v_one b) (by unfold maxLen; omega) (by omega) HB3.out.size ?_
      intro AY cy V4 hown hgrow _
      simp only [Nat.zero_add, List.nil_append] at hown ⊢
      have HB4 : Hid (Below w2.heap.size w2 V4) := Lib.hid (HB3.out.grown hgrow HB3.out.size (fun j e => (HY3.out.lt j e).1))
      have HY4 := Lib.hid hown
      have HR4 := Lib.hid (HR3.out.kept hgrow (own_parts HR3.out HY3.out (by decide)))
      clear hown hgrow
      refine hK.out _ _ HB4.out (fun hHeld2 => ?_)
      clear hK K hHeld
      have hHeld := hHeld2
      clear hHeld2
      try simp only [Act.put, List.setIfInBounds_toArray, List.set_cons_zero, List.set_cons_succ, List.getElem_toArray, List.getElem_cons_succ, List.getElem_cons_zero]
      refine wpAnyZ_take (i := 19) (v := ?vv20) rfl (by kernel_rfl) (by kernel_rfl) (by kernel_rfl) (fun _ _ _ h => h) (Or.inl ⟨by rfl, ?hy20⟩) hHeld ?rr20
      case hy20 => (intro w' hSw; obtain ⟨⟨s0, s1, s2⟩, s3, s4, s5⟩ := HSt.out _ hSw; go_simp; try with_reducible rfl)
      try simp only [Act.put, List.setIfInBounds_toArray, List.set_cons_zero, List.set_cons_succ, List.getElem_toArray, List.getElem_cons_succ, List.getElem_cons_zero]
      refine wpAnyZ_ready (rs := [20]) (by kernel_rfl) (by simp) ?_
      refine AllReadyZ.cons rfl (fun K hK => ?_) AllReadyZ.nil
      try rw [if_pos (by rfl)]
      obtain ⟨gT, hgT⟩ : ∃ g, g = V4.heap.size := ⟨_, rfl⟩
      skip
      go_simp
      refine hK.out _ _ (HB4.out.alloc HB4.out.size _) (fun hHeld2 => ?_)
      clear hK K hHeld
      have hHeld := hHeld2
      clear hHeld2
      try simp only [Act.put, List.setIfInBounds_toArray, List.set_cons_zero, List.set_cons_succ, List.getElem_toArray, List.getElem_cons_succ, List.getElem_cons_zero]
      try rw [← hgT]
      refine at_world (C := fun V => wpAnyZ _ _ _ _ _ _ _ _ _ V) (P := fun V => (Below w2.heap.size w2 V) ∧ (V.ownsRow w2.heap.size 37 4 (.slice A5 n d5) n (cellsP vs)) ∧ (V.ownsRow w2.heap.size 5 1 (.slice AY b.length cy) b.length (b.map u8v)) ∧ (V.heap[gT]? = some (.cells #[.int .i64 (s.last + 1), .int .i64 fr, .int .i64 dst, .slice AY b.length cy] 37 (0, 0)))) ⟨HB4.out.alloc HB4.out.size _, (own_moved (p := fun _ => False) HR4.out (Below.movedNew (below_alloc _ _)) (fun _ _ h => h)), (own_moved (p := fun _ => False) HY4.out (Below.movedNew (below_alloc _ _)) (fun _ _ h => h)), (by rw [hgT]; exact heap_new V4 _)⟩ (fun V5 hV => ?_)
      obtain ⟨q0, q1, q2, q3⟩ := hV
      have HB5 := Lib.hid q0
      have HR5 := Lib.hid q1
      have HY5 := Lib.hid q2
      have HT5 := Lib.hid q3
      clear hHeld q0 q1 q2 q3
      have hHeld := HB5.out
      clear hgT
      refine wpAnyZ_ready (rs := [21]) (by kernel_rfl) (by simp) ?_
      refine AllReadyZ.cons rfl (fun K hK => ?_) AllReadyZ.nil
      try rw [if_pos (by rfl)]
      refine oper_append_k _ (.tmp 32) (.tmp 46) 48 rfl 37 i0 zPk 4 48 Try.underlying48 hinfo hz0 hzs hz2 rfl (by decide) w2.heap.size (.slice A5 n d5) n (cellsP vs) rfl HR5.out (some ⟨gT, 0, none⟩) 1 1 [.int .i64 (s.last + 1), .int .i64 fr, .int .i64 dst, .slice AY b.length cy] rfl rfl (fun _ => ⟨_, rfl, cells_of_block HT5.out⟩) (fun u hu => by simp at hu; rcases hu with rfl | rfl | rfl | rfl <;> rfl) (by unfold maxLen; omega) (by omega) HB5.out.size ?_
      intro A6 d6 V6 hown hgrow _
      have HB6 : Hid (Below w2.heap.size w2 V6) := Lib.hid (HB5.out.grown hgrow HB5.out.size (fun j e => (HR5.out.lt j e).1))
      have HE := Lib.hid (HEnd.out V6 A6 d6 AY cy HB6.out hown (HY5.out.kept hgrow (own_parts HY5.out HR5.out (by decide))))
      clear hown hgrow
      obtain ⟨⟨b0, b1, b2⟩, b3⟩ := HSt.out _ HB6.out
      refine hK.out _ _ HB6.out (fun hHeld2 => ?_)
      clear hK K hHeld
      have hHeld := hHeld2
      clear hHeld2
      try simp only [Act.put, List.setIfInBounds_toArray, List.set_cons_zero, List.set_cons_succ, List.getElem_toArray, List.getElem_cons_succ, List.getElem_cons_zero]
      refine wpAnyZ_ready (rs := [22]) (by kernel_rfl) (by simp) ?_
      refine AllReadyZ.cons rfl (fun K hK => ?_) AllReadyZ.nil
      try rw [if_pos (by rfl)]
      go_simp
      refine hK.out _ _ HB6.out (fun hHeld2 => ?_)
      clear hK K hHeld
      have hHeld := hHeld2
      clear hHeld2
      try simp only [Act.put, List.setIfInBounds_toArray, List.set_cons_zero, List.set_cons_succ, List.getElem_toArray, List.getElem_cons_succ, List.getElem_cons_zero]
      refine wpAnyZ_take (i := 23) (v := ?vv21) rfl (by kernel_rfl) (by kernel_rfl) (by kernel_rfl) (fun _ _ _ h => h) (Or.inl ⟨by rfl, ?hy21⟩) hHeld ?rr21
      case hy21 => (intro w' hSw; obtain ⟨⟨s0, s1, s2⟩, s3, s4, s5⟩ := HSt.out _ hSw; go_simp; try with_reducible rfl)
      try simp only [Act.put, List.setIfInBounds_toArray, List.set_cons_zero, List.set_cons_succ, List.getElem_toArray, List.getElem_cons_succ, List.getElem_cons_zero]
      refine wpAnyZ_ready (rs := [24]) (by kernel_rfl) (by simp) ?_
      refine AllReadyZ.last rfl (fun K hK => ?_)
      try rw [if_pos (by rfl)]
      go_simp
      refine hK.out _ _ ?_
      clear hK K hHeld
      try simp only [Act.put, List.setIfInBounds_toArray, List.set_cons_zero, List.set_cons_succ, List.getElem_toArray, List.getElem_cons_succ, List.getElem_cons_zero]
      refine wpAnyZ_done (by kernel_rfl) ?_ _
      go_wp2
      go_ret2
      refine ⟨?_, HE.out.1, HE.out.2⟩
      unfold addS; rw [if_neg HF.out]; rfl
end
end Go.Proofs.Ytbmadhmcnjcdfaa
