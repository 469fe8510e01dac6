/- Package exec: All. -/
import Derived.Test.YtkdfkhebjhnbmaaExeL
import Derived.Test.YtkdfkhebjhnbmaaExeI
import Derived.Test.YtkdfkhebjhnbmaaHeldZ
import Derived.Test.YtkdfkhebjhnbmaaHeld
import Derived.Test.YtkdfkhebjhnbmaaQuietW
import Derived.RangeFuncNested
import Derived.RangeFuncBound
import Derived.RangeFuncLeaves
import Derived.Deep.CutBlock
set_option linter.unusedSimpArgs false
set_option linter.unusedVariables false
namespace Go.Base
open Go
/-- In a round: a held region whose last operation may store into what the others read. -/
theorem wpIn_region_heldzR {l n id : Nat} {P : Program} {ops : Array Oper} {S : World → Prop} {Q : Exit → Act → World → Prop} {a : Act} {w : World} (z : Nat) (hm : P.follows .mixedOrders = true) (hd : noDefer ops = true) (hQ : ¬ LetsOut Q) (hS : S w.drew)
    (h : S w.drew → wpAnyZ P .any ops Q S z ops.size (Array.replicate ops.size false) a w.drew) : (Code.region id ops true).wpIn (Fence.wide.inRound l) n P Q a w :=
  wpIn_region_any hm (wpAnyIn_of hQ hd _ _ _ _ (wpAny_of_heldz _ _ _ _ (h hS)))
end Go.Base
namespace Go.Proofs.Ytkdfkhebjhnbmaa
open Go.ChangeShapes Go.WideShapes Go.ChangeAt Go.RowKit Go.Base Go.Que Go.Exe
attribute [local go_sem] Oper.semAt_some

/-- Between two rounds of All's range: the runs so far. -/
def AllI (V : World) (x D : Nat) (L : List Rn) (M : Nat) (pre : List {r : Rn // r ∈ L}) (W : World) : Prop :=
  Below V.heap.size V W ∧ W.heap[V.heap.size]? = some (.cells #[.pointer (some ⟨x, 0, none⟩)] 23 (0, 0)) ∧ ∃ A c, W.heap[V.heap.size + 1]? = some (.cells #[.slice A pre.length c] 38 (0, 0)) ∧
    W.ownsRow V.heap.size 41 4 (.slice A pre.length c) pre.length (cellsR (pre.map Subtype.val)) ∧ ∀ k, (Value.slice A pre.length c).ownBlock = some k → ¬ (D ≤ k ∧ k < M)
theorem allI_upto {V : World} {x D : Nat} {L : List Rn} (hD : V.heap.size + 1 < D) : UpToC D (AllI V x D L) := fun M s W W' h hb => by
  obtain ⟨h1, h2, A, c, h3, h4, h5⟩ := h
  have hz := h1.size
  exact ⟨h1.trans (hb.below (fun k _ h => by omega) hz), hb.heap h2 (by omega), A, c, hb.heap h3 (by omega), own_moved h4 hb h5, h5⟩
def AllPost (L : List Rn) (w : World) (e : Ending) (w' : World) : Prop := ∃ A c, e = .returned (.slice A L.length c) ∧ w'.ownsRow w.heap.size 41 4 (.slice A L.length c) L.length (cellsR L) ∧ Below w.heap.size w w'
theorem ts_list {slots started : Int} {L : List Rn} (h : Ok slots started L) : (∀ t, TS L t ↔ t ∈ (L.attach.map (fun r => tmR r.1))) ∧ (L.attach.map (fun r => tmR r.1)).Pairwise lt := by
  have e : L.attach.map (fun r => tmR r.1) = L.map tmR := by
    rw [show (fun r : {r : Rn // r ∈ L} => tmR r.1) = tmR ∘ Subtype.val from rfl, ← List.map_map, List.attach_map_subtype_val]
  rw [e]
  refine ⟨fun t => ?_, ?_⟩
  · rw [List.mem_map]; exact Iff.rfl
  · rw [List.pairwise_map]
    exact h.asc.imp (fun {a b} hab => by unfold ltR at hab; unfold lt tmR; simpa using hab)
set_option maxHeartbeats 8000000 in
set_option maxRecDepth 20000 in
theorem xall_in {F : Nat → Prop} {w : World} {x : Nat} {slots started : Int} {L : List Rn} (h : EX F w x slots started L) :
    CallsIn Fence.wide 3 Try.prog 20 #[.pointer (some ⟨x, 0, none⟩)] w (AllPost L w) := by
  obtain ⟨i0, hinfo, hz0, hz1, hz2⟩ := info_parts (P := Try.prog) (e := 41) (z := zGo) (size := 4) (bytes := 40) (by kernel_rfl)
  obtain ⟨⟨nb, gb, q, DN, DG, K, hx⟩, hs⟩ := h
  have hfew : L.length ≤ 65536 := by have h1 := hx.ok.few; have h2 := hx.ok.room; omega
  have HX := Lib.hid hx
  have HC := Lib.hid (fun V (hV : Below w.heap.size w V) => xclosed (hx.later hV))
  have HCe : Hid (∀ V, Below w.heap.size w V → V.cell? ⟨x, 3, none⟩ = some (.map (some gb)) ∧ V.cell? ⟨x, 4, none⟩ = some (.pointer (some ⟨q, 0, none⟩))) := Lib.hid (fun V hV => ⟨(hx.later hV).cells.2.2.2.1, (hx.later hV).cells.2.2.2.2⟩)
  have HG : Hid (∀ V r, Below w.heap.size w V → r ∈ L → (Instr.lookup 56 (.map (some gb)) (.int .i64 r.num) false).run Try.prog V = .ok (goV r) V) := Lib.hid (fun V r hV hr => going_hit (hx.later hV) hr)
  have HTs := Lib.hid (ts_list hx.ok)
  clear hx hs
  refine callsIn_of_wp_marks Try.func20 rfl trivial ?_ rfl
  simp only [Try.ntmps20, List.size_toArray, List.length_cons, List.length_nil, Nat.reduceAdd, Nat.reduceSub, Array.replicate_succ, Array.replicate_zero, List.push_toArray, List.append_toArray, List.nil_append, List.cons_append]
  gi_wp2_with fail
  refine ⟨trivial, ?_⟩
  gi_at_call 23
  refine (callsIn_wide.2 (HC.out _ (below_alloc _ _))).mono ?_
  rintro e w1 ⟨rfl, rfl⟩
  have c4 := (HCe.out _ ((below_alloc w (.cells #[.pointer (some ⟨x, 0, none⟩)] 23)).alloc (by simp) (.cells #[.slice none 0 0] 38))).2
  gi_wp2_with (refine ⟨trivial, ?_⟩; gi_at_call 29; refine (callsIn_wide.2 (all_any _ _)).mono ?_; rintro e w3 ⟨rfl, rfl⟩; simp only [allV, size_alloc])
  clear c4
  refine at_world (C := fun W => Code.wpIn _ _ _ _ _ _ W) (P := fun W => Below w.heap.size w W ∧ W.heap.size = w.heap.size + 3 ∧ W.heap[w.heap.size]? = some (.cells #[.pointer (some ⟨x, 0, none⟩)] 23 (0, 0)) ∧ W.heap[w.heap.size + 1]? = some (.cells #[.slice none 0 0] 38 (0, 0)) ∧ W.heap[w.heap.size + 2]? = some (.cells #[.pointer (some ⟨q, 0, none⟩)] 57 (0, 0)))
    ⟨((below_alloc w _).alloc (by simp) _).alloc (by simp; omega) _, by simp, heap_old _ (by simp; omega) (heap_old _ (by simp) (heap_new w _)), heap_old _ (by simp) (by have := heap_new (w.alloc (.cells #[.pointer (some ⟨x, 0, none⟩)] 23)) (.cells #[.slice none 0 0] 38); simpa using this), (by have := heap_new ((w.alloc (.cells #[.pointer (some ⟨x, 0, none⟩)] 23)).alloc (.cells #[.slice none 0 0] 38)) (.cells #[.pointer (some ⟨q, 0, none⟩)] 57); simpa using this)⟩ (fun W6 hW => ?_)
  obtain ⟨hb6, z6, k0, k1, k2⟩ := hW
  have HZ6 := Lib.hid z6
  have hseq := iter_seqC 2 (by omega) (fun r : {r : Rn // r ∈ L} => tmR r.1) (HX.out.later hb6).que (List.length_attach).symm HTs.out.1 HTs.out.2 (cell_of_row W6 (w.heap.size + 2) 0 _ _ _ k2)
  have hI0 : ∀ V, Below W6.heap.size W6 V → AllI w x W6.heap.size L V.heap.size [] V := fun V hV => ⟨hb6.trans (hV.mono (by omega)), (hV.block _ (heap_lt k0)).trans k0, none, 0, (hV.block _ (heap_lt k1)).trans k1, World.ownsRow_nil _ _ _ _, fun k hk => by cases hk⟩
  have HIu := Lib.hid (allI_upto (V := w) (x := x) (D := W6.heap.size) (L := L) (by omega))
  have H6 : Hid (w.heap.size + 1 < W6.heap.size) := Lib.hid (by omega)
  have HW6 : Hid (w.heap.size ≤ W6.heap.size) := Lib.hid (by omega)
  clear hb6 k0 k1 k2 z6
  refine wpIn_rangeFunc_C rfl (by omega) (gf := 36) (lb := #[.pointer (some ⟨w.heap.size + 2, 0, none⟩)]) rfl trivial (enters_of Try.func36 (by kernel_rfl) rfl)
    hseq (Below.refl _ _) (fun _ => rfl) (AllI w x W6.heap.size L) (fun _ _ _ _ => False) HIu.out (fun _ _ _ _ _ h _ => h) hI0 ?hround ?hdone (fun _ _ _ _ _ _ _ h _ => h.elim)
  case hround =>
    intro l0 M pre t W hwl hlM hMW hI hlen
    rw [List.length_attach] at hlen
    have HI := Lib.hid hI
    clear hseq hI0 hI
    obtain ⟨⟨⟨j, o, g⟩, u, num⟩, hr⟩ := t
    have HR := Lib.hid hr
    simp only [encT, tmR, List.zip_toArray, List.zip_cons_cons, List.zip_nil_left, List.zip_nil_right, List.size_toArray, List.length_cons, List.length_nil, List.foldl_toArray', List.foldl_cons, List.foldl_nil, List.setIfInBounds_toArray, List.set_cons_succ, List.set_cons_zero]
    gi_wp2_with fail
    refine ⟨(Moved.refl _ W).alloc _, fun ob => ?_⟩
    refine at_world (C := fun V => Code.wpIn _ _ _ _ (roundC _ _ _ _ _ V) _ V) (P := fun X => Moved (fun k => W6.heap.size ≤ k ∧ k < M) W X ∧ X.heap.size = W.heap.size + 1 ∧ X.heap[W.heap.size]? = some (.cells #[.int .i64 u, .int .i64 num] 65 (0, 0)))
      ⟨((Moved.refl _ W).alloc _).trans (moved_putObjC _ ob ⟨hwl, hlM⟩) (fun _ _ h => h), by simp [World.putObj], (World.putObj_heap_other (by omega)).trans (heap_new W _)⟩ (fun X hX => ?_)
    obtain ⟨hbx, hzx, kt⟩ := hX
    have HIX := Lib.hid (HIu.out _ _ _ _ HI.out hbx)
    obtain ⟨i1, i2, A, c, i3, i4, i5⟩ := HIX.out
    have HB := Lib.hid i1
    have HK0 := Lib.hid i2
    have HK1 := Lib.hid i3
    have HO := Lib.hid i4
    have HDj := Lib.hid i5
    have HKt := Lib.hid kt
    have HSX : Hid (∀ Y, Below X.heap.size X Y → Y.cell? ⟨w.heap.size + 1, 0, none⟩ = some (.slice A pre.length c) ∧ Y.cell? ⟨w.heap.size, 0, none⟩ = some (.pointer (some ⟨x, 0, none⟩)) ∧ Y.cell? ⟨x, 3, none⟩ = some (.map (some gb)) ∧ Y.cell? ⟨W.heap.size, 1, none⟩ = some (.int .i64 num) ∧ (Instr.lookup 56 (.map (some gb)) (.int .i64 num) false).run Try.prog Y = .ok (.agg #[.string j, .int .i64 o, .int .i64 g, .int .i64 u]) Y) := Lib.hid (fun Y hY =>
      have hwY := HB.out.trans (hY.mono HB.out.size)
      ⟨cell_later hY (cell_of_row _ _ 0 _ _ _ HK1.out), cell_later hY (cell_of_row _ _ 0 _ _ _ HK0.out), (HCe.out _ hwY).1, cell_later hY (cell_of_row _ _ 1 _ _ _ HKt.out), HG.out Y ⟨⟨j, o, g⟩, u, num⟩ hwY HR.out⟩)
    have hzX : W.heap.size < X.heap.size := by omega
    have HzX := Lib.hid hzX
    have HMX : Hid (M ≤ X.heap.size) := Lib.hid (by omega)
    obtain ⟨n, hn⟩ : ∃ n, n = pre.length := ⟨_, rfl⟩
    have hn6 : n + 1 ≤ 65536 := by omega
    rw [← hn] at HK1 HO HDj HSX
    have HN := Lib.hid hn
    clear i1 i2 i3 i4 i5 kt hbx hzx hn hzX HIX
    gi_wp2_with fail
    refine wpIn_region_heldzR (l := l0) (S := (fun Y => Y.cell? ⟨w.heap.size + 1, 0, none⟩ = some (.slice A n c) ∧ Y.cell? ⟨w.heap.size, 0, none⟩ = some (.pointer (some ⟨x, 0, none⟩)) ∧ Y.cell? ⟨x, 3, none⟩ = some (.map (some gb)) ∧ Y.cell? ⟨W.heap.size, 1, none⟩ = some (.int .i64 num) ∧ (Instr.lookup 56 (.map (some gb)) (.int .i64 num) false).run Try.prog Y = .ok (.agg #[.string j, .int .i64 o, .int .i64 g, .int .i64 u]) Y)) 10 (by kernel_rfl) (by kernel_rfl) (by rintro ⟨_, _, h⟩; exact h) (HSX.out _ (Below.refl _ _).drew) (fun hHeld => ?_)
    refine wpAnyZ_take (i := 0) (v := ?vv1) rfl (by kernel_rfl) (by kernel_rfl) (by kernel_rfl) (fun _ _ _ h => h) (Or.inl ⟨by rfl, ?hy1⟩) hHeld ?rr1
    case hy1 => (intro w' hSw; obtain ⟨g1, g2, g3, g4, g5⟩ := hSw; go_simp; try with_reducible rfl)
    try simp only [Act.put, List.setIfInBounds_toArray, List.set_cons_zero, List.set_cons_succ, List.getElem_toArray, List.getElem_cons_succ, List.getElem_cons_zero]
    refine wpAnyZ_take (i := 1) (v := ?vv2) rfl (by kernel_rfl) (by kernel_rfl) (by kernel_rfl) (fun _ _ _ h => h) (Or.inl ⟨by rfl, ?hy2⟩) hHeld ?rr2
    case hy2 => (intro w' hSw; obtain ⟨g1, g2, g3, g4, g5⟩ := hSw; go_simp; try with_reducible rfl)
    try simp only [Act.put, List.setIfInBounds_toArray, List.set_cons_zero, List.set_cons_succ, List.getElem_toArray, List.getElem_cons_succ, List.getElem_cons_zero]
    refine wpAnyZ_take (i := 2) (v := ?vv3) rfl (by kernel_rfl) (by kernel_rfl) (by kernel_rfl) (fun _ _ _ h => h) (Or.inl ⟨by rfl, ?hy3⟩) hHeld ?rr3
    case hy3 => (intro w' hSw; obtain ⟨g1, g2, g3, g4, g5⟩ := hSw; go_simp; try with_reducible rfl)
    try simp only [Act.put, List.setIfInBounds_toArray, List.set_cons_zero, List.set_cons_succ, List.getElem_toArray, List.getElem_cons_succ, List.getElem_cons_zero]
    refine wpAnyZ_take (i := 3) (v := ?vv4) rfl (by kernel_rfl) (by kernel_rfl) (by kernel_rfl) (fun _ _ _ h => h) (Or.inl ⟨by rfl, ?hy4⟩) hHeld ?rr4
    case hy4 => (intro w' hSw; obtain ⟨g1, g2, g3, g4, g5⟩ := hSw; go_simp; try with_reducible rfl)
    try simp only [Act.put, List.setIfInBounds_toArray, List.set_cons_zero, List.set_cons_succ, List.getElem_toArray, List.getElem_cons_succ, List.getElem_cons_zero]
    refine wpAnyZ_take (i := 4) (v := ?vv5) rfl (by kernel_rfl) (by kernel_rfl) (by kernel_rfl) (fun _ _ _ h => h) (Or.inl ⟨by rfl, ?hy5⟩) hHeld ?rr5
    case hy5 => (intro w' hSw; obtain ⟨g1, g2, g3, g4, g5⟩ := hSw; go_simp; try with_reducible rfl)
    try simp only [Act.put, List.setIfInBounds_toArray, List.set_cons_zero, List.set_cons_succ, List.getElem_toArray, List.getElem_cons_succ, List.getElem_cons_zero]
    refine wpAnyZ_take (i := 5) (v := ?vv6) rfl (by kernel_rfl) (by kernel_rfl) (by kernel_rfl) (fun _ _ _ h => h) (Or.inl ⟨by rfl, ?hy6⟩) hHeld ?rr6
    case hy6 => (intro w' hSw; obtain ⟨g1, g2, g3, g4, g5⟩ := hSw; go_simp; try with_reducible rfl)
    try simp only [Act.put, List.setIfInBounds_toArray, List.set_cons_zero, List.set_cons_succ, List.getElem_toArray, List.getElem_cons_succ, List.getElem_cons_zero]
    refine wpAnyZ_take (i := 6) (v := ?vv7) rfl (by kernel_rfl) (by kernel_rfl) (by kernel_rfl) (fun _ _ _ h => h) (Or.inl ⟨by rfl, ?hy7⟩) hHeld ?rr7
    case hy7 => (intro w' hSw; obtain ⟨g1, g2, g3, g4, g5⟩ := hSw; go_simp; try with_reducible rfl)
    try simp only [Act.put, List.setIfInBounds_toArray, List.set_cons_zero, List.set_cons_succ, List.getElem_toArray, List.getElem_cons_succ, List.getElem_cons_zero]
    refine wpAnyZ_take (i := 7) (v := ?vv8) rfl (by kernel_rfl) (by kernel_rfl) (by kernel_rfl) (fun _ _ _ h => h) (Or.inl ⟨by rfl, ?hy8⟩) hHeld ?rr8
    case hy8 => (intro w' hSw; obtain ⟨g1, g2, g3, g4, g5⟩ := hSw; go_simp; try with_reducible rfl)
    try simp only [Act.put, List.setIfInBounds_toArray, List.set_cons_zero, List.set_cons_succ, List.getElem_toArray, List.getElem_cons_succ, List.getElem_cons_zero]
    refine wpAnyZ_ready (rs := [8]) (by kernel_rfl) (by simp) ?_
    refine AllReadyZ.cons rfl (fun K hK => ?_) AllReadyZ.nil
    try rw [if_pos (by rfl)]
    go_simp
    refine hK.out _ _ (HSX.out _ (below_alloc X _).drew) (fun hHeld2 => ?_)
    clear hK K hHeld
    have hHeld := hHeld2
    clear hHeld2
    try simp only [Act.put, List.setIfInBounds_toArray, List.set_cons_zero, List.set_cons_succ, List.getElem_toArray, List.getElem_cons_succ, List.getElem_cons_zero]
    have HB6 : Hid (Below X.heap.size X (X.alloc (.cells #[.string j, .int .i64 o, .int .i64 g, .int .i64 u] 41)).drew) := Lib.hid (below_alloc _ _).drew
    have HO6 := Lib.hid (own_moved (p := fun _ => False) HO.out (Below.movedNew HB6.out) (fun _ _ h => h))
    refine wpAnyZ_ready (rs := [9]) (by kernel_rfl) (by simp) ?_
    refine AllReadyZ.cons rfl (fun K hK => ?_) AllReadyZ.nil
    try rw [if_pos (by rfl)]
    refine oper_append_k _ (.tmp 13) (.tmp 21) 38 rfl 41 i0 zGo 4 40 Try.underlying38 hinfo hz0 hz1 hz2 rfl (by decide) w.heap.size (.slice A n c) n _ rfl HO6.out (some ⟨X.heap.size, 0, none⟩) 1 1 (goC ⟨⟨j, o, g⟩, u, num⟩) rfl rfl (fun _ => ⟨_, rfl, new_going X ⟨⟨j, o, g⟩, u, num⟩⟩) (fun v hv => by simp only [goC, List.mem_cons, List.not_mem_nil, or_false] at hv; rcases hv with rfl | rfl | rfl | rfl <;> rfl) (by unfold maxLen; omega) (by omega) (Nat.le_trans HB.out.size HB6.out.size) ?_
    intro A7 c7 w7 hown7 hgrow7 hwh7
    have HB7 : Hid (Below w.heap.size w w7) := Lib.hid ((HB.out.trans (HB6.out.mono HB.out.size)).grown hgrow7 (Nat.le_trans HB.out.size HB6.out.size) (fun k e => (HO.out.lt k e).1))
    have hrow : ∀ {k : Nat} {cs : Array Value} {ty : TypeId} {z : Nat × Nat}, X.heap[k]? = some (.cells cs ty z) → ty ≠ 41 → w7.heap[k]? = some (.cells cs ty z) := fun {k cs ty z} hk hne => (hgrow7.block k (Nat.lt_of_lt_of_le (heap_lt hk) HB6.out.size) (fun e => own_ne HO.out hk (Ne.symm hne) e.symm)).trans ((HB6.out.block k (heap_lt hk)).trans hk)
    have HK71 := Lib.hid (hrow HK1.out (by decide))
    have HK70 := Lib.hid (hrow HK0.out (by decide))
    have HK7t := Lib.hid (hrow HKt.out (by decide))
    have k71 : w7.cell? ⟨w.heap.size + 1, 0, none⟩ = some (.slice A n c) := cell_of_row _ _ 0 _ _ _ HK71.out
    have f71 : w7.frozen? ⟨w.heap.size + 1, 0, none⟩ = false := (cells_of_heap HK71.out).2 0
    have HE : Hid (KeepC W6.heap.size M X (w7.setCell ⟨w.heap.size + 1, 0, none⟩ (.slice A7 (n + 1) c7)) ∧ AllI w x W6.heap.size L M (pre ++ [⟨⟨⟨j, o, g⟩, u, num⟩, hr⟩]) (w7.setCell ⟨w.heap.size + 1, 0, none⟩ (.slice A7 (n + 1) c7))) := Lib.hid (by
      have hz6 := HB6.out.size
      have h6 := H6.out
      have hmx := HMX.out
      have hlen : (pre ++ [(⟨⟨⟨j, o, g⟩, u, num⟩, hr⟩ : {r : Rn // r ∈ L})]).length = n + 1 := by rw [List.length_append, HN.out]; rfl
      have hmv : Moved (fun k => k = w.heap.size + 1) w7 (w7.setCell ⟨w.heap.size + 1, 0, none⟩ (.slice A7 (n + 1) c7)) := (Moved.refl (fun k => k = w.heap.size + 1) w7).setCell (.inr rfl) _
      have hb1 : ∀ k, (Value.slice A7 (n + 1) c7).ownBlock = some k → ¬ k = w.heap.size + 1 := fun k hk e => (own_ne hown7 HK71.out (by decide)) (by rw [hk, e])
      refine ⟨((Below.movedNew HB6.out).grown hgrow7 (fun k _ e => HDj.out k e)).setCell (.inr (by omega)) _, HB7.out.trans ((hmv.below (fun k _ h => by omega) HB7.out.size)), hmv.heap HK70.out (by omega), A7, c7, ?_, ?_, ?_⟩
      · rw [hlen]; exact heap_set HK71.out 0 _
      · rw [hlen, List.map_append, cellsR_append]
        have := own_moved hown7 hmv hb1
        simpa [cellsR] using this
      · rw [hlen]
        intro k hk
        rcases hwh7 with e | e
        · rw [e] at hk; exact HDj.out k hk
        · rw [e] at hk
          have := Option.some.inj hk
          omega)
    clear hown7 hgrow7 hwh7 hrow
    refine hK.out _ _ ⟨k71, cell_of_row _ _ 0 _ _ _ HK70.out, (HCe.out _ HB7.out).1, cell_of_row _ _ 1 _ _ _ HK7t.out, HG.out _ ⟨⟨j, o, g⟩, u, num⟩ HB7.out hr⟩ (fun hHeld2 => ?_)
    clear hK K hHeld
    have hHeld := hHeld2
    clear hHeld2
    try simp only [Act.put, List.setIfInBounds_toArray, List.set_cons_zero, List.set_cons_succ, List.getElem_toArray, List.getElem_cons_succ, List.getElem_cons_zero]
    refine wpAnyZ_ready (rs := [10]) (by kernel_rfl) (by simp) ?_
    refine AllReadyZ.last rfl (fun K hK => ?_)
    try rw [if_pos (by rfl)]
    go_simp
    refine hK.out _ _ ?_
    clear hK K hHeld
    try simp only [Act.put, List.setIfInBounds_toArray, List.set_cons_zero, List.set_cons_succ, List.getElem_toArray, List.getElem_cons_succ, List.getElem_cons_zero]
    refine wpAnyZ_done (by kernel_rfl) ?_ _
    gi_wp2_with fail
    exact HE.out
  case hdone =>
    rintro D M xs W hD rfl hI hK
    obtain ⟨i1, i2, A, c, i3, i4, i5⟩ := hI
    rw [List.attach_map_subtype_val] at i4
    rw [List.length_attach] at i3 i4
    clear hseq hI0
    have HB := Lib.hid i1
    have HO := Lib.hid i4
    have hKd := hK
    have HKd := Lib.hid hK
    have c1 : W.cell? ⟨w.heap.size + 1, 0, none⟩ = some (.slice A L.length c) := cell_of_row _ _ 0 _ _ _ i3
    clear i1 i2 i3 i4 i5 hK hKd
    gi_wp2_with fail
    refine ⟨by simp, .inl ⟨_, _, rfl, run_takeDeferred HKd.out, ?_⟩⟩
    have hmD : Moved (fun k => k = D) W (W.putObj D (.deferred none)) := ⟨rfl, rfl, rfl, by simp [World.putObj], fun k hk hn => World.putObj_heap_other (fun e => hn e)⟩
    have hDk : ∀ k, (Value.slice A L.length c).ownBlock = some k → ¬ k = D := fun k hk e => by
      rcases HO.out.2 with ⟨h1, _⟩ | ⟨g, cap, cur, h1, _, hg, _⟩
      · rw [h1] at hk; cases hk
      · rw [h1] at hk
        have h2 : g = k := Option.some.inj hk
        rw [h2, e, HKd.out] at hg; cases hg
    refine ⟨.slice A L.length c, ?_, A, c, rfl, own_moved HO.out hmD hDk, HB.out.trans (hmD.below (fun k _ h => by have := HW6.out; omega) HB.out.size)⟩
    simp [results, Try.f20, go_sem]
end Go.Proofs.Ytkdfkhebjhnbmaa
