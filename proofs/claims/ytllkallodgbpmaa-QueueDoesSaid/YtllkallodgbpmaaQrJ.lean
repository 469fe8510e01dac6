/- The law's helper 'looks': whatever the queue and the reference hold alike, it answers true and changes nothing old. -/
import Derived.Test.YtllkallodgbpmaaQrH
import Derived.Test.YtllkallodgbpmaaQrF
import Derived.Test.YtllkallodgbpmaaQueT
import Derived.Test.YtllkallodgbpmaaQuietW
import Derived.LoopNIn
set_option linter.unusedSimpArgs false
set_option linter.unusedVariables false
namespace Go
open Go.RowKit Go.Proofs.Ytllkallodgbpmaa
/-- A range whose one way out but its end is 'break'. -/
theorem wpIn_rangeFunc_B2 {F : Fence} {n : Nat} {P : Program} {α : Type} {g : Operand} {ps : Array Tmp} {assign body : Code} {id : Nat} {K : Exit → Act → World → Prop} {a : Act} {w : World}
    (hro : F.round = none) (h1 : 1 ≤ n) {gf : Nat} {lb : Array Value} (hg : a.eval g = .func (.func gf) #[] lb) (hFg : F.fn gf) (eg : ∀ args w, (callFunc gf args).run P w = .ok (.enter gf args) w)
    {encs : α → Array Value} {S Sp : List α → Prop} {N : Nat} {w0 : World} (hseq : SeqB F (n - 1) P gf lb encs S Sp N w0) (hb0 : Below w0.heap.size w0 w) (hps : ∀ x, (encs x).size = ps.size)
    (I : List α → World → Prop) (Ix : Code → List α → World → Prop) (hI : UpTo w.heap.size I) (hIx : ∀ c, UpTo w.heap.size (Ix c)) (h0 : I [] w)
    (hround : ∀ (l : Nat) (pre : List α) (x : α) (W : World), w.heap.size ≤ l → l < W.heap.size → I pre W → pre.length < N →
      assign.wpIn (F.inRound l) (n - 1 - 1) P (Exit.then (fun a₂ W₂ => KeepB w.heap.size W W₂ ∧ ∀ o : Obj, body.wpIn (F.inRound l) (n - 1 - 1) P (roundB w.heap.size I Ix (pre ++ [x]) (W₂.putObj l o)) a₂ (W₂.putObj l o)) (fun _ _ _ => False))
        { tmps := (ps.zip (encs x)).foldl (fun t (p, v) => t.setIfInBounds p v) a.tmps, defers := [] } W)
    (hdone : ∀ (D : Nat) (xs : List α) (W : World), w.heap.size ≤ D → ((S xs ∧ I xs W) ∨ (Sp xs ∧ Ix (.exit id) xs W)) → W.heap[D]? = some (.deferred (some [])) → K .normal { a with defers := { target := .collected D, args := #[] } :: a.defers } W)
    (hno : ∀ (c : Code) (pre : List α) (W : World), c ≠ .exit id → Sp pre → Ix c pre W → False) :
    (Code.rangeFunc g ps assign body).wpIn F n P (Exit.inBlock id K) a w :=
  wpIn_rangeFunc_B hro h1 hg hFg eg hseq hb0 hps I Ix hI hIx h0 hround
    (fun D xs W hD hS hi hk => hdone D xs W hD (.inl ⟨hS, hi⟩) hk)
    (fun D c pre W hD hSp hx hk => by
      by_cases hc : c = .exit id
      · subst hc
        refine wpIn_exit ?_
        simp only [Exit.inBlock, ↓reduceIte]
        exact hdone D pre W hD (.inr ⟨hSp, hx⟩) hk
      · exact (hno c pre W hc hSp hx).elim)
end Go
namespace Go.Proofs.Ytllkallodgbpmaa
open Go.ChangeShapes Go.WideShapes Go.ChangeAt Go.RowKit Go.Base Go.Que Go.Shelf
attribute [local go_sem] Oper.semAt_some

theorem Moved.drewN {p : Nat → Prop} {w w1 : World} (h : Moved p w w1) (n : Nat) : Moved p w (w1.drewN n) := ⟨h.os, h.tape, h.output, h.size, h.block⟩
/-- Between two rounds of the range: the boxes, and how far it is. -/
def LkI (V : World) (x b9 bi : Nat) (r : Int) (l : List (Int × Int)) (E : World → Prop) (pre : List Tm) (W : World) : Prop :=
  Below V.heap.size V W ∧ W.heap[V.heap.size]? = some (.cells #[.pointer (some ⟨x, 0, none⟩)] 25 (0, 0)) ∧ W.heap[V.heap.size + 1]? = some (.cells #[.bool false] 4 (0, 0)) ∧
    W.heap[b9]? = some (.cells #[.int .i64 r] 3 (0, 0)) ∧ W.heap[bi]? = some (.cells #[.int .i64 (pre.length : Int)] 3 (0, 0)) ∧ pre.map pairT = l.take pre.length ∧ E W
/-- How the range is left early. -/
def LkX (V : World) (x b9 bi : Nat) (r : Int) (l : List (Int × Int)) (E : World → Prop) (c : Code) (pre : List Tm) (W : World) : Prop :=
  (c = .ret ∧ pre.map pairT ≠ l.take pre.length) ∨ (c = .exit 2 ∧ r = 0 ∧ pre.length = 2 ∧ LkI V x b9 bi r l E pre W)
theorem lkI_upto {V : World} {x b9 bi : Nat} {r : Int} {l : List (Int × Int)} {E : World → Prop} {B : Nat} (hV : V.heap.size + 1 < B) (h9 : b9 < B) (hi : bi < B) (hE : ∀ W W', E W → Below B W W' → E W') : UpTo B (LkI V x b9 bi r l E) := fun s W W' h hb => by
  obtain ⟨h1, h2, h3, h4, h5, h6, h7⟩ := h
  exact ⟨h1.trans (hb.mono (by omega)), (hb.block _ (by omega)).trans h2, (hb.block _ (by omega)).trans h3, (hb.block _ h9).trans h4, (hb.block _ hi).trans h5, h6, hE W W' h7 hb⟩
theorem lkX_upto {V : World} {x b9 bi : Nat} {r : Int} {l : List (Int × Int)} {E : World → Prop} {B : Nat} (hV : V.heap.size + 1 < B) (h9 : b9 < B) (hi : bi < B) (hE : ∀ W W', E W → Below B W W' → E W') (c : Code) : UpTo B (LkX V x b9 bi r l E c) := fun s W W' h hb => by
  rcases h with h | ⟨h1, h2, h3, h4⟩
  · exact .inl h
  · exact .inr ⟨h1, h2, h3, lkI_upto hV h9 hi hE s W W' h4 hb⟩
theorem take_more {l : List (Int × Int)} {pre : List Tm} {t : Tm} (h : pre.map pairT = l.take pre.length) (hl : pre.length < l.length) : (pre ++ [t]).map pairT = l.take (pre ++ [t]).length ↔ pairT t = l[pre.length] := by
  rw [List.map_append, List.length_append, List.length_singleton, List.take_succ_eq_append_getElem hl, h]
  constructor
  · intro e
    have := List.append_cancel_left e
    simpa using this
  · intro e
    rw [← e]; rfl
theorem lkI_next {V : World} {x b9 bi : Nat} {r : Int} {l : List (Int × Int)} {E : World → Prop} {pre : List Tm} {t : Tm} {X : World} (h : LkI V x b9 bi r l E pre X) (n : Nat) (h1 : V.heap.size + 1 < bi) (h9 : b9 ≠ bi)
    (hE : E ((X.drewN n).setCell ⟨bi, 0, none⟩ (.int .i64 ((pre.length : Int) + 1)))) (ht : (pre ++ [t]).map pairT = l.take (pre ++ [t]).length) : LkI V x b9 bi r l E (pre ++ [t]) ((X.drewN n).setCell ⟨bi, 0, none⟩ (.int .i64 ((pre.length : Int) + 1))) := by
  obtain ⟨i1, i2, i3, i4, i5, i6, i7⟩ := h
  refine ⟨(below_drewN i1 n).setCell (by show V.heap.size ≤ bi; omega) _, (Below.heap_setCell _ _ _ _ (by show V.heap.size ≠ bi; omega)).trans i2, (Below.heap_setCell _ _ _ _ (by show V.heap.size + 1 ≠ bi; omega)).trans i3, (Below.heap_setCell _ _ _ _ h9).trans i4, ?_, ht, hE⟩
  have := heap_set (w := X.drewN n) i5 0 (.int .i64 ((pre.length : Int) + 1))
  rw [this]
  simp
theorem pre_take {L pre : List Tm} {l : List (Int × Int)} (hl : l = L.map pairT) (h : pre <+: L) : pre.map pairT = l.take pre.length := by
  obtain ⟨r, rfl⟩ := h
  subst hl
  rw [List.map_append, List.take_left' (by simp)]
theorem head_form (l : List (Int × Int)) : ∃ (a b : Int) (r : Bool), headV l = .tuple #[.agg #[.int .i64 a, .int .i64 b], .bool r] := by
  cases l with
  | nil => exact ⟨0, 0, false, rfl⟩
  | cons t r => exact ⟨t.1, t.2, true, rfl⟩
set_option maxHeartbeats 8000000 in
set_option maxRecDepth 20000 in
theorem looks_in (w : World) (P : Nat → Prop) (q x : Nat) (k : Int) (V : World) (h : Both w P q x k V) :
    CallsIn Fence.wide 3 Try.prog 18 #[.pointer (some ⟨q, 0, none⟩), .pointer (some ⟨x, 0, none⟩)] V fun e V' => e = .returned (.bool true) ∧ Below V.heap.size V V' := by
  obtain ⟨Fq, Fr, S, m, L, l, turns, h1, h2, h3, _⟩ := h
  obtain ⟨ha, hb, hr, hhd⟩ := head_form l
  have HN := Lib.hid (fun (W : World) (hW : Below V.heap.size V W) => by have := next_sim (h1.later hW) h2; rw [hhd] at this; exact this)
  have HRN := Lib.hid (fun (W : World) (hW : Below V.heap.size V W) => by have := rnext_any (h3.later hW); rw [hhd] at this; exact this)
  have HLn := Lib.hid (fun (W : World) (hW : Below V.heap.size V W) => len_sim (h1.later hW) h2)
  have HQ := Lib.hid h1
  have HS := Lib.hid h2
  have HR := Lib.hid h3
  have hE := eql_func
  have hll : l.length ≤ 65536 := by obtain ⟨_, _, _, _, _, _, h⟩ := h3; exact h
  obtain ⟨N, HNN⟩ : ∃ N, Hid (N = l.length) := ⟨_, Lib.hid rfl⟩
  obtain ⟨A, c, hself, hown, _⟩ := h3
  have HX : Hid (∀ W, Below V.heap.size V W → W.cell? ⟨x, 0, none⟩ = some (.slice A N c)) := Lib.hid (fun W hW => by rw [HNN.out]; exact cell_later hW (cell_of_row _ _ 0 _ _ _ hself))
  have HOw : Hid (∀ W, Below V.heap.size V W → W.ownsRow 0 36 2 (.slice A l.length c) l.length (cellsT l)) := Lib.hid (fun W hW => own_moved (p := fun _ => False) hown (Below.movedNew hW) (fun _ _ h => h))
  rw [← HNN.out] at HLn hll
  clear hself hown h1 h2 hhd
  refine callsIn_of_wp_marks Try.func18 rfl trivial ?_ rfl
  simp only [Try.ntmps18, List.size_toArray, List.length_cons, List.length_nil, Nat.reduceAdd, Nat.reduceSub, Array.replicate_succ, Array.replicate_zero, List.push_toArray, List.append_toArray, List.nil_append, List.cons_append]
  gi_wp2_with fail
  refine ⟨trivial, ?_⟩
  gi_at_call 19
  obtain ⟨W0, hW0⟩ : ∃ W0, W0 = (V.alloc (.cells #[.pointer (some ⟨x, 0, none⟩)] 25)).alloc (.cells #[.bool false] 4) := ⟨_, rfl⟩
  rw [← hW0]
  have HB0 : Hid (Below V.heap.size V W0) := Lib.hid (by rw [hW0]; exact (below_alloc _ _).alloc (by simp) _)
  have HK : Hid (∀ W, Below W0.heap.size W0 W → W.heap[V.heap.size]? = some (.cells #[.pointer (some ⟨x, 0, none⟩)] 25 (0, 0)) ∧ W.heap[V.heap.size + 1]? = some (.cells #[.bool false] 4 (0, 0))) := Lib.hid (fun W hW => by
    have hs : W0.heap.size = V.heap.size + 2 := by rw [hW0]; simp
    refine ⟨(hW.block _ (by omega)).trans ?_, (hW.block _ (by omega)).trans ?_⟩
    · rw [hW0]; exact heap_old _ (by simp) (heap_new V _)
    · rw [hW0]; have := heap_new (V.alloc (.cells #[.pointer (some ⟨x, 0, none⟩)] 25)) (.cells #[.bool false] 4); simpa using this)
  have z0 : W0.heap.size = V.heap.size + 2 := by rw [hW0]; simp
  clear hW0
  refine (callsIn_wide.2 (HN.out _ HB0.out)).mono ?_
  rintro e w1 ⟨rfl, hb1⟩
  have HB1 := Lib.hid hb1
  have z1 := hb1.size
  have c1 : w1.cell? ⟨V.heap.size, 0, none⟩ = some (.pointer (some ⟨x, 0, none⟩)) := cell_of_row _ _ 0 _ _ _ (HK.out w1 hb1).1
  have yx : V.heap.size < w1.heap.size := by omega
  clear hb1
  gi_wp2_with fail
  refine ⟨trivial, ?_⟩
  gi_at_call 29
  have HB1a := Lib.hid (HB1.out.alloc HB1.out.size (.cells #[.int .i64 ha, .int .i64 hb] 36))
  refine (callsIn_wide.2 (HRN.out _ (HB0.out.trans (HB1a.out.mono (by omega))))).mono ?_
  rintro e w2 ⟨rfl, hb2⟩
  have k5 := kept_new hb2
  have z2 : w1.heap.size + 1 ≤ w2.heap.size := by have := hb2.size; simpa using this
  have HB2 := Lib.hid (HB1a.out.trans (hb2.mono (by simp; omega)))
  clear hb2 c1 HB1a
  obtain ⟨W3, hW3⟩ : ∃ W3, W3 = w2.alloc (.cells #[.int .i64 ha, .int .i64 hb] 36) := ⟨_, rfl⟩
  have HB3 := Lib.hid (by rw [hW3]; exact HB2.out.alloc HB2.out.size _ : Below W0.heap.size W0 W3)
  have k7 : W3.heap[w2.heap.size]? = some (.cells #[.int .i64 ha, .int .i64 hb] 36 (0, 0)) := by rw [hW3]; exact heap_new _ _
  have k5 : W3.heap[w1.heap.size]? = some (.cells #[.int .i64 ha, .int .i64 hb] 36 (0, 0)) := by rw [hW3]; exact heap_old _ (by omega) k5
  have z3 : W3.heap.size = w2.heap.size + 1 := by rw [hW3]; simp
  gi_wp2_with fail
  rw [← hW3]
  clear hW3
  have d0 : W3.cell? ⟨V.heap.size, 0, none⟩ = some (.pointer (some ⟨x, 0, none⟩)) := cell_of_row _ _ 0 _ _ _ (HK.out W3 HB3.out).1
  have d1 : W3.cell? ⟨w1.heap.size, 0, none⟩ = some (.int .i64 ha) := cell_of_row _ _ 0 _ _ _ k5
  have d2 : W3.cell? ⟨w1.heap.size, 1, none⟩ = some (.int .i64 hb) := cell_of_row _ _ 1 _ _ _ k5
  have d3 : W3.cell? ⟨w2.heap.size, 0, none⟩ = some (.int .i64 ha) := cell_of_row _ _ 0 _ _ _ k7
  have d4 : W3.cell? ⟨w2.heap.size, 1, none⟩ = some (.int .i64 hb) := cell_of_row _ _ 1 _ _ _ k7
  have HBV3 := Lib.hid (HB0.out.trans (HB3.out.mono (by omega)))
  have d5 := HX.out W3 HBV3.out
  clear k5 k7
  refine wpIn_region_quietW (by kernel_rfl) (by kernel_rfl) (by rintro ⟨_, _, h⟩; exact nomatch h.1) (by kernel_rfl) ?_
  repeat (go_big_quiet_step ((go_at_call 20; refine Calls.quiet_of_same ((HLn.out _ (below_drewN HBV3.out _)).mono fun e w' ⟨he, hw⟩ => ⟨he, hw.symm⟩))))
  refine wpQuiet_nil ?_
  rintro _ ⟨nq, rfl⟩
  gi_wp2_with fail
  refine at_world (C := fun W => Code.wpIn _ _ _ _ _ _ W) (P := fun W => Below W3.heap.size W3 W ∧ W.heap.size = W3.heap.size + 1 ∧ W.heap[W3.heap.size]? = some (.cells #[.int .i64 0] 3 (0, 0))) ⟨(below_drewN (Below.refl _ _) _).alloc (by simp) _, by simp, heap_new (W3.drewN nq) _⟩ (fun W5 hW => ?_)
  obtain ⟨hb5, z5, k9⟩ := hW
  have HBVW5 := Lib.hid (HBV3.out.trans (hb5.mono (by omega)))
  have kx := (HK.out W5 (HB3.out.trans (hb5.mono (by omega)))).1
  have kr := (HK.out W5 (HB3.out.trans (hb5.mono (by omega)))).2
  rw [z3] at k9 z5
  have HVW5 : Hid (V.heap.size + 1 < W5.heap.size) := Lib.hid (by omega)
  have H9W5 : Hid (w2.heap.size + 1 < W5.heap.size) := Lib.hid (by omega)
  clear z5
  have c9 : W5.cell? ⟨w2.heap.size + 1, 0, none⟩ = some (.int .i64 0) := cell_of_row _ _ 0 _ _ _ k9
  clear hb5 d0 d1 d2 d3 d4 d5
  refine wpIn_loop_rounds 3 ?_
  rw [roundsIn_succ]

  -- round 0
  gi_wp2_with (refine ⟨trivial, ?_⟩; gi_at_call 21; refine (callsIn_wide.2 (all_any _ _)).mono ?_; rintro e w3 ⟨rfl, rfl⟩; simp only [allV])
  refine at_world (C := fun W => Code.wpIn _ _ _ _ _ _ W) (P := fun W => Below W5.heap.size W5 W ∧ W.heap.size = W5.heap.size + 2 ∧ W.heap[W5.heap.size]? = some (.cells #[.pointer (some ⟨q, 0, none⟩)] 23 (0, 0)) ∧ W.heap[W5.heap.size + 1]? = some (.cells #[.int .i64 0] 3 (0, 0)))
    ⟨(below_alloc _ _).alloc (by simp) _, by simp, heap_old _ (by simp) (heap_new W5 _), (by have := heap_new (W5.alloc (.cells #[.pointer (some ⟨q, 0, none⟩)] 23)) (.cells #[.int .i64 0] 3); simpa using this)⟩ (fun W6 hW => ?_)
  obtain ⟨hb6, z6, k6, ki6⟩ := hW
  have HZW6 := Lib.hid z6
  clear z6
  have HBV6 := Lib.hid (HBVW5.out.trans (hb6.mono HBVW5.out.size))
  have hseq := iter_seq 2 (by omega) (QT.ql (HQ.out.later HBV6.out)) HS.out (cell_of_row _ _ 0 _ _ _ k6)
  have hE6 := trivial
  have hI0 : LkI V x (w2.heap.size + 1) (W5.heap.size + 1) 0 l (fun _ => True) [] W6 := ⟨HBV6.out, (hb6.block _ (heap_lt kx)).trans kx, (hb6.block _ (heap_lt kr)).trans kr, (hb6.block _ (heap_lt k9)).trans k9, ki6, rfl, hE6⟩
  have HIu := Lib.hid (lkI_upto (V := V) (x := x) (b9 := (w2.heap.size + 1)) (bi := W5.heap.size + 1) (r := 0) (l := l) (E := (fun _ => True)) (B := W6.heap.size) (by have := HVW5.out; have := HZW6.out; omega) (by have := H9W5.out; have := HZW6.out; omega) (by have := HZW6.out; omega) (fun _ _ h _ => h))
  have HXu := Lib.hid (lkX_upto (V := V) (x := x) (b9 := (w2.heap.size + 1)) (bi := W5.heap.size + 1) (r := 0) (l := l) (E := (fun _ => True)) (B := W6.heap.size) (by have := HVW5.out; have := HZW6.out; omega) (by have := H9W5.out; have := HZW6.out; omega) (by have := HZW6.out; omega) (fun _ _ h _ => h))
  clear hb6 k6 ki6 kx kr k9 c9
  refine wpIn_rangeFunc_B2 rfl (by omega) (gf := 31) (lb := #[.pointer (some ⟨W5.heap.size, 0, none⟩)]) rfl trivial (enters_of Try.func31 (by kernel_rfl) rfl)
    hseq (Below.refl _ _) (fun _ => rfl) (LkI V x (w2.heap.size + 1) (W5.heap.size + 1) 0 l (fun _ => True)) (LkX V x (w2.heap.size + 1) (W5.heap.size + 1) 0 l (fun _ => True)) HIu.out HXu.out hI0 ?hround0 ?hdone0 ?hstop0
  case hround0 =>
    intro l0 pre t W hwl hlt hI hlen
    have hll2 : pre.length < l.length := by have := HS.out.row; rw [this, List.length_map]; exact hlen
    have HI := Lib.hid hI
    have HLl := Lib.hid hll2
    clear hseq hI0 hE6 hlen hI hll2
    simp only [encT, List.zip_toArray, List.zip_cons_cons, List.zip_nil_left, List.zip_nil_right, List.size_toArray, List.length_cons, List.length_nil, List.foldl_toArray', List.foldl_cons, List.foldl_nil, List.setIfInBounds_toArray, List.set_cons_succ, List.set_cons_zero]
    gi_wp2_with fail
    refine ⟨(Moved.refl _ W).alloc _, fun o => ?_⟩
    refine at_world (C := fun V => Code.wpIn _ _ _ _ (roundB _ _ _ _ V) _ V) (P := fun X => Below W6.heap.size W X ∧ X.heap.size = W.heap.size + 1 ∧ X.heap[W.heap.size]? = some (.cells #[.int .i64 t.at_, .int .i64 t.id] 36 (0, 0)))
      ⟨((below_alloc W _).mono (by omega)).trans (below_putObj _ o hwl), by simp [World.putObj], (World.putObj_heap_other (by omega)).trans (heap_new W _)⟩ (fun X hX => ?_)
    obtain ⟨hbx, hzx, kt⟩ := hX
    have HIX := Lib.hid (HIu.out _ _ _ HI.out hbx)
    have HZX := Lib.hid hzx
    obtain ⟨i1, i2, i3, i4, i5, i6, i7⟩ := HIX.out
    obtain ⟨g, rfl, e0, e1⟩ := ref_at (HOw.out X i1) HLl.out
    have c3 : X.cell? ⟨V.heap.size, 0, none⟩ = some (.pointer (some ⟨x, 0, none⟩)) := cell_of_row _ _ 0 _ _ _ i2
    have c9 : X.cell? ⟨w2.heap.size + 1, 0, none⟩ = some (.int .i64 0) := cell_of_row _ _ 0 _ _ _ i4
    have c11 : X.cell? ⟨W5.heap.size + 1, 0, none⟩ = some (.int .i64 (pre.length : Int)) := cell_of_row _ _ 0 _ _ _ i5
    have f11 : X.frozen? ⟨W5.heap.size + 1, 0, none⟩ = false := (cells_of_heap i5).2 0
    have c12 : X.cell? ⟨W.heap.size, 0, none⟩ = some (.int .i64 t.at_) := cell_of_row _ _ 0 _ _ _ kt
    have c13 : X.cell? ⟨W.heap.size, 1, none⟩ = some (.int .i64 t.id) := cell_of_row _ _ 1 _ _ _ kt
    have cx := HX.out X i1
    have HTk := Lib.hid (take_more (t := t) i6 HLl.out)
    have hkN : (pre.length : Int) < (N : Int) := by have := HLl.out; have := HNN.out; omega
    obtain ⟨k, hk⟩ : ∃ k, k = pre.length := ⟨_, rfl⟩
    have HKk := Lib.hid hk
    obtain ⟨la, hla⟩ : ∃ la, la = (l[pre.length]'HLl.out).1 := ⟨_, rfl⟩
    obtain ⟨lb, hlb⟩ : ∃ lb, lb = (l[pre.length]'HLl.out).2 := ⟨_, rfl⟩
    have HPr : Hid (((pre ++ [t]).map pairT = l.take (pre ++ [t]).length) ↔ (t.at_ = la ∧ t.id = lb)) := Lib.hid (by
      rw [HTk.out, hla, hlb]
      unfold pairT
      constructor
      · intro e; rw [← e]; exact ⟨rfl, rfl⟩
      · rintro ⟨e1, e2⟩; rw [e1, e2])
    rw [← hla] at e0
    rw [← hlb] at e1
    rw [← hk] at c11 hkN e0 e1
    have hk0 : (0 : Int) ≤ (k : Int) := by omega
    have hkd : decide (N ≤ k) = false := by simp; omega
    clear hla hlb hk i2 i3 i4 i5 i6 i7 kt hzx hbx i1
    gi_wp2_with fail
    have cr : X.cell? ⟨V.heap.size + 1, 0, none⟩ = some (.bool false) := cell_of_row _ _ 0 _ _ _ HIX.out.2.2.1
    have fr : X.frozen? ⟨V.heap.size + 1, 0, none⟩ = false := (cells_of_heap HIX.out.2.2.1).2 0
    by_cases h1 : t.at_ = la
    · by_cases h2 : t.id = lb
      · subst h1
        subst h2
        refine wpIn_region_quietR (by kernel_rfl) (by kernel_rfl) (by rintro ⟨_, _, h⟩; exact h) (by kernel_rfl) ?_
        repeat (go_big_quiet_step (fail))
        refine wpQuiet_nil ?_
        rintro _ ⟨nq2, rfl⟩
        have hkl : (k : Int) = (pre.length : Int) := by have := HKk.out; omega
        have HNx := Lib.hid (fun (hE : (fun _ => True) ((X.drewN nq2).setCell ⟨W5.heap.size + 1, 0, none⟩ (.int .i64 ((k : Int) + 1)))) => by
          rw [hkl] at hE ⊢
          exact lkI_next HIX.out nq2 (by have := HVW5.out; omega) (by have := H9W5.out; omega) hE (HPr.out.2 ⟨rfl, rfl⟩) : (fun _ => True) ((X.drewN nq2).setCell ⟨W5.heap.size + 1, 0, none⟩ (.int .i64 ((k : Int) + 1))) → LkI V x (w2.heap.size + 1) (W5.heap.size + 1) 0 l (fun _ => True) (pre ++ [t]) ((X.drewN nq2).setCell ⟨W5.heap.size + 1, 0, none⟩ (.int .i64 ((k : Int) + 1))))
        have HKp : Hid (KeepB W6.heap.size X ((X.drewN nq2).setCell ⟨W5.heap.size + 1, 0, none⟩ (.int .i64 ((k : Int) + 1)))) := Lib.hid (((Moved.refl _ X).drewN _).setCell (.inr (by have := HZW6.out; omega)) _)
        clear hkl
        have hne9 : ¬ (w2.heap.size + 1) = W5.heap.size + 1 := by have := H9W5.out; omega
        have hne9' : ¬ W5.heap.size + 1 = (w2.heap.size + 1) := by have := H9W5.out; omega
        gi_wp2_with fail
        · rename_i hk2
          have hk3 : (k : Int) + 1 = 2 := by simpa using hk2
          exact ⟨HKp.out, .inr ⟨rfl, rfl, (by rw [List.length_append, List.length_singleton]; have := HKk.out; omega), HNx.out trivial⟩⟩
        · exact ⟨HKp.out, HNx.out trivial⟩
      · subst h1
        refine wpIn_region_quietR (by kernel_rfl) (by kernel_rfl) (by rintro ⟨_, _, h⟩; exact h) (by kernel_rfl) ?_
        repeat (go_big_quiet_step (fail))
        refine wpQuiet_nil ?_
        rintro _ ⟨nq2, rfl⟩
        gi_wp2_with fail
        refine ⟨((Moved.refl _ X).drewN _).setCell (.inr (by have := HVW5.out; have := HZW6.out; omega)) _, .inl ⟨rfl, fun e => ?_⟩⟩
        have := HPr.out.1 e
        exact h2 this.2
    · refine wpIn_region_quietR (by kernel_rfl) (by kernel_rfl) (by rintro ⟨_, _, h⟩; exact h) (by kernel_rfl) ?_
      repeat (go_big_quiet_step (fail))
      refine wpQuiet_nil ?_
      rintro _ ⟨nq2, rfl⟩
      gi_wp2_with fail
      refine ⟨((Moved.refl _ X).drewN _).setCell (.inr (by have := HVW5.out; have := HZW6.out; omega)) _, .inl ⟨rfl, fun e => ?_⟩⟩
      have := HPr.out.1 e
      exact h1 this.1
  case hstop0 =>
    rintro c pre W hc hSp (⟨rfl, hne⟩ | ⟨rfl, _⟩)
    · exact hne (pre_take HS.out.row hSp)
    · exact hc rfl
  case hdone0 =>
    rintro D0 xs WD0 hD hxs hKD
    have HKD0 := Lib.hid hKD
    have HD0 := Lib.hid hD
    have hxs2 : LkI V x (w2.heap.size + 1) (W5.heap.size + 1) 0 l (fun _ => True) xs WD0 ∧ (xs.length = N ∨ (((0 : Int) = 0) ∧ xs.length = 2 ∧ N ≠ 2)) := by
      rcases hxs with ⟨h1, h2⟩ | ⟨_, ⟨h1, _⟩ | ⟨_, h1, h2, h3⟩⟩
      · exact ⟨h2, .inl (by rw [h1, HNN.out, HS.out.row, List.length_map])⟩
      · cases h1
      · by_cases hN2 : N = 2
        · exact ⟨h3, .inl (by rw [h2, hN2])⟩
        · exact ⟨h3, .inr ⟨h1, h2, hN2⟩⟩
    clear hxs hKD hD hseq hI0 hE6
    obtain ⟨hI, hway⟩ := hxs2
    obtain ⟨i1, i2, i3, i4, i5, i6, i7⟩ := hI
    have HBVD0 := Lib.hid i1
    have HX0 := Lib.hid i2
    have HY0 := Lib.hid i3
    have HE0 := Lib.hid i7
    have c3 : WD0.cell? ⟨V.heap.size, 0, none⟩ = some (.pointer (some ⟨x, 0, none⟩)) := cell_of_row _ _ 0 _ _ _ i2
    have c9 : WD0.cell? ⟨w2.heap.size + 1, 0, none⟩ = some (.int .i64 0) := cell_of_row _ _ 0 _ _ _ i4
    have c11 : WD0.cell? ⟨W5.heap.size + 1, 0, none⟩ = some (.int .i64 (xs.length : Int)) := cell_of_row _ _ 0 _ _ _ i5
    have cx := HX.out WD0 i1
    clear i1 i2 i3 i4 i5 i6 i7
    rcases hway with hw | ⟨_, hw, hN2⟩
    · rw [hw] at c11
      gi_wp2_with fail
      refine wpIn_region_quietW (by kernel_rfl) (by kernel_rfl) (by rintro ⟨_, _, h⟩; exact nomatch h.1) (by kernel_rfl) ?_
      repeat (go_big_quiet_step (fail))
      refine wpQuiet_nil ?_
      rintro _ ⟨nq3, rfl⟩
      obtain ⟨X0, hX⟩ : ∃ X, X = WD0.drewN nq3 := ⟨_, rfl⟩
      rw [← hX]
      have HBX0 : Hid (Below WD0.heap.size WD0 X0) := Lib.hid (by rw [hX]; exact below_drewN (Below.refl _ _) _)
      have HSX0 : Hid (X0.heap.size = WD0.heap.size) := Lib.hid (by rw [hX]; rfl)
      have c9X := cell_later HBX0.out c9
      clear hX c3 c9 c11 cx
      gi_wp2_with fail
      refine at_world (C := fun W => Code.roundsIn _ _ _ _ _ _ _ W) (P := fun Y => Below WD0.heap.size WD0 Y ∧ Y.heap.size = X0.heap.size + 1 ∧ Y.heap[X0.heap.size]? = some (.cells #[.int .i64 1] 3 (0, 0)))
        ⟨HBX0.out.alloc HBX0.out.size _, by simp, heap_new X0 _⟩ (fun W7 hW => ?_)
      obtain ⟨hbw, hzw, k9⟩ := hW
      have HBVW7 := Lib.hid (HBVD0.out.trans (hbw.mono HBVD0.out.size))
      have kx := (hbw.block _ (heap_lt HX0.out)).trans HX0.out
      have kr := (hbw.block _ (heap_lt HY0.out)).trans HY0.out
      have kd0 := (hbw.block _ (heap_lt HKD0.out)).trans HKD0.out
      have c9 : W7.cell? ⟨X0.heap.size, 0, none⟩ = some (.int .i64 1) := cell_of_row _ _ 0 _ _ _ k9
      clear c9X
      rw [roundsIn_succ]
      have HVW7 : Hid (V.heap.size + 1 < W7.heap.size) := Lib.hid (heap_lt kr)
      have H9W7 : Hid (X0.heap.size < W7.heap.size) := Lib.hid (by omega)
      have HDl : Hid (D0 < W7.heap.size) := Lib.hid (heap_lt kd0)
      clear hbw hzw

      -- round 1
      gi_wp2_with (refine ⟨trivial, ?_⟩; gi_at_call 21; refine (callsIn_wide.2 (all_any _ _)).mono ?_; rintro e w3 ⟨rfl, rfl⟩; simp only [allV])
      refine at_world (C := fun W => Code.wpIn _ _ _ _ _ _ W) (P := fun W => Below W7.heap.size W7 W ∧ W.heap.size = W7.heap.size + 2 ∧ W.heap[W7.heap.size]? = some (.cells #[.pointer (some ⟨q, 0, none⟩)] 23 (0, 0)) ∧ W.heap[W7.heap.size + 1]? = some (.cells #[.int .i64 0] 3 (0, 0)))
        ⟨(below_alloc _ _).alloc (by simp) _, by simp, heap_old _ (by simp) (heap_new W7 _), (by have := heap_new (W7.alloc (.cells #[.pointer (some ⟨q, 0, none⟩)] 23)) (.cells #[.int .i64 0] 3); simpa using this)⟩ (fun W8 hW => ?_)
      obtain ⟨hb6, z6, k6, ki6⟩ := hW
      have HZW8 := Lib.hid z6
      clear z6
      have HBV6 := Lib.hid (HBVW7.out.trans (hb6.mono HBVW7.out.size))
      have hseq := iter_seq 2 (by omega) (QT.ql (HQ.out.later HBV6.out)) HS.out (cell_of_row _ _ 0 _ _ _ k6)
      have hE6 := ((hb6.block _ (heap_lt kd0)).trans kd0)
      have hI0 : LkI V x X0.heap.size (W7.heap.size + 1) 1 l (fun Y => Y.heap[D0]? = some (.deferred (some []))) [] W8 := ⟨HBV6.out, (hb6.block _ (heap_lt kx)).trans kx, (hb6.block _ (heap_lt kr)).trans kr, (hb6.block _ (heap_lt k9)).trans k9, ki6, rfl, hE6⟩
      have HIu := Lib.hid (lkI_upto (V := V) (x := x) (b9 := X0.heap.size) (bi := W7.heap.size + 1) (r := 1) (l := l) (E := (fun Y => Y.heap[D0]? = some (.deferred (some [])))) (B := W8.heap.size) (by have := HVW7.out; have := HZW8.out; omega) (by have := H9W7.out; have := HZW8.out; omega) (by have := HZW8.out; omega) (fun Y Y2 h hb => (hb.block _ (by have := HDl.out; have := HZW8.out; omega)).trans h))
      have HXu := Lib.hid (lkX_upto (V := V) (x := x) (b9 := X0.heap.size) (bi := W7.heap.size + 1) (r := 1) (l := l) (E := (fun Y => Y.heap[D0]? = some (.deferred (some [])))) (B := W8.heap.size) (by have := HVW7.out; have := HZW8.out; omega) (by have := H9W7.out; have := HZW8.out; omega) (by have := HZW8.out; omega) (fun Y Y2 h hb => (hb.block _ (by have := HDl.out; have := HZW8.out; omega)).trans h))
      clear hb6 k6 ki6 kx kr k9 c9
      refine wpIn_rangeFunc_B2 rfl (by omega) (gf := 31) (lb := #[.pointer (some ⟨W7.heap.size, 0, none⟩)]) rfl trivial (enters_of Try.func31 (by kernel_rfl) rfl)
        hseq (Below.refl _ _) (fun _ => rfl) (LkI V x X0.heap.size (W7.heap.size + 1) 1 l (fun Y => Y.heap[D0]? = some (.deferred (some [])))) (LkX V x X0.heap.size (W7.heap.size + 1) 1 l (fun Y => Y.heap[D0]? = some (.deferred (some [])))) HIu.out HXu.out hI0 ?hround1 ?hdone1 ?hstop1
      case hround1 =>
        intro l0 pre t W hwl hlt hI hlen
        have hll2 : pre.length < l.length := by have := HS.out.row; rw [this, List.length_map]; exact hlen
        have HI := Lib.hid hI
        have HLl := Lib.hid hll2
        clear hseq hI0 hE6 hlen hI hll2
        simp only [encT, List.zip_toArray, List.zip_cons_cons, List.zip_nil_left, List.zip_nil_right, List.size_toArray, List.length_cons, List.length_nil, List.foldl_toArray', List.foldl_cons, List.foldl_nil, List.setIfInBounds_toArray, List.set_cons_succ, List.set_cons_zero]
        gi_wp2_with fail
        refine ⟨(Moved.refl _ W).alloc _, fun o => ?_⟩
        refine at_world (C := fun V => Code.wpIn _ _ _ _ (roundB _ _ _ _ V) _ V) (P := fun X => Below W8.heap.size W X ∧ X.heap.size = W.heap.size + 1 ∧ X.heap[W.heap.size]? = some (.cells #[.int .i64 t.at_, .int .i64 t.id] 36 (0, 0)))
          ⟨((below_alloc W _).mono (by omega)).trans (below_putObj _ o hwl), by simp [World.putObj], (World.putObj_heap_other (by omega)).trans (heap_new W _)⟩ (fun X hX => ?_)
        obtain ⟨hbx, hzx, kt⟩ := hX
        have HIX := Lib.hid (HIu.out _ _ _ HI.out hbx)
        have HZX := Lib.hid hzx
        obtain ⟨i1, i2, i3, i4, i5, i6, i7⟩ := HIX.out
        obtain ⟨g, rfl, e0, e1⟩ := ref_at (HOw.out X i1) HLl.out
        have c3 : X.cell? ⟨V.heap.size, 0, none⟩ = some (.pointer (some ⟨x, 0, none⟩)) := cell_of_row _ _ 0 _ _ _ i2
        have c9 : X.cell? ⟨X0.heap.size, 0, none⟩ = some (.int .i64 1) := cell_of_row _ _ 0 _ _ _ i4
        have c11 : X.cell? ⟨W7.heap.size + 1, 0, none⟩ = some (.int .i64 (pre.length : Int)) := cell_of_row _ _ 0 _ _ _ i5
        have f11 : X.frozen? ⟨W7.heap.size + 1, 0, none⟩ = false := (cells_of_heap i5).2 0
        have c12 : X.cell? ⟨W.heap.size, 0, none⟩ = some (.int .i64 t.at_) := cell_of_row _ _ 0 _ _ _ kt
        have c13 : X.cell? ⟨W.heap.size, 1, none⟩ = some (.int .i64 t.id) := cell_of_row _ _ 1 _ _ _ kt
        have cx := HX.out X i1
        have HTk := Lib.hid (take_more (t := t) i6 HLl.out)
        have hkN : (pre.length : Int) < (N : Int) := by have := HLl.out; have := HNN.out; omega
        obtain ⟨k, hk⟩ : ∃ k, k = pre.length := ⟨_, rfl⟩
        have HKk := Lib.hid hk
        obtain ⟨la, hla⟩ : ∃ la, la = (l[pre.length]'HLl.out).1 := ⟨_, rfl⟩
        obtain ⟨lb, hlb⟩ : ∃ lb, lb = (l[pre.length]'HLl.out).2 := ⟨_, rfl⟩
        have HPr : Hid (((pre ++ [t]).map pairT = l.take (pre ++ [t]).length) ↔ (t.at_ = la ∧ t.id = lb)) := Lib.hid (by
          rw [HTk.out, hla, hlb]
          unfold pairT
          constructor
          · intro e; rw [← e]; exact ⟨rfl, rfl⟩
          · rintro ⟨e1, e2⟩; rw [e1, e2])
        rw [← hla] at e0
        rw [← hlb] at e1
        rw [← hk] at c11 hkN e0 e1
        have hk0 : (0 : Int) ≤ (k : Int) := by omega
        have hkd : decide (N ≤ k) = false := by simp; omega
        clear hla hlb hk i2 i3 i4 i5 i6 i7 kt hzx hbx i1
        gi_wp2_with fail
        have cr : X.cell? ⟨V.heap.size + 1, 0, none⟩ = some (.bool false) := cell_of_row _ _ 0 _ _ _ HIX.out.2.2.1
        have fr : X.frozen? ⟨V.heap.size + 1, 0, none⟩ = false := (cells_of_heap HIX.out.2.2.1).2 0
        by_cases h1 : t.at_ = la
        · by_cases h2 : t.id = lb
          · subst h1
            subst h2
            refine wpIn_region_quietR (by kernel_rfl) (by kernel_rfl) (by rintro ⟨_, _, h⟩; exact h) (by kernel_rfl) ?_
            repeat (go_big_quiet_step (fail))
            refine wpQuiet_nil ?_
            rintro _ ⟨nq2, rfl⟩
            have hkl : (k : Int) = (pre.length : Int) := by have := HKk.out; omega
            have HNx := Lib.hid (fun (hE : (fun Y => Y.heap[D0]? = some (.deferred (some []))) ((X.drewN nq2).setCell ⟨W7.heap.size + 1, 0, none⟩ (.int .i64 ((k : Int) + 1)))) => by
              rw [hkl] at hE ⊢
              exact lkI_next HIX.out nq2 (by have := HVW7.out; omega) (by have := H9W7.out; omega) hE (HPr.out.2 ⟨rfl, rfl⟩) : (fun Y => Y.heap[D0]? = some (.deferred (some []))) ((X.drewN nq2).setCell ⟨W7.heap.size + 1, 0, none⟩ (.int .i64 ((k : Int) + 1))) → LkI V x X0.heap.size (W7.heap.size + 1) 1 l (fun Y => Y.heap[D0]? = some (.deferred (some []))) (pre ++ [t]) ((X.drewN nq2).setCell ⟨W7.heap.size + 1, 0, none⟩ (.int .i64 ((k : Int) + 1))))
            have HKp : Hid (KeepB W8.heap.size X ((X.drewN nq2).setCell ⟨W7.heap.size + 1, 0, none⟩ (.int .i64 ((k : Int) + 1)))) := Lib.hid (((Moved.refl _ X).drewN _).setCell (.inr (by have := HZW8.out; omega)) _)
            clear hkl
            have hne9 : ¬ X0.heap.size = W7.heap.size + 1 := by have := H9W7.out; omega
            have hne9' : ¬ W7.heap.size + 1 = X0.heap.size := by have := H9W7.out; omega
            gi_wp2_with fail
            exact ⟨HKp.out, HNx.out ((Below.heap_setCell _ _ _ _ (by show D0 ≠ W7.heap.size + 1; have := HDl.out; omega)).trans HIX.out.2.2.2.2.2.2)⟩
          · subst h1
            refine wpIn_region_quietR (by kernel_rfl) (by kernel_rfl) (by rintro ⟨_, _, h⟩; exact h) (by kernel_rfl) ?_
            repeat (go_big_quiet_step (fail))
            refine wpQuiet_nil ?_
            rintro _ ⟨nq2, rfl⟩
            gi_wp2_with fail
            refine ⟨((Moved.refl _ X).drewN _).setCell (.inr (by have := HVW7.out; have := HZW8.out; omega)) _, .inl ⟨rfl, fun e => ?_⟩⟩
            have := HPr.out.1 e
            exact h2 this.2
        · refine wpIn_region_quietR (by kernel_rfl) (by kernel_rfl) (by rintro ⟨_, _, h⟩; exact h) (by kernel_rfl) ?_
          repeat (go_big_quiet_step (fail))
          refine wpQuiet_nil ?_
          rintro _ ⟨nq2, rfl⟩
          gi_wp2_with fail
          refine ⟨((Moved.refl _ X).drewN _).setCell (.inr (by have := HVW7.out; have := HZW8.out; omega)) _, .inl ⟨rfl, fun e => ?_⟩⟩
          have := HPr.out.1 e
          exact h1 this.1
      case hstop1 =>
        rintro c pre W hc hSp (⟨rfl, hne⟩ | ⟨rfl, _⟩)
        · exact hne (pre_take HS.out.row hSp)
        · exact hc rfl
      case hdone1 =>
        rintro D1 xs WD1 hD hxs hKD
        have HKD1 := Lib.hid hKD
        have HD1 := Lib.hid hD
        have hxs2 : LkI V x X0.heap.size (W7.heap.size + 1) 1 l (fun Y => Y.heap[D0]? = some (.deferred (some []))) xs WD1 ∧ (xs.length = N ∨ (((1 : Int) = 0) ∧ xs.length = 2 ∧ N ≠ 2)) := by
          rcases hxs with ⟨h1, h2⟩ | ⟨_, ⟨h1, _⟩ | ⟨_, h1, h2, h3⟩⟩
          · exact ⟨h2, .inl (by rw [h1, HNN.out, HS.out.row, List.length_map])⟩
          · cases h1
          · by_cases hN2 : N = 2
            · exact ⟨h3, .inl (by rw [h2, hN2])⟩
            · exact ⟨h3, .inr ⟨h1, h2, hN2⟩⟩
        clear hxs hKD hD hseq hI0 hE6
        obtain ⟨hI, hway⟩ := hxs2
        obtain ⟨i1, i2, i3, i4, i5, i6, i7⟩ := hI
        have HBVD1 := Lib.hid i1
        have HX1 := Lib.hid i2
        have HY1 := Lib.hid i3
        have HE1 := Lib.hid i7
        have c3 : WD1.cell? ⟨V.heap.size, 0, none⟩ = some (.pointer (some ⟨x, 0, none⟩)) := cell_of_row _ _ 0 _ _ _ i2
        have c9 : WD1.cell? ⟨X0.heap.size, 0, none⟩ = some (.int .i64 1) := cell_of_row _ _ 0 _ _ _ i4
        have c11 : WD1.cell? ⟨W7.heap.size + 1, 0, none⟩ = some (.int .i64 (xs.length : Int)) := cell_of_row _ _ 0 _ _ _ i5
        have cx := HX.out WD1 i1
        clear i1 i2 i3 i4 i5 i6 i7
        rcases hway with hw | ⟨hw, _⟩
        · rw [hw] at c11
          gi_wp2_with fail
          refine wpIn_region_quietW (by kernel_rfl) (by kernel_rfl) (by rintro ⟨_, _, h⟩; exact nomatch h.1) (by kernel_rfl) ?_
          repeat (go_big_quiet_step (fail))
          refine wpQuiet_nil ?_
          rintro _ ⟨nq3, rfl⟩
          obtain ⟨X1, hX⟩ : ∃ X, X = WD1.drewN nq3 := ⟨_, rfl⟩
          rw [← hX]
          have HBX1 : Hid (Below WD1.heap.size WD1 X1) := Lib.hid (by rw [hX]; exact below_drewN (Below.refl _ _) _)
          have HSX1 : Hid (X1.heap.size = WD1.heap.size) := Lib.hid (by rw [hX]; rfl)
          have c9X := cell_later HBX1.out c9
          clear hX c3 c9 c11 cx
          gi_wp2_with fail
          refine at_world (C := fun W => Code.roundsIn _ _ _ _ _ _ _ W) (P := fun Y => Below WD1.heap.size WD1 Y ∧ Y.heap.size = X1.heap.size + 1 ∧ Y.heap[X1.heap.size]? = some (.cells #[.int .i64 2] 3 (0, 0)))
            ⟨HBX1.out.alloc HBX1.out.size _, by simp, heap_new X1 _⟩ (fun W9 hW => ?_)
          obtain ⟨hbw, hzw, k9⟩ := hW
          have HBVW9 := Lib.hid (HBVD1.out.trans (hbw.mono HBVD1.out.size))
          have kx := (hbw.block _ (heap_lt HX1.out)).trans HX1.out
          have kr := (hbw.block _ (heap_lt HY1.out)).trans HY1.out
          have kd1 := (hbw.block _ (heap_lt HKD1.out)).trans HKD1.out
          have c9 : W9.cell? ⟨X1.heap.size, 0, none⟩ = some (.int .i64 2) := cell_of_row _ _ 0 _ _ _ k9
          clear c9X
          rw [roundsIn_succ]
          have kd0 := (hbw.block _ (heap_lt HE1.out)).trans HE1.out
          have KD0 := Lib.hid kd0
          have KD1 := Lib.hid kd1
          have KR := Lib.hid kr
          have cr : W9.cell? ⟨V.heap.size + 1, 0, none⟩ = some (.bool false) := cell_of_row _ _ 0 _ _ _ kr
          have fr : W9.frozen? ⟨V.heap.size + 1, 0, none⟩ = false := (cells_of_heap kr).2 0
          clear hbw hzw kx kr kd0 kd1 k9
          gi_wp2_with fail
          have n1 : D1 ≠ V.heap.size + 1 := by have := HD1.out; have := HVW7.out; have := HZW8.out; omega
          have n0 : D0 ≠ V.heap.size + 1 := by have := HD0.out; have := HVW5.out; have := HZW6.out; omega
          have n01 : D0 ≠ D1 := by have := HD1.out; have := HDl.out; have := HZW8.out; omega
          have g1 : (W9.setCell ⟨V.heap.size + 1, 0, none⟩ (.bool true)).heap[D1]? = some (.deferred (some [])) := (Below.heap_setCell W9 _ _ D1 n1).trans KD1.out
          have g0 : ((W9.setCell ⟨V.heap.size + 1, 0, none⟩ (.bool true)).putObj D1 (.deferred none)).heap[D0]? = some (.deferred (some [])) := (World.putObj_heap_other n01).trans ((Below.heap_setCell W9 _ _ D0 n0).trans KD0.out)
          have gq : (((W9.setCell ⟨V.heap.size + 1, 0, none⟩ (.bool true)).putObj D1 (.deferred none)).putObj D0 (.deferred none)).heap[V.heap.size + 1]? = some (.cells #[.bool true] 4 (0, 0)) := (World.putObj_heap_other n0.symm).trans ((World.putObj_heap_other n1.symm).trans (by rw [heap_set KR.out 0 _]; rfl))
          have ge := cell_of_row _ _ 0 _ _ _ gq
          refine ⟨by simp, .inl ⟨_, _, rfl, run_takeDeferred g1, ?_⟩⟩
          refine ⟨by simp, .inl ⟨_, _, rfl, run_takeDeferred g0, ?_⟩⟩
          refine ⟨.bool true, ?_, rfl, ?_⟩
          · simp [results, Try.f18, go_sem, ge]
          · exact ((HBVW9.out.setCell (by show V.heap.size ≤ V.heap.size + 1; omega) _).trans (below_putObj _ _ (by have := HD1.out; have := HVW7.out; have := HZW8.out; omega))).trans (below_putObj _ _ (by have := HD0.out; have := HVW5.out; have := HZW6.out; omega))
        · exact absurd hw (by decide)

    · have hN3 : ((2 : Int) != (N : Int)) = true := by simp; omega
      rw [hw] at c11
      gi_wp2_with fail
      refine wpIn_region_quietW (by kernel_rfl) (by kernel_rfl) (by rintro ⟨_, _, h⟩; exact nomatch h.1) (by kernel_rfl) ?_
      repeat (go_big_quiet_step (fail))
      refine wpQuiet_nil ?_
      rintro _ ⟨nq3, rfl⟩
      obtain ⟨X0, hX⟩ : ∃ X, X = WD0.drewN nq3 := ⟨_, rfl⟩
      rw [← hX]
      have HBX0 : Hid (Below WD0.heap.size WD0 X0) := Lib.hid (by rw [hX]; exact below_drewN (Below.refl _ _) _)
      have HSX0 : Hid (X0.heap.size = WD0.heap.size) := Lib.hid (by rw [hX]; rfl)
      have c9X := cell_later HBX0.out c9
      clear hX c3 c9 c11 cx
      gi_wp2_with fail
      refine at_world (C := fun W => Code.roundsIn _ _ _ _ _ _ _ W) (P := fun Y => Below WD0.heap.size WD0 Y ∧ Y.heap.size = X0.heap.size + 1 ∧ Y.heap[X0.heap.size]? = some (.cells #[.int .i64 1] 3 (0, 0)))
        ⟨HBX0.out.alloc HBX0.out.size _, by simp, heap_new X0 _⟩ (fun W7 hW => ?_)
      obtain ⟨hbw, hzw, k9⟩ := hW
      have HBVW7 := Lib.hid (HBVD0.out.trans (hbw.mono HBVD0.out.size))
      have kx := (hbw.block _ (heap_lt HX0.out)).trans HX0.out
      have kr := (hbw.block _ (heap_lt HY0.out)).trans HY0.out
      have kd0 := (hbw.block _ (heap_lt HKD0.out)).trans HKD0.out
      have c9 : W7.cell? ⟨X0.heap.size, 0, none⟩ = some (.int .i64 1) := cell_of_row _ _ 0 _ _ _ k9
      clear c9X
      rw [roundsIn_succ]
      have HVW7 : Hid (V.heap.size + 1 < W7.heap.size) := Lib.hid (heap_lt kr)
      have H9W7 : Hid (X0.heap.size < W7.heap.size) := Lib.hid (by omega)
      have HDl : Hid (D0 < W7.heap.size) := Lib.hid (heap_lt kd0)
      clear hbw hzw

      -- round 1
      gi_wp2_with (refine ⟨trivial, ?_⟩; gi_at_call 21; refine (callsIn_wide.2 (all_any _ _)).mono ?_; rintro e w3 ⟨rfl, rfl⟩; simp only [allV])
      refine at_world (C := fun W => Code.wpIn _ _ _ _ _ _ W) (P := fun W => Below W7.heap.size W7 W ∧ W.heap.size = W7.heap.size + 2 ∧ W.heap[W7.heap.size]? = some (.cells #[.pointer (some ⟨q, 0, none⟩)] 23 (0, 0)) ∧ W.heap[W7.heap.size + 1]? = some (.cells #[.int .i64 0] 3 (0, 0)))
        ⟨(below_alloc _ _).alloc (by simp) _, by simp, heap_old _ (by simp) (heap_new W7 _), (by have := heap_new (W7.alloc (.cells #[.pointer (some ⟨q, 0, none⟩)] 23)) (.cells #[.int .i64 0] 3); simpa using this)⟩ (fun W8 hW => ?_)
      obtain ⟨hb6, z6, k6, ki6⟩ := hW
      have HZW8 := Lib.hid z6
      clear z6
      have HBV6 := Lib.hid (HBVW7.out.trans (hb6.mono HBVW7.out.size))
      have hseq := iter_seq 2 (by omega) (QT.ql (HQ.out.later HBV6.out)) HS.out (cell_of_row _ _ 0 _ _ _ k6)
      have hE6 := ((hb6.block _ (heap_lt kd0)).trans kd0)
      have hI0 : LkI V x X0.heap.size (W7.heap.size + 1) 1 l (fun Y => Y.heap[D0]? = some (.deferred (some []))) [] W8 := ⟨HBV6.out, (hb6.block _ (heap_lt kx)).trans kx, (hb6.block _ (heap_lt kr)).trans kr, (hb6.block _ (heap_lt k9)).trans k9, ki6, rfl, hE6⟩
      have HIu := Lib.hid (lkI_upto (V := V) (x := x) (b9 := X0.heap.size) (bi := W7.heap.size + 1) (r := 1) (l := l) (E := (fun Y => Y.heap[D0]? = some (.deferred (some [])))) (B := W8.heap.size) (by have := HVW7.out; have := HZW8.out; omega) (by have := H9W7.out; have := HZW8.out; omega) (by have := HZW8.out; omega) (fun Y Y2 h hb => (hb.block _ (by have := HDl.out; have := HZW8.out; omega)).trans h))
      have HXu := Lib.hid (lkX_upto (V := V) (x := x) (b9 := X0.heap.size) (bi := W7.heap.size + 1) (r := 1) (l := l) (E := (fun Y => Y.heap[D0]? = some (.deferred (some [])))) (B := W8.heap.size) (by have := HVW7.out; have := HZW8.out; omega) (by have := H9W7.out; have := HZW8.out; omega) (by have := HZW8.out; omega) (fun Y Y2 h hb => (hb.block _ (by have := HDl.out; have := HZW8.out; omega)).trans h))
      clear hb6 k6 ki6 kx kr k9 c9
      refine wpIn_rangeFunc_B2 rfl (by omega) (gf := 31) (lb := #[.pointer (some ⟨W7.heap.size, 0, none⟩)]) rfl trivial (enters_of Try.func31 (by kernel_rfl) rfl)
        hseq (Below.refl _ _) (fun _ => rfl) (LkI V x X0.heap.size (W7.heap.size + 1) 1 l (fun Y => Y.heap[D0]? = some (.deferred (some [])))) (LkX V x X0.heap.size (W7.heap.size + 1) 1 l (fun Y => Y.heap[D0]? = some (.deferred (some [])))) HIu.out HXu.out hI0 ?hround1 ?hdone1 ?hstop1
      case hround1 =>
        intro l0 pre t W hwl hlt hI hlen
        have hll2 : pre.length < l.length := by have := HS.out.row; rw [this, List.length_map]; exact hlen
        have HI := Lib.hid hI
        have HLl := Lib.hid hll2
        clear hseq hI0 hE6 hlen hI hll2
        simp only [encT, List.zip_toArray, List.zip_cons_cons, List.zip_nil_left, List.zip_nil_right, List.size_toArray, List.length_cons, List.length_nil, List.foldl_toArray', List.foldl_cons, List.foldl_nil, List.setIfInBounds_toArray, List.set_cons_succ, List.set_cons_zero]
        gi_wp2_with fail
        refine ⟨(Moved.refl _ W).alloc _, fun o => ?_⟩
        refine at_world (C := fun V => Code.wpIn _ _ _ _ (roundB _ _ _ _ V) _ V) (P := fun X => Below W8.heap.size W X ∧ X.heap.size = W.heap.size + 1 ∧ X.heap[W.heap.size]? = some (.cells #[.int .i64 t.at_, .int .i64 t.id] 36 (0, 0)))
          ⟨((below_alloc W _).mono (by omega)).trans (below_putObj _ o hwl), by simp [World.putObj], (World.putObj_heap_other (by omega)).trans (heap_new W _)⟩ (fun X hX => ?_)
        obtain ⟨hbx, hzx, kt⟩ := hX
        have HIX := Lib.hid (HIu.out _ _ _ HI.out hbx)
        have HZX := Lib.hid hzx
        obtain ⟨i1, i2, i3, i4, i5, i6, i7⟩ := HIX.out
        obtain ⟨g, rfl, e0, e1⟩ := ref_at (HOw.out X i1) HLl.out
        have c3 : X.cell? ⟨V.heap.size, 0, none⟩ = some (.pointer (some ⟨x, 0, none⟩)) := cell_of_row _ _ 0 _ _ _ i2
        have c9 : X.cell? ⟨X0.heap.size, 0, none⟩ = some (.int .i64 1) := cell_of_row _ _ 0 _ _ _ i4
        have c11 : X.cell? ⟨W7.heap.size + 1, 0, none⟩ = some (.int .i64 (pre.length : Int)) := cell_of_row _ _ 0 _ _ _ i5
        have f11 : X.frozen? ⟨W7.heap.size + 1, 0, none⟩ = false := (cells_of_heap i5).2 0
        have c12 : X.cell? ⟨W.heap.size, 0, none⟩ = some (.int .i64 t.at_) := cell_of_row _ _ 0 _ _ _ kt
        have c13 : X.cell? ⟨W.heap.size, 1, none⟩ = some (.int .i64 t.id) := cell_of_row _ _ 1 _ _ _ kt
        have cx := HX.out X i1
        have HTk := Lib.hid (take_more (t := t) i6 HLl.out)
        have hkN : (pre.length : Int) < (N : Int) := by have := HLl.out; have := HNN.out; omega
        obtain ⟨k, hk⟩ : ∃ k, k = pre.length := ⟨_, rfl⟩
        have HKk := Lib.hid hk
        obtain ⟨la, hla⟩ : ∃ la, la = (l[pre.length]'HLl.out).1 := ⟨_, rfl⟩
        obtain ⟨lb, hlb⟩ : ∃ lb, lb = (l[pre.length]'HLl.out).2 := ⟨_, rfl⟩
        have HPr : Hid (((pre ++ [t]).map pairT = l.take (pre ++ [t]).length) ↔ (t.at_ = la ∧ t.id = lb)) := Lib.hid (by
          rw [HTk.out, hla, hlb]
          unfold pairT
          constructor
          · intro e; rw [← e]; exact ⟨rfl, rfl⟩
          · rintro ⟨e1, e2⟩; rw [e1, e2])
        rw [← hla] at e0
        rw [← hlb] at e1
        rw [← hk] at c11 hkN e0 e1
        have hk0 : (0 : Int) ≤ (k : Int) := by omega
        have hkd : decide (N ≤ k) = false := by simp; omega
        clear hla hlb hk i2 i3 i4 i5 i6 i7 kt hzx hbx i1
        gi_wp2_with fail
        have cr : X.cell? ⟨V.heap.size + 1, 0, none⟩ = some (.bool false) := cell_of_row _ _ 0 _ _ _ HIX.out.2.2.1
        have fr : X.frozen? ⟨V.heap.size + 1, 0, none⟩ = false := (cells_of_heap HIX.out.2.2.1).2 0
        by_cases h1 : t.at_ = la
        · by_cases h2 : t.id = lb
          · subst h1
            subst h2
            refine wpIn_region_quietR (by kernel_rfl) (by kernel_rfl) (by rintro ⟨_, _, h⟩; exact h) (by kernel_rfl) ?_
            repeat (go_big_quiet_step (fail))
            refine wpQuiet_nil ?_
            rintro _ ⟨nq2, rfl⟩
            have hkl : (k : Int) = (pre.length : Int) := by have := HKk.out; omega
            have HNx := Lib.hid (fun (hE : (fun Y => Y.heap[D0]? = some (.deferred (some []))) ((X.drewN nq2).setCell ⟨W7.heap.size + 1, 0, none⟩ (.int .i64 ((k : Int) + 1)))) => by
              rw [hkl] at hE ⊢
              exact lkI_next HIX.out nq2 (by have := HVW7.out; omega) (by have := H9W7.out; omega) hE (HPr.out.2 ⟨rfl, rfl⟩) : (fun Y => Y.heap[D0]? = some (.deferred (some []))) ((X.drewN nq2).setCell ⟨W7.heap.size + 1, 0, none⟩ (.int .i64 ((k : Int) + 1))) → LkI V x X0.heap.size (W7.heap.size + 1) 1 l (fun Y => Y.heap[D0]? = some (.deferred (some []))) (pre ++ [t]) ((X.drewN nq2).setCell ⟨W7.heap.size + 1, 0, none⟩ (.int .i64 ((k : Int) + 1))))
            have HKp : Hid (KeepB W8.heap.size X ((X.drewN nq2).setCell ⟨W7.heap.size + 1, 0, none⟩ (.int .i64 ((k : Int) + 1)))) := Lib.hid (((Moved.refl _ X).drewN _).setCell (.inr (by have := HZW8.out; omega)) _)
            clear hkl
            have hne9 : ¬ X0.heap.size = W7.heap.size + 1 := by have := H9W7.out; omega
            have hne9' : ¬ W7.heap.size + 1 = X0.heap.size := by have := H9W7.out; omega
            gi_wp2_with fail
            exact ⟨HKp.out, HNx.out ((Below.heap_setCell _ _ _ _ (by show D0 ≠ W7.heap.size + 1; have := HDl.out; omega)).trans HIX.out.2.2.2.2.2.2)⟩
          · subst h1
            refine wpIn_region_quietR (by kernel_rfl) (by kernel_rfl) (by rintro ⟨_, _, h⟩; exact h) (by kernel_rfl) ?_
            repeat (go_big_quiet_step (fail))
            refine wpQuiet_nil ?_
            rintro _ ⟨nq2, rfl⟩
            gi_wp2_with fail
            refine ⟨((Moved.refl _ X).drewN _).setCell (.inr (by have := HVW7.out; have := HZW8.out; omega)) _, .inl ⟨rfl, fun e => ?_⟩⟩
            have := HPr.out.1 e
            exact h2 this.2
        · refine wpIn_region_quietR (by kernel_rfl) (by kernel_rfl) (by rintro ⟨_, _, h⟩; exact h) (by kernel_rfl) ?_
          repeat (go_big_quiet_step (fail))
          refine wpQuiet_nil ?_
          rintro _ ⟨nq2, rfl⟩
          gi_wp2_with fail
          refine ⟨((Moved.refl _ X).drewN _).setCell (.inr (by have := HVW7.out; have := HZW8.out; omega)) _, .inl ⟨rfl, fun e => ?_⟩⟩
          have := HPr.out.1 e
          exact h1 this.1
      case hstop1 =>
        rintro c pre W hc hSp (⟨rfl, hne⟩ | ⟨rfl, _⟩)
        · exact hne (pre_take HS.out.row hSp)
        · exact hc rfl
      case hdone1 =>
        rintro D1 xs WD1 hD hxs hKD
        have HKD1 := Lib.hid hKD
        have HD1 := Lib.hid hD
        have hxs2 : LkI V x X0.heap.size (W7.heap.size + 1) 1 l (fun Y => Y.heap[D0]? = some (.deferred (some []))) xs WD1 ∧ (xs.length = N ∨ (((1 : Int) = 0) ∧ xs.length = 2 ∧ N ≠ 2)) := by
          rcases hxs with ⟨h1, h2⟩ | ⟨_, ⟨h1, _⟩ | ⟨_, h1, h2, h3⟩⟩
          · exact ⟨h2, .inl (by rw [h1, HNN.out, HS.out.row, List.length_map])⟩
          · cases h1
          · by_cases hN2 : N = 2
            · exact ⟨h3, .inl (by rw [h2, hN2])⟩
            · exact ⟨h3, .inr ⟨h1, h2, hN2⟩⟩
        clear hxs hKD hD hseq hI0 hE6
        obtain ⟨hI, hway⟩ := hxs2
        obtain ⟨i1, i2, i3, i4, i5, i6, i7⟩ := hI
        have HBVD1 := Lib.hid i1
        have HX1 := Lib.hid i2
        have HY1 := Lib.hid i3
        have HE1 := Lib.hid i7
        have c3 : WD1.cell? ⟨V.heap.size, 0, none⟩ = some (.pointer (some ⟨x, 0, none⟩)) := cell_of_row _ _ 0 _ _ _ i2
        have c9 : WD1.cell? ⟨X0.heap.size, 0, none⟩ = some (.int .i64 1) := cell_of_row _ _ 0 _ _ _ i4
        have c11 : WD1.cell? ⟨W7.heap.size + 1, 0, none⟩ = some (.int .i64 (xs.length : Int)) := cell_of_row _ _ 0 _ _ _ i5
        have cx := HX.out WD1 i1
        clear i1 i2 i3 i4 i5 i6 i7
        rcases hway with hw | ⟨hw, _⟩
        · rw [hw] at c11
          gi_wp2_with fail
          refine wpIn_region_quietW (by kernel_rfl) (by kernel_rfl) (by rintro ⟨_, _, h⟩; exact nomatch h.1) (by kernel_rfl) ?_
          repeat (go_big_quiet_step (fail))
          refine wpQuiet_nil ?_
          rintro _ ⟨nq3, rfl⟩
          obtain ⟨X1, hX⟩ : ∃ X, X = WD1.drewN nq3 := ⟨_, rfl⟩
          rw [← hX]
          have HBX1 : Hid (Below WD1.heap.size WD1 X1) := Lib.hid (by rw [hX]; exact below_drewN (Below.refl _ _) _)
          have HSX1 : Hid (X1.heap.size = WD1.heap.size) := Lib.hid (by rw [hX]; rfl)
          have c9X := cell_later HBX1.out c9
          clear hX c3 c9 c11 cx
          gi_wp2_with fail
          refine at_world (C := fun W => Code.roundsIn _ _ _ _ _ _ _ W) (P := fun Y => Below WD1.heap.size WD1 Y ∧ Y.heap.size = X1.heap.size + 1 ∧ Y.heap[X1.heap.size]? = some (.cells #[.int .i64 2] 3 (0, 0)))
            ⟨HBX1.out.alloc HBX1.out.size _, by simp, heap_new X1 _⟩ (fun W9 hW => ?_)
          obtain ⟨hbw, hzw, k9⟩ := hW
          have HBVW9 := Lib.hid (HBVD1.out.trans (hbw.mono HBVD1.out.size))
          have kx := (hbw.block _ (heap_lt HX1.out)).trans HX1.out
          have kr := (hbw.block _ (heap_lt HY1.out)).trans HY1.out
          have kd1 := (hbw.block _ (heap_lt HKD1.out)).trans HKD1.out
          have c9 : W9.cell? ⟨X1.heap.size, 0, none⟩ = some (.int .i64 2) := cell_of_row _ _ 0 _ _ _ k9
          clear c9X
          rw [roundsIn_succ]
          have kd0 := (hbw.block _ (heap_lt HE1.out)).trans HE1.out
          have KD0 := Lib.hid kd0
          have KD1 := Lib.hid kd1
          have KR := Lib.hid kr
          have cr : W9.cell? ⟨V.heap.size + 1, 0, none⟩ = some (.bool false) := cell_of_row _ _ 0 _ _ _ kr
          have fr : W9.frozen? ⟨V.heap.size + 1, 0, none⟩ = false := (cells_of_heap kr).2 0
          clear hbw hzw kx kr kd0 kd1 k9
          gi_wp2_with fail
          have n1 : D1 ≠ V.heap.size + 1 := by have := HD1.out; have := HVW7.out; have := HZW8.out; omega
          have n0 : D0 ≠ V.heap.size + 1 := by have := HD0.out; have := HVW5.out; have := HZW6.out; omega
          have n01 : D0 ≠ D1 := by have := HD1.out; have := HDl.out; have := HZW8.out; omega
          have g1 : (W9.setCell ⟨V.heap.size + 1, 0, none⟩ (.bool true)).heap[D1]? = some (.deferred (some [])) := (Below.heap_setCell W9 _ _ D1 n1).trans KD1.out
          have g0 : ((W9.setCell ⟨V.heap.size + 1, 0, none⟩ (.bool true)).putObj D1 (.deferred none)).heap[D0]? = some (.deferred (some [])) := (World.putObj_heap_other n01).trans ((Below.heap_setCell W9 _ _ D0 n0).trans KD0.out)
          have gq : (((W9.setCell ⟨V.heap.size + 1, 0, none⟩ (.bool true)).putObj D1 (.deferred none)).putObj D0 (.deferred none)).heap[V.heap.size + 1]? = some (.cells #[.bool true] 4 (0, 0)) := (World.putObj_heap_other n0.symm).trans ((World.putObj_heap_other n1.symm).trans (by rw [heap_set KR.out 0 _]; rfl))
          have ge := cell_of_row _ _ 0 _ _ _ gq
          refine ⟨by simp, .inl ⟨_, _, rfl, run_takeDeferred g1, ?_⟩⟩
          refine ⟨by simp, .inl ⟨_, _, rfl, run_takeDeferred g0, ?_⟩⟩
          refine ⟨.bool true, ?_, rfl, ?_⟩
          · simp [results, Try.f18, go_sem, ge]
          · exact ((HBVW9.out.setCell (by show V.heap.size ≤ V.heap.size + 1; omega) _).trans (below_putObj _ _ (by have := HD1.out; have := HVW7.out; have := HZW8.out; omega))).trans (below_putObj _ _ (by have := HD0.out; have := HVW5.out; have := HZW6.out; omega))
        · exact absurd hw (by decide)


theorem looks_true (w : World) (P : Nat → Prop) (q x : Nat) (k : Int) (V : World) (h : Both w P q x k V) :
    Calls Try.prog 18 #[.pointer (some ⟨q, 0, none⟩), .pointer (some ⟨x, 0, none⟩)] V fun e V' => e = .returned (.bool true) ∧ Below V.heap.size V V' := callsIn_wide.1 (looks_in w P q x k V h)
end Go.Proofs.Ytllkallodgbpmaa
