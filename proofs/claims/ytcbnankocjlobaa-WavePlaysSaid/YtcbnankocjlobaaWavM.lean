/- The laws of layer 17: lives. -/
import Derived.Test.YtcbnankocjlobaaWavH
set_option linter.unusedSimpArgs false
set_option linter.unusedVariables false
namespace Go.Proofs.Ytcbnankocjlobaa
open Go.ChangeShapes Go.WideShapes Go.ChangeAt Go.RowKit Go.Base Go.Maps

def flatS (l : List Stp) : List Value := l.flatMap stC
theorem flat_at : ∀ (l : List Stp) (i : Nat) (s : Stp), l[i]? = some s → ∀ (j : Nat), j < 10 → (flatS l)[i * 10 + j]? = (stC s)[j]?
  | x :: l, 0, s, h, j, hj => by
    have : x = s := by simpa using h
    subst this
    show (stC x ++ flatS l)[0 * 10 + j]? = (stC x)[j]?
    rw [Nat.zero_mul, Nat.zero_add, List.getElem?_append_left (by rw [stC_size]; exact hj)]
  | x :: l, i + 1, s, h, j, hj => by
    show (stC x ++ flatS l)[(i + 1) * 10 + j]? = (stC s)[j]?
    rw [List.getElem?_append_right (by rw [stC_size]; omega), stC_size, show (i + 1) * 10 + j - 10 = i * 10 + j by omega]
    exact flat_at l i s (by simpa using h) j hj
theorem stps_row {w : World} {g : Nat} {l : List Stp} {t : TypeId} {z : Nat × Nat} (h : w.heap[g]? = some (.cells (flatS l).toArray t z)) : Stps w (some ⟨g, 0, none⟩) l := fun i hi =>
  ⟨g, 0, rfl, fun j v hv => by
    have hj : j < 10 := (List.getElem?_eq_some_iff.1 hv).1
    rw [cell_of_row w g _ _ _ _ h, Nat.zero_add, List.getElem?_toArray, flat_at l i l[i] (List.getElem?_eq_getElem hi) j hj, hv]⟩
theorem own_weak {w : World} {B B' n size : Nat} {e : TypeId} {v : Value} {xs : List Value} (h : w.ownsRow B e size v n xs) (hB : B' ≤ B) : w.ownsRow B' e size v n xs :=
  ⟨h.1, h.2.imp id (fun ⟨g, cap, cur, hv, hb, rest⟩ => ⟨g, cap, cur, hv, Nat.le_trans hB hb, rest⟩)⟩
def lv1 : List Stp := [⟨[], 0, 0, 0, 5, 50, 0, 3, 2, 0⟩, ⟨[], 0, 0, 0, 5, 50, 0, 1, 0, 0⟩, ⟨[], 0, 0, 0, 5, 50, 1, 1, 0, 0⟩]
def lv2 : List Stp := [⟨[], 0, 0, 0, 5, 50, 0, 3, 2, 0⟩, ⟨[], 0, 0, 0, 5, 50, 0, 4, 0, 0⟩, ⟨[], 0, 0, 0, 5, 50, 1, 1, 0, 0⟩]
theorem wv_lv1 : WvOk lv1 := fun s hs => by simp [lv1] at hs; rcases hs with rfl | rfl | rfl <;> exact ⟨by decide, by decide⟩
theorem wv_lv2 : WvOk lv2 := fun s hs => by simp [lv2] at hs; rcases hs with rfl | rfl | rfl <;> exact ⟨by decide, by decide⟩
abbrev jobL (f : Int) : Array Value := #[.string ⟨#[]⟩, .int .u64 0, .int .u64 0, .int .u64 0, .int .u64 0, .int .u64 0, .bool false, .bool false, .slice none 0 0, .int .i64 0, .int .i64 0, .int .i64 f, .int .i64 0, .int .i64 0, .int .i64 0, .int .i64 0]
theorem ja_L (f : Int) (h : I64 f) : JA (jobL f) f 0 := ⟨rfl, rfl, rfl, rfl, h, ⟨by decide, by decide⟩⟩
def AdvIs (a : Adv) (w : World) (e : Ending) (w' : World) : Prop :=
  ∃ As cs Ak ck, e = .returned (.agg #[.slice As a.start.length cs, .slice Ak a.skip.length ck]) ∧ AdvW w' w.heap.size As cs Ak ck a ∧ Below w.heap.size w w'
theorem advise_is {C : Array Value} {fai par : Int} (hJ : JA C fai par) (A : Option Addr) {l : List Stp} (c : Nat) {now : Int} {a : Adv} (ha : advR fai par l now = a) (w : World) (hS : Stps w A l) (hm : l.length ≤ 1000000) (hw : WvOk l) :
    Calls Try.prog 10 #[.agg C, .slice A l.length c, .int .i64 now] w (AdvIs a w) := by subst ha; exact advise_any C fai par hJ A l c now w hS hm hw
theorem a1 : advR 0 0 lv1 9 = ⟨[1], []⟩ := by rfl
theorem a2 : advR 50 0 lv2 9 = ⟨[2], []⟩ := by rfl
theorem a3 : advR 49 0 lv2 9 = ⟨[], [(2, 5)]⟩ := by rfl
theorem advw_start {w : World} {B cs ck : Nat} {As Ak : Option Addr} {x : Nat} {k : List (Nat × Int)} (h : AdvW w B As cs Ak ck ⟨[x], k⟩) : ∃ g, As = some ⟨g, 0, none⟩ ∧ w.cell? ⟨g, 0, none⟩ = some (.int .i64 (x : Int)) := own_cell h.s rfl 0 (by simp)
theorem advw_skip {w : World} {B cs ck : Nat} {As Ak : Option Addr} {x : Nat} {r : Int} {k : List Nat} (h : AdvW w B As cs Ak ck ⟨k, [(x, r)]⟩) : ∃ g, Ak = some ⟨g, 0, none⟩ ∧ w.cell? ⟨g, 1, none⟩ = some (.int .i64 r) := own_cell h.k rfl 1 (by simp)
theorem below_set {w w1 : World} {B g i : Nat} (h : Below B w w1) (hg : B ≤ g) (v : Value) : Below B w (w1.setCell ⟨g, i, none⟩ v) :=
  ⟨h.os, h.tape, h.output, by simpa using h.size, fun k hk => (Below.heap_setCell w1 ⟨g, i, none⟩ v k (by show k ≠ g; omega)).trans (h.block k hk)⟩
theorem AdvW.set {w : World} {B cs ck g i : Nat} {As Ak : Option Addr} {a : Adv} {C : Array Value} (h : AdvW w B As cs Ak ck a) (hg : w.heap[g]? = some (.cells C 41 (0, 0))) (v : Value) : AdvW (w.setCell ⟨g, i, none⟩ v) B As cs Ak ck a :=
  ⟨own_moved h.s ((Moved.refl (fun j => j = g) w).setCell (.inr rfl) v) (fun j hj e => by subst e; exact own_ne h.s hg (by decide) hj), own_moved h.k ((Moved.refl (fun j => j = g) w).setCell (.inr rfl) v) (fun j hj e => by subst e; exact own_ne h.k hg (by decide) hj)⟩
theorem set17 : (flatS lv1).toArray.setIfInBounds 17 (.int .i64 4) = (flatS lv2).toArray := rfl
set_option maxHeartbeats 8000000 in
set_option maxRecDepth 20000 in
theorem lives_any (w : World) : Calls Try.prog 8 #[] w fun e w' => e = .returned (.bool true) ∧ Below w.heap.size w w' := by
  have h0 := heap_new w (.cells (flatS lv1).toArray 41)
  have HA1 : Hid (Calls Try.prog 10 #[.agg (jobL 0), .slice (some ⟨w.heap.size, 0, none⟩) 3 3, .int .i64 9] (w.alloc (.cells (flatS lv1).toArray 41)) fun e w' => ∃ As cs Ak ck, e = .returned (.agg #[.slice As 1 cs, .slice Ak 0 ck]) ∧ AdvW w' w.heap.size As cs Ak ck ⟨[1], []⟩ ∧ w'.heap[w.heap.size]? = some (.cells (flatS lv1).toArray 41 (0, 0)) ∧ Below w.heap.size w w') :=
    Lib.hid ((advise_is (ja_L 0 ⟨by decide, by decide⟩) (some ⟨w.heap.size, 0, none⟩) 3 a1 _ (stps_row h0) (by decide) wv_lv1).mono fun e w' ⟨As, cs, Ak, ck, he, ha, hb⟩ => ⟨As, cs, Ak, ck, he, ⟨own_weak ha.s (by simp), own_weak ha.k (by simp)⟩, (hb.block _ (by simp)).trans h0, (below_alloc w _).trans (hb.mono (by simp))⟩)
  have HA2 : Hid (∀ V, Below w.heap.size w V → V.heap[w.heap.size]? = some (.cells (flatS lv2).toArray 41 (0, 0)) → Calls Try.prog 10 #[.agg (jobL 50), .slice (some ⟨w.heap.size, 0, none⟩) 3 3, .int .i64 9] V fun e w' => ∃ As cs Ak ck, e = .returned (.agg #[.slice As 1 cs, .slice Ak 0 ck]) ∧ AdvW w' w.heap.size As cs Ak ck ⟨[2], []⟩ ∧ w'.heap[w.heap.size]? = some (.cells (flatS lv2).toArray 41 (0, 0)) ∧ Below V.heap.size V w') :=
    Lib.hid (fun V hV hv => (advise_is (ja_L 50 ⟨by decide, by decide⟩) (some ⟨w.heap.size, 0, none⟩) 3 a2 V (stps_row hv) (by decide) wv_lv2).mono fun e w' ⟨As, cs, Ak, ck, he, ha, hb⟩ => ⟨As, cs, Ak, ck, he, ⟨own_weak ha.s hV.size, own_weak ha.k hV.size⟩, (hb.block _ (heap_lt hv)).trans hv, hb⟩)
  have HA3 : Hid (∀ V, Below w.heap.size w V → V.heap[w.heap.size]? = some (.cells (flatS lv2).toArray 41 (0, 0)) → Calls Try.prog 10 #[.agg (jobL 49), .slice (some ⟨w.heap.size, 0, none⟩) 3 3, .int .i64 9] V fun e w' => ∃ As cs Ak ck, e = .returned (.agg #[.slice As 0 cs, .slice Ak 1 ck]) ∧ AdvW w' w.heap.size As cs Ak ck ⟨[], [(2, 5)]⟩ ∧ w'.heap[w.heap.size]? = some (.cells (flatS lv2).toArray 41 (0, 0)) ∧ Below V.heap.size V w') :=
    Lib.hid (fun V hV hv => (advise_is (ja_L 49 ⟨by decide, by decide⟩) (some ⟨w.heap.size, 0, none⟩) 3 a3 V (stps_row hv) (by decide) wv_lv2).mono fun e w' ⟨As, cs, Ak, ck, he, ha, hb⟩ => ⟨As, cs, Ak, ck, he, ⟨own_weak ha.s hV.size, own_weak ha.k hV.size⟩, (hb.block _ (heap_lt hv)).trans hv, hb⟩)
  have HO : Hid (∀ V, V.heap[w.heap.size]? = some (.cells (flatS lv2).toArray 41 (0, 0)) → Calls Try.prog 14 #[.slice (some ⟨w.heap.size, 0, none⟩) 3 3] V fun e w' => e = .returned (.bool false) ∧ Below V.heap.size V w') :=
    Lib.hid (fun V hv => (over_any (some ⟨w.heap.size, 0, none⟩) lv2 3 V (stps_row hv) (by decide)))
  have tk1 : True := trivial
  have tk2 : True := trivial
  clear h0
  go_enter Try.func8, Try.ntmps8
  go_wp2_with (first
    | (go_at_call 10; clear tk1; refine HA1.out.mono ?_; rintro e w1 ⟨As1, cs1, Ak1, ck1, rfl, ha1, hr1, hb1⟩; have HD1 := Lib.hid ha1; have HR1 := Lib.hid hr1; have HB1 := Lib.hid hb1; have k17 : w1.cell? ⟨w.heap.size, 17, none⟩ = some (.int .i64 1) := (cells_of_heap hr1).1 17; have f17 := (cells_of_heap hr1).2 17; have z1 := hb1.size; have z2 := heap_lt hr1; clear ha1 hr1 hb1)
    | (go_at_call 10; clear tk2; refine (HA2.out _ ((below_set HB1.out (Nat.le_refl _) _).alloc (by simpa using z1) _) (heap_old _ (by simpa using z2) (by rw [heap_set HR1.out 17 (.int .i64 4), set17]))).mono ?_; rintro e w2 ⟨As2, cs2, Ak2, ck2, rfl, ha2, hr2, hb2⟩; have HB2 : Hid (Below w.heap.size w w2) := Lib.hid (((below_set HB1.out (Nat.le_refl _) _).alloc (by simpa using z1) _).trans (hb2.mono (by simp; omega))); have HD2 := Lib.hid ha2; have HR2 := Lib.hid hr2; have HD12 : Hid (AdvW w2 w.heap.size As1 cs1 Ak1 ck1 ⟨[1], []⟩) := Lib.hid (((HD1.out.set HR1.out _).later (below_alloc _ _)).later hb2); have HA12 : Hid (w2.heap[w1.heap.size]? = some (.cells #[.slice As1 1 cs1, .slice Ak1 0 ck1] 34 (0, 0))) := Lib.hid ((hb2.block _ (by simp)).trans (by have := heap_new (w1.setCell ⟨w.heap.size, 17, none⟩ (.int .i64 4)) (.cells #[.slice As1 1 cs1, .slice Ak1 0 ck1] 34); simpa using this)); have z3 := HB2.out.size; have z4 := heap_lt hr2; clear ha2 hr2 hb2 k17 f17)
    | (go_at_call 10; refine (HA3.out _ (HB2.out.alloc z3 _) (heap_old _ z4 HR2.out)).mono ?_; rintro e w3 ⟨As3, cs3, Ak3, ck3, rfl, ha3, hr3, hb3⟩; have HR3 := Lib.hid hr3; have HB3 : Hid (Below w.heap.size w w3) := Lib.hid ((HB2.out.alloc z3 _).trans (hb3.mono (by simp; omega))); have hd13 := (HD12.out.later (below_alloc w2 (.cells #[.slice As2 1 cs2, .slice Ak2 0 ck2] 34))).later hb3; have hd23 := (HD2.out.later (below_alloc w2 (.cells #[.slice As2 1 cs2, .slice Ak2 0 ck2] 34))).later hb3; have q1 := (hb3.block _ (by have := heap_lt HA12.out; simp; omega)).trans (heap_old (.cells #[.slice As2 1 cs2, .slice Ak2 0 ck2] 34) (heap_lt HA12.out) HA12.out); have q2 := (hb3.block _ (by simp)).trans (heap_new w2 (.cells #[.slice As2 1 cs2, .slice Ak2 0 ck2] 34)); obtain ⟨g1, rfl, r1⟩ := advw_start hd13; obtain ⟨g2, rfl, r2⟩ := advw_start hd23; obtain ⟨g3, rfl, r3⟩ := advw_skip ha3; have s10 : w3.cell? ⟨w1.heap.size, 0, none⟩ = some (.slice (some ⟨g1, 0, none⟩) 1 cs1) := (cells_of_heap q1).1 0; have s20 : w3.cell? ⟨w2.heap.size, 0, none⟩ = some (.slice (some ⟨g2, 0, none⟩) 1 cs2) := (cells_of_heap q2).1 0; have r1' : w3.cell? ⟨g1, 0, none⟩ = some (.int .i64 1) := r1; have r2' : w3.cell? ⟨g2, 0, none⟩ = some (.int .i64 2) := r2; clear r1 r2; have l1 := World.block_lt_of_cell? w3 _ s10; have l2 := World.block_lt_of_cell? w3 _ s20; have l3 := World.block_lt_of_cell? w3 _ r1'; have l4 := World.block_lt_of_cell? w3 _ r2'; have l5 := World.block_lt_of_cell? w3 _ r3; simp only at l1 l2 l3 l4 l5; have z5 := HB3.out.size; clear hd13 hd23 q1 q2 ha3 hr3 hb3)
    | (go_at_call 14; refine (HO.out _ (heap_old _ (heap_lt HR3.out) HR3.out)).mono ?_; rintro e w4 ⟨rfl, hb4⟩; have HB4 : Hid (Below w.heap.size w w4) := Lib.hid ((HB3.out.alloc z5 _).trans (hb4.mono (by simp; omega))); clear hb4)
    | go_in)
  go_ret
  exact ⟨rfl, HB4.out⟩
end Go.Proofs.Ytcbnankocjlobaa
