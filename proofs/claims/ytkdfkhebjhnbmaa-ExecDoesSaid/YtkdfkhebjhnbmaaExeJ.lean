/- Package exec: an exec of the call's own; the laws' own lives; ExecNobody. -/
import Derived.Test.YtkdfkhebjhnbmaaExeI
set_option linter.unusedSimpArgs false
set_option linter.unusedVariables false
namespace Go.Proofs.Ytkdfkhebjhnbmaa
open Go.ChangeShapes Go.WideShapes Go.ChangeAt Go.RowKit Go.Base Go.Que Go.Exe

/-- An exec in blocks from B on. -/
def XL (B : Nat) (w : World) (x : Nat) (slots started : Int) (L : List Rn) : Prop := ∃ F, EX F w x slots started L ∧ (∀ k, F k → B ≤ k) ∧ B ≤ w.heap.size
def OpX (B : Nat) (x : Nat) (slots started : Int) (L : List Rn) (v : Value) (w : World) (e : Ending) (w' : World) : Prop := e = .returned v ∧ XL B w' x slots started L ∧ Below B w w'
/-- What Kill leaves: a row of the runs that are killed. -/
def KillX (B : Nat) (x : Nat) (slots started now : Int) (L : List Rn) (w : World) (e : Ending) (w' : World) : Prop :=
  ∃ done rest A c F, L = done ++ rest ∧ (∀ r ∈ done, r.until_ ≤ now) ∧ (∀ r ∈ rest, now < r.until_) ∧ e = .returned (.slice A done.length c) ∧ w'.ownsRow w.heap.size 41 4 (.slice A done.length c) done.length (cellsR done) ∧ EX F w' x slots started rest ∧ (∀ k, F k → B ≤ k) ∧ B ≤ w'.heap.size ∧ (∀ b, (Value.slice A done.length c).ownBlock = some b → ¬ F b) ∧ Below B w w'
section
variable {B x : Nat} {w w' : World} {slots started : Int} {L : List Rn}
theorem XL.later (h : XL B w x slots started L) (hb : Below w.heap.size w w') : XL B w' x slots started L := by
  obtain ⟨F, hx, hF, hB⟩ := h
  exact ⟨F, hx.later hb, hF, Nat.le_trans hB hb.size⟩
theorem XL.ok (h : XL B w x slots started L) : Ok slots started L := by
  obtain ⟨F, hx, hF, hB⟩ := h
  exact hx.ok
theorem opx_of {F : Nat → Prop} {v : Value} {e : Ending} (hF : ∀ k, F k → B ≤ k) (hB : B ≤ w.heap.size) (h : OpE F x slots started L v w e w') : OpX B x slots started L v w e w' := by
  obtain ⟨he, ⟨F', hx, hF'⟩, hm⟩ := h
  exact ⟨he, ⟨F', hx, fun k hk => (hF' k hk).elim (hF k) (fun h => Nat.le_trans hB h), Nat.le_trans hB hm.size⟩, hm.below (fun k _ h => hF k h) hB⟩
theorem newX {slots : Int} (h1 : 1 ≤ slots) (h2 : slots ≤ 65536) (w : World) : Calls Try.prog 7 #[.int .i64 slots] w fun e w' => ∃ x, e = .returned (.tuple #[.pointer (some ⟨x, 0, none⟩), .int .i64 0]) ∧ XL w.heap.size w' x slots 0 [] ∧ Below w.heap.size w w' :=
  (xnew_ok h1 h2 w).mono fun e w' ⟨x, F, he, hx, hF, hb⟩ => ⟨x, he, ⟨F, hx, hF, hb.size⟩, hb⟩
theorem XL.start_ok (h : XL B w x slots started L) {k : Ky} (hk : kyfit k) (hn : ∀ r ∈ L, r.key ≠ k) {u now : Int} (hu : now < u) (hi : i64 u) (hf : (L.length : Int) < slots) (hst : started + 1 < 4611686018427387904) :
    Calls Try.prog 10 #[.pointer (some ⟨x, 0, none⟩), kyV k, .int .i64 u, .int .i64 now] w (OpX B x slots (started + 1) (insR ⟨k, u, started + 1⟩ L) (.int .i64 0) w) := by
  obtain ⟨F, hx, hF, hB⟩ := h
  exact (hx.start_ok hk hn hu hi hf hst).mono fun e w' hp => opx_of hF hB hp
theorem XL.start_no (h : XL B w x slots started L) {k : Ky} (hk : kyfit k) {u now c : Int} (hw : whyNot slots L k u now c) :
    Calls Try.prog 10 #[.pointer (some ⟨x, 0, none⟩), kyV k, .int .i64 u, .int .i64 now] w (NoPost c w) := by
  obtain ⟨F, hx, hF, hB⟩ := h
  exact hx.start_no hk hw
theorem XL.finish_hit (h : XL B w x slots started L) {r : Rn} (hr : r ∈ L) : Calls Try.prog 12 #[.pointer (some ⟨x, 0, none⟩), kyV r.key] w (OpX B x slots started (del L r.num) (.int .i64 0) w) := by
  obtain ⟨F, hx, hF, hB⟩ := h
  exact (hx.finish_hit hr).mono fun e w' hp => opx_of hF hB hp
theorem XL.finish_miss (h : XL B w x slots started L) {k : Ky} (hk : kyfit k) (hn : ∀ r ∈ L, r.key ≠ k) : Calls Try.prog 12 #[.pointer (some ⟨x, 0, none⟩), kyV k] w (NoPost 4 w) := by
  obtain ⟨F, hx, hF, hB⟩ := h
  exact hx.finish_miss hk hn
theorem XL.free (h : XL B w x slots started L) : Calls Try.prog 21 #[.pointer (some ⟨x, 0, none⟩)] w fun e w' => e = .returned (.int .i64 (slots - (L.length : Int))) ∧ Below w.heap.size w w' := by
  obtain ⟨F, hx, hF, hB⟩ := h
  exact hx.free
theorem XL.kill (h : XL B w x slots started L) (now : Int) : Calls Try.prog 15 #[.pointer (some ⟨x, 0, none⟩), .int .i64 now] w (KillX B x slots started now L w) := by
  obtain ⟨F, hx, hF, hB⟩ := h
  refine (kill_any hx now).mono ?_
  rintro e w' ⟨done, rest, A, c, h1, h2, h3, he, ⟨ho, F', hx', hF', hd⟩, hm⟩
  exact ⟨done, rest, A, c, F', h1, h2, h3, he, ho, hx', fun k hk => (hF' k hk).elim (hF k) (fun h => Nat.le_trans hB h), Nat.le_trans hB hm.size, hd, hm.below (fun k _ h => hF k h) hB⟩
end
/-- A row's cells. -/
theorem row_cell {w : World} {b0 n c : Nat} {A : Option Addr} {done : List Rn} (ho : w.ownsRow b0 41 4 (.slice A n c) n (cellsR done)) {k : Nat} (hk : k < done.length) (hn : n = done.length) : ∃ g, A = some ⟨g, 0, none⟩ ∧ ∀ j, j < 4 → w.cell? ⟨g, k * 4 + j, none⟩ = (goC done[k])[j]? := by
  subst hn
  obtain ⟨g, e, _⟩ := own_cell ho rfl (k * 4) (by omega)
  refine ⟨g, e, fun j hj => ?_⟩
  obtain ⟨g', e', hc⟩ := own_cell ho rfl (k * 4 + j) (by omega)
  rw [e] at e'
  injection e' with e'; injection e' with e'
  rw [e', hc, cellsR_at done k j hk hj]
set_option maxHeartbeats 2000000 in
set_option maxRecDepth 20000 in
theorem xlives (w : World) : Calls Try.prog 9 #[] w fun e w' => e = .returned (.bool true) ∧ Below w.heap.size w w' := by
  have HN := Lib.hid (newX (slots := 1) (by omega) (by omega) w)
  have HA : Hid (∀ V x, XL w.heap.size V x 1 0 [] → Calls Try.prog 10 #[.pointer (some ⟨x, 0, none⟩), .agg #[.string ⟨#[97]⟩, .int .i64 0, .int .i64 0], .int .i64 9, .int .i64 0] V (OpX w.heap.size x 1 1 [rA] (.int .i64 0) V)) :=
    Lib.hid (fun V x h => h.start_ok (k := kA) (u := 9) (now := 0) kA_fit (fun r hr => by cases hr) (by omega) ⟨by omega, by omega⟩ (by simp) (by omega))
  have HB : Hid (∀ V x, XL w.heap.size V x 1 1 [rA] → Calls Try.prog 10 #[.pointer (some ⟨x, 0, none⟩), .agg #[.string ⟨#[98]⟩, .int .i64 0, .int .i64 0], .int .i64 9, .int .i64 0] V (NoPost 2 V)) :=
    Lib.hid (fun V x h => h.start_no (k := kB) (u := 9) (now := 0) kB_fit (.inr (.inr ⟨⟨by omega, fun r hr => by rw [List.mem_singleton] at hr; subst hr; exact kB_kA, by simp⟩, rfl⟩)))
  have HK : Hid (∀ V x, XL w.heap.size V x 1 1 [rA] → Calls Try.prog 15 #[.pointer (some ⟨x, 0, none⟩), .int .i64 9] V fun e w' => ∃ g c, e = .returned (.slice (some ⟨g, 0, none⟩) 1 c) ∧ w'.cell? ⟨g, 0, none⟩ = some (.string ⟨#[97]⟩) ∧ XL w.heap.size w' x 1 1 [] ∧ Below w.heap.size V w') := Lib.hid (fun V x h => by
    refine (h.kill 9).mono ?_
    rintro e w' ⟨done, rest, A, c, F, h1, h2, h3, he, ho, hx, hF, hB, hd, hb⟩
    have hr : rest = [] := by
      cases rest with
      | nil => rfl
      | cons a l =>
        have h4 := h3 a (List.mem_cons_self ..)
        have h5 : a ∈ [rA] := by rw [h1]; exact List.mem_append_right _ (List.mem_cons_self ..)
        rw [List.mem_singleton] at h5
        subst h5
        exact absurd h4 (by show ¬ ((9 : Int) < 9); omega)
    subst hr
    rw [List.append_nil] at h1
    subst h1
    obtain ⟨g, e1, hc⟩ := row_cell (k := 0) ho (by simp) rfl
    exact ⟨g, c, by rw [he, e1]; rfl, hc 0 (by omega), ⟨F, hx, hF, hB⟩, hb⟩)
  have HF : Hid (∀ V x, XL w.heap.size V x 1 1 [] → Calls Try.prog 21 #[.pointer (some ⟨x, 0, none⟩)] V fun e w' => e = .returned (.int .i64 1) ∧ Below V.heap.size V w') := Lib.hid (fun V x h => h.free)
  go_enter Try.func9, Try.ntmps9
  go_wp2_with (first
    | (go_at_call 7; refine Calls.mono (by with_reducible exact HN.out) ?_; rintro e w1 ⟨x, rfl, hx, hb⟩; have HX1 := Lib.hid hx; have HB1 := Lib.hid hb; clear hx hb HN)
    | (go_at_call 10; refine Calls.mono (by with_reducible exact HA.out _ _ HX1.out) ?_; rintro e w2 ⟨rfl, hx, hb⟩; have HX2 := Lib.hid hx; have HB2 := Lib.hid (HB1.out.trans hb); clear hx hb HX1)
    | (go_at_call 10; refine Calls.mono (by with_reducible exact HB.out _ _ HX2.out) ?_; rintro e w3 ⟨rfl, hb⟩; have HX3 := Lib.hid (HX2.out.later hb); have HB3 := Lib.hid (HB2.out.trans (hb.mono HB2.out.size)); clear hb)
    | (go_at_call 15; refine Calls.mono (by with_reducible exact HK.out _ _ HX3.out) ?_; rintro e w4 ⟨g, c, rfl, hc, hx, hb⟩; have HX4 := Lib.hid hx; have HB4 := Lib.hid (HB3.out.trans hb); clear hx hb)
    | (go_at_call 21; refine Calls.mono (by with_reducible exact HF.out _ _ HX4.out) ?_; rintro e w5 ⟨rfl, hb⟩; have HB5 := Lib.hid (HB4.out.trans (hb.mono HB4.out.size)); clear hb))
  go_ret
  exact ⟨rfl, HB5.out⟩
set_option maxHeartbeats 4000000 in
set_option maxRecDepth 20000 in
theorem law_nobody (kd : Int) (k : Ky) (u now : Int) (w : World) : Calls Try.prog 5 #[.agg #[.int .i64 kd, .string k.job, .int .i64 k.occ, .int .i64 k.host, .int .i64 u, .int .i64 now]] w fun e w' => e = .returned (.bool true) ∧ Below w.heap.size w w' := by
  obtain ⟨j, o, g⟩ := k
  have HLi := Lib.hid (fun V => xlives V)
  have HG := Lib.hid (fun V => get_nil ⟨j, o, g⟩ V)
  have HN := Lib.hid (fun V => next_nil2 V)
  have HS := Lib.hid (fun V => start_nil ⟨j, o, g⟩ u now V)
  have HF := Lib.hid (fun V => finish_nil ⟨j, o, g⟩ V)
  have HK := Lib.hid (fun V => kill_nil now V)
  have HA := Lib.hid (fun V => xall_nil V)
  have HR := Lib.hid (fun V => free_nil V)
  have HX : Hid (∀ V, Below (w.alloc (.cells #[.int .i64 kd, .string j, .int .i64 o, .int .i64 g, .int .i64 u, .int .i64 now] 34)).heap.size (w.alloc (.cells #[.int .i64 kd, .string j, .int .i64 o, .int .i64 g, .int .i64 u, .int .i64 now] 34)) V → V.heap[w.heap.size]? = some (.cells #[.int .i64 kd, .string j, .int .i64 o, .int .i64 g, .int .i64 u, .int .i64 now] 34 (0, 0)) ∧ w.heap.size + 1 ≤ V.heap.size ∧ Below w.heap.size w V) := Lib.hid (fun V hV =>
    ⟨(hV.block _ (by simp)).trans (heap_new w _), by have := hV.size; simpa using this, (below_alloc w _).trans (hV.mono (by simp))⟩)
  have hE : ∀ V, (binOp .eql 41 (.agg #[.string ⟨#[]⟩, .int .i64 0, .int .i64 0, .int .i64 0]) (.agg #[.string ⟨#[]⟩, .int .i64 0, .int .i64 0, .int .i64 0])).run Try.prog V = .ok (.bool true) V := fun V => by kernel_rfl
  obtain ⟨W0, hW0⟩ : ∃ W0, W0 = w.alloc (.cells #[.int .i64 kd, .string j, .int .i64 o, .int .i64 g, .int .i64 u, .int .i64 now] 34) := ⟨_, rfl⟩
  rw [← hW0] at HX
  have HW0 := Lib.hid hW0
  clear hW0
  go_enter Try.func5, Try.ntmps5
  go_wp2_with (first
    | (go_at_call 17; rw [← HW0.out]; refine Calls.mono (by with_reducible exact HG.out _) ?_; rintro e w1 ⟨rfl, hb⟩; have HB1 := Lib.hid (hb.alloc hb.size (.cells #[.string ⟨#[]⟩, .int .i64 0, .int .i64 0, .int .i64 0] 41)); clear hb)
    | (go_at_call 19; refine Calls.mono (by with_reducible exact HN.out _) ?_; rintro e w2 ⟨rfl, rfl⟩)
    | (go_at_call 9; refine Calls.mono (by with_reducible exact HLi.out _) ?_; rintro e w3 ⟨rfl, hb⟩; have HB3 := Lib.hid (HB1.out.trans (hb.mono HB1.out.size)); obtain ⟨y0, z0⟩ := cells_of_heap (HX.out _ HB3.out).1; have c1 := y0 1; have c2 := y0 2; have c3 := y0 3; have c4 := y0 4; have c5 := y0 5; obtain ⟨y1, z1⟩ := cells_of_heap ((hb.block _ (by simp)).trans (heap_new w1 (.cells #[.string ⟨#[]⟩, .int .i64 0, .int .i64 0, .int .i64 0] 41))); have d0 := y1 0; have d1 := y1 1; have d2 := y1 2; have d3 := y1 3; clear y0 z0 y1 z1 hb)
    | (go_at_call 10; refine Calls.mono (by with_reducible exact HS.out _) ?_; rintro e w4 ⟨rfl, hb⟩; have HB4 := Lib.hid (HB3.out.trans (hb.mono HB3.out.size)); clear c1 c2 c3 c4 c5 d0 d1 d2 d3 hb; obtain ⟨y0, z0⟩ := cells_of_heap (HX.out _ HB4.out).1; have c1 := y0 1; have c2 := y0 2; have c3 := y0 3; have c5 := y0 5; clear y0 z0)
    | (go_at_call 12; refine Calls.mono (by with_reducible exact HF.out _) ?_; rintro e w5 ⟨rfl, hb⟩; have HB5 := Lib.hid (HB4.out.trans (hb.mono HB4.out.size)); clear c1 c2 c3 c5 hb; obtain ⟨y0, z0⟩ := cells_of_heap (HX.out _ HB5.out).1; have c5 := y0 5; clear y0 z0)
    | (go_at_call 15; refine Calls.mono (by with_reducible exact HK.out _) ?_; rintro e w6 ⟨rfl, rfl⟩)
    | (go_at_call 20; refine Calls.mono (by with_reducible exact HA.out _) ?_; rintro e w7 ⟨rfl, hb⟩; have HB7 := Lib.hid (HB5.out.trans (hb.mono HB5.out.size)); clear hb)
    | (go_at_call 21; refine Calls.mono (by with_reducible exact HR.out _) ?_; rintro e w8 ⟨rfl, rfl⟩))
  go_ret
  exact ⟨rfl, (HX.out _ HB7.out).2.2⟩
end Go.Proofs.Ytkdfkhebjhnbmaa
