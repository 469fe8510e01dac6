/- Package exec: the reference; the laws' same. -/
import Derived.Test.YtkdfkhebjhnbmaaExeI
import Derived.Test.YtkdfkhebjhnbmaaQuietW
import Derived.Lib.Bytes
import Derived.Deep.MidRow
set_option linter.unusedSimpArgs false
set_option linter.unusedVariables false
namespace Go.Proofs.Ytkdfkhebjhnbmaa
open Go.ChangeShapes Go.WideShapes Go.ChangeAt Go.RowKit Go.Base Go.Que Go.Exe

set_option maxRecDepth 20000 in
theorem going_neq (j : ByteArray) (o g u : Int) (V : World) : (binOp .neq 41 (.agg #[.string j, .int .i64 o, .int .i64 g, .int .i64 u]) (.agg #[.string j, .int .i64 o, .int .i64 g, .int .i64 u])).run Try.prog V = .ok (.bool false) V := by
  simp [go_sem]
set_option maxRecDepth 20000 in
theorem key_eql_yes (j : ByteArray) (o g : Int) (V : World) : (binOp .eql 32 (.agg #[.string j, .int .i64 o, .int .i64 g]) (.agg #[.string j, .int .i64 o, .int .i64 g])).run Try.prog V = .ok (.bool true) V := by
  simp [go_sem]
set_option maxRecDepth 20000 in
theorem key_eql_no {a b : Ky} (h : a ≠ b) (V : World) : (binOp .eql 32 (.agg #[.string a.job, .int .i64 a.occ, .int .i64 a.host]) (.agg #[.string b.job, .int .i64 b.occ, .int .i64 b.host])).run Try.prog V = .ok (.bool false) V := by
  simp [go_sem]
  by_cases h1 : a.job.toList = b.job.toList
  · by_cases h2 : a.occ = b.occ
    · by_cases h3 : a.host = b.host
      · refine absurd ?_ h
        obtain ⟨j, o, g⟩ := a
        obtain ⟨j2, o2, g2⟩ := b
        simp only at h1 h2 h3
        rw [Lib.toList_data, Lib.toList_data] at h1
        rw [bytes_inj h1, h2, h3]
      · simp [h1, h2, h3]
    · simp [h1, h2]
  · simp [h1]
/-- A slice of runs, read. -/
def Rd (w : World) (A : Option Addr) (l : List Rn) : Prop := ∀ k (h : k < l.length), ∃ g, A = some ⟨g, 0, none⟩ ∧ ∀ j, j < 4 → w.cell? ⟨g, k * 4 + j, none⟩ = (goC l[k])[j]?
theorem Rd.later {w w' : World} {A : Option Addr} {l : List Rn} (h : Rd w A l) (hb : Below w.heap.size w w') : Rd w' A l := fun k hk => by
  obtain ⟨g, e, hc⟩ := h k hk
  refine ⟨g, e, fun j hj => ?_⟩
  have h1 := hc j hj
  have hs : j < (goC l[k]).length := hj
  rw [List.getElem?_eq_getElem hs] at h1 ⊢
  exact cell_later hb h1
theorem rd_of {w : World} {b n c : Nat} {A : Option Addr} {l : List Rn} (ho : w.ownsRow b 41 4 (.slice A n c) n (cellsR l)) (hn : n = l.length) : Rd w A l := fun k hk => by
  subst hn
  obtain ⟨g, e, _⟩ := own_cell ho rfl (k * 4) (by omega)
  refine ⟨g, e, fun j hj => ?_⟩
  obtain ⟨g', e', hc⟩ := own_cell ho rfl (k * 4 + j) (by omega)
  rw [e] at e'
  injection e' with e'; injection e' with e'
  rw [e', hc, cellsR_at l k j hk hj]
theorem Rd.pre {w : World} {A : Option Addr} {l m : List Rn} (h : Rd w A (l ++ m)) : Rd w A l := fun k hk => by
  obtain ⟨g, e, hc⟩ := h k (by rw [List.length_append]; omega)
  refine ⟨g, e, fun j hj => ?_⟩
  rw [hc j hj, List.getElem_append_left hk]
/-- Runs that read alike. -/
def Alike (l m : List Rn) : Prop := l.map (fun r => (r.key, r.until_)) = m.map (fun r => (r.key, r.until_))
theorem Alike.at_ {l m : List Rn} (h : Alike l m) {k : Nat} (hl : k < l.length) (hm : k < m.length) : goC l[k] = goC m[k] := by
  have h1 : (l.map (fun r => (r.key, r.until_)))[k]? = (m.map (fun r => (r.key, r.until_)))[k]? := by rw [show l.map _ = m.map _ from h]
  rw [List.getElem?_map, List.getElem?_map, List.getElem?_eq_getElem hl, List.getElem?_eq_getElem hm] at h1
  simp only [Option.map_some, Option.some.injEq, Prod.mk.injEq] at h1
  unfold goC
  rw [h1.1, h1.2]
theorem Alike.len {l m : List Rn} (h : Alike l m) : l.length = m.length := by
  have := congrArg List.length h
  simpa using this
set_option maxHeartbeats 2000000 in
set_option maxRecDepth 20000 in
theorem same_yes {A1 A2 : Option Addr} {n c1 c2 : Nat} {l m : List Rn} {w : World} (h1 : Rd w A1 l) (h2 : Rd w A2 m) (he : Alike l m) (hn : n = l.length) (hN : n ≤ 65536) :
    Calls Try.prog 14 #[.slice A1 n c1, .slice A2 n c2] w fun e w' => e = .returned (.bool true) ∧ Below w.heap.size w w' := by
  have H1 := Lib.hid h1
  have H2 := Lib.hid h2
  have HE := Lib.hid he
  have HN := Lib.hid hn
  have hq := going_neq
  clear h1 h2 he hn
  go_enter Try.func14, Try.ntmps14
  go_wp2_with fail
  go_loopw [5] (fun iv wr => ∃ i : Nat, i ≤ n ∧ iv = .int .i64 (i : Int) ∧ Hid (Below w.heap.size w wr)) (fun iv _ => n - (intOf iv).toNat)
  case atStart => exact ⟨0, by omega, rfl, Lib.hid (Below.refl _ _)⟩
  case round =>
    obtain ⟨i, hi, rfl, HB⟩ := hrel
    have hi0 : (0 : Int) ≤ (i : Int) := by omega
    by_cases hid : i < n
    · have hid' : (i : Int) < (n : Int) := by omega
      have hil : i < l.length := by rw [← HN.out]; exact hid
      have him : i < m.length := by rw [← HE.out.len]; exact hil
      obtain ⟨g1, hA1, hc1⟩ := (H1.out.later HB.out) i hil
      obtain ⟨g2, hA2, hc2⟩ := (H2.out.later HB.out) i him
      rw [← HE.out.at_ hil him] at hc2
      obtain ⟨r, hr⟩ : ∃ r, r = l[i] := ⟨_, rfl⟩
      rw [← hr] at hc1 hc2
      obtain ⟨⟨j, o, g⟩, u, num⟩ := r
      have a0 : wr.cell? ⟨g1, i * 4, none⟩ = some (.string j) := (hc1 0 (by omega)).trans rfl
      have a1 : wr.cell? ⟨g1, i * 4 + 1, none⟩ = some (.int .i64 o) := (hc1 1 (by omega)).trans rfl
      have a2 : wr.cell? ⟨g1, i * 4 + 2, none⟩ = some (.int .i64 g) := (hc1 2 (by omega)).trans rfl
      have a3 : wr.cell? ⟨g1, i * 4 + 3, none⟩ = some (.int .i64 u) := (hc1 3 (by omega)).trans rfl
      have b0 : wr.cell? ⟨g2, i * 4, none⟩ = some (.string j) := (hc2 0 (by omega)).trans rfl
      have b1 : wr.cell? ⟨g2, i * 4 + 1, none⟩ = some (.int .i64 o) := (hc2 1 (by omega)).trans rfl
      have b2 : wr.cell? ⟨g2, i * 4 + 2, none⟩ = some (.int .i64 g) := (hc2 2 (by omega)).trans rfl
      have b3 : wr.cell? ⟨g2, i * 4 + 3, none⟩ = some (.int .i64 u) := (hc2 3 (by omega)).trans rfl
      clear hr hc1 hc2 hil him
      subst hA1
      subst hA2
      go_wp2
      go_quiet (fail)
      go_wp2
      go_roundw
      case rel => exact ⟨i + 1, by omega, by go_num, Lib.hid (below_drewN HB.out _)⟩
      case measure => simp [intOf]; omega
    · have hid' : ¬ (i : Int) < (n : Int) := by omega
      go_wp2
      go_ret
      exact ⟨rfl, HB.out⟩
/-- Block y is the reference's exec of the runs L. -/
def RY (w : World) (y : Nat) (slots : Int) (L : List Rn) : Prop := ∃ A c, w.heap[y]? = some (.cells #[.int .i64 slots, .slice A L.length c] 48 (0, 0)) ∧ w.ownsRow 0 41 4 (.slice A L.length c) L.length (cellsR L)
theorem RY.later {w w' : World} {y : Nat} {slots : Int} {L : List Rn} (h : RY w y slots L) (hb : Below w.heap.size w w') : RY w' y slots L := by
  obtain ⟨A, c, h1, h2⟩ := h
  exact ⟨A, c, (hb.block _ (heap_lt h1)).trans h1, own_moved (p := fun _ => False) h2 (Below.movedNew hb) (fun _ _ h => h)⟩
theorem RY.kept {p : Nat → Prop} {w w' : World} {y : Nat} {slots : Int} {L : List Rn} (h : RY w y slots L) (hm : Moved p w w') (hy : ¬ p y) (hp : ∀ k cs t z, w.heap[k]? = some (.cells cs t z) → t = 41 → ¬ p k) : RY w' y slots L := by
  obtain ⟨A, c, h1, h2⟩ := h
  refine ⟨A, c, hm.heap h1 hy, own_moved h2 hm (fun k hk hpk => ?_)⟩
  rcases h2.2 with ⟨h3, _⟩ | ⟨g, cap, cur, h3, _, hg, _⟩
  · rw [h3] at hk; cases hk
  · rw [h3] at hk
    have e : g = k := Option.some.inj hk
    subst e
    exact hp _ _ _ _ hg rfl hpk
/-- .. whose row lies in blocks of which P holds. -/
def RYP (P : Nat → Prop) (w : World) (y : Nat) (slots : Int) (L : List Rn) : Prop := ∃ A c, w.heap[y]? = some (.cells #[.int .i64 slots, .slice A L.length c] 48 (0, 0)) ∧ w.ownsRow 0 41 4 (.slice A L.length c) L.length (cellsR L) ∧ ∀ k, (Value.slice A L.length c).ownBlock = some k → P k
theorem RYP.ry {P : Nat → Prop} {w : World} {y : Nat} {slots : Int} {L : List Rn} (h : RYP P w y slots L) : RY w y slots L := by
  obtain ⟨A, c, h1, h2, _⟩ := h
  exact ⟨A, c, h1, h2⟩
theorem RYP.weak {P Q : Nat → Prop} {w : World} {y : Nat} {slots : Int} {L : List Rn} (h : RYP P w y slots L) (hq : ∀ k, k < w.heap.size → P k → Q k) : RYP Q w y slots L := by
  obtain ⟨A, c, h1, h2, h3⟩ := h
  exact ⟨A, c, h1, h2, fun k hk => hq k (h2.lt k hk).2 (h3 k hk)⟩
theorem RYP.kept {P p : Nat → Prop} {w w' : World} {y : Nat} {slots : Int} {L : List Rn} (h : RYP P w y slots L) (hm : Moved p w w') (hy : ¬ p y) (hp : ∀ k, P k → ¬ p k) : RYP P w' y slots L := by
  obtain ⟨A, c, h1, h2, h3⟩ := h
  exact ⟨A, c, hm.heap h1 hy, own_moved h2 hm (fun k hk => hp k (h3 k hk)), h3⟩
end Go.Proofs.Ytkdfkhebjhnbmaa
