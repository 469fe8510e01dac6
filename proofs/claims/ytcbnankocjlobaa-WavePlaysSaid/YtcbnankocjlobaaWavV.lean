/- WavePlays: what lies in the world. -/
import Derived.Test.YtcbnankocjlobaaWavS
import Derived.Test.YtcbnankocjlobaaWavN
import Derived.Test.YtcbnankocjlobaaInts
set_option linter.unusedSimpArgs false
set_option linter.unusedVariables false
namespace Go.Proofs.Ytcbnankocjlobaa
open Go.ChangeShapes Go.WideShapes Go.ChangeAt Go.RowKit Go.Base Go.Maps

theorem own_set {w : World} {b k g j n c : Nat} {e : TypeId} {xs : List Value} (h : w.ownsRow b e k (.slice (some ⟨g, 0, none⟩) n c) n xs) (v : Value) : (w.setCell ⟨g, j, none⟩ v).ownsRow b e k (.slice (some ⟨g, 0, none⟩) n c) n (xs.set j v) := by
  obtain ⟨hl, h2⟩ := h
  refine ⟨by rw [List.length_set]; exact hl, .inr ?_⟩
  rcases h2 with ⟨h0, _⟩ | ⟨g', cap, cur, h0, hb, hg, hn, hc, hs, hx⟩
  · cases h0
  · injection h0 with h0 _ h3
    injection h0 with h0; injection h0 with h0
    subst h0; subst h3
    exact ⟨g, c, _, rfl, hb, heap_set hg j v, hn, hc, by rw [Array.size_setIfInBounds]; exact hs, by rw [Array.toList_setIfInBounds, List.take_set, hx]⟩
theorem flatS_set : ∀ (L : List Stp) (k : Nat) (hk : k < L.length) (j : Nat) (v : Value) (s : Stp), j < 10 → (stC (L.getD k default)).set j v = stC s → (flatS L).set (k * 10 + j) v = flatS (L.set k s)
  | x :: L, 0, _, j, v, s, hj, h => by
    show (stC x ++ flatS L).set (0 * 10 + j) v = stC s ++ flatS L
    rw [Nat.zero_mul, Nat.zero_add, List.set_append_left _ _ (by rw [stC_size]; exact hj)]
    rw [show (stC x).set j v = stC s from h]
  | x :: L, k + 1, hk, j, v, s, hj, h => by
    show (stC x ++ flatS L).set ((k + 1) * 10 + j) v = stC x ++ flatS (L.set k s)
    rw [List.set_append_right _ _ (by rw [stC_size]; omega), stC_size, show (k + 1) * 10 + j - 10 = k * 10 + j by omega]
    rw [flatS_set L k (by simpa using hk) j v s hj (by simpa using h)]
/-- The steps in a row of the call's own, the job. -/
structure PlW (w0 w : World) (C : Array Value) (Ao : Option Addr) (co : Nat) (L : List Stp) : Prop where
  row : w.ownsRow w0.heap.size 41 10 (.slice Ao L.length co) L.length (flatS L)
  job : w.heap[w0.heap.size]? = some (.cells C 27 (0, 0))
  below : Below w0.heap.size w0 w
theorem PlW.later {w0 w w' : World} {C : Array Value} {Ao : Option Addr} {co : Nat} {L : List Stp} (h : PlW w0 w C Ao co L) (hb : Below w.heap.size w w') : PlW w0 w' C Ao co L :=
  ⟨own_moved (p := fun _ => False) h.row (Below.movedNew hb) (fun _ _ h => h), (hb.block _ (heap_lt h.job)).trans h.job, h.below.trans (hb.mono h.below.size)⟩
theorem PlW.stps {w0 w : World} {C : Array Value} {Ao : Option Addr} {co : Nat} {L : List Stp} (h : PlW w0 w C Ao co L) : Stps w Ao L := stps_own h.row rfl
/-- The cells of a step, that may be written. -/
theorem PlW.at_ {w0 w : World} {C : Array Value} {Ao : Option Addr} {co : Nat} {L : List Stp} (h : PlW w0 w C Ao co L) {k : Nat} (hk : k < L.length) :
    ∃ g, Ao = some ⟨g, 0, none⟩ ∧ w.rangeAt g (k * 10) (stC (L.getD k default)) ∧ (∀ i, w.frozen? ⟨g, i, none⟩ = false) := by
  obtain ⟨b, o, e, hr⟩ := h.stps k hk
  rcases h.row.2 with ⟨h0, hz⟩ | ⟨g, cap, cur, h0, hb, hg, _⟩
  · omega
  · injection h0 with h0
    rw [h0] at e
    injection e with e
    injection e with e1 e2
    subst e1; subst e2
    refine ⟨g, h0, ?_, (cells_of_heap hg).2⟩
    rw [getD_at hk]
    simpa using hr
theorem PlW.set {w0 w : World} {C : Array Value} {g co : Nat} {L : List Stp} (h : PlW w0 w C (some ⟨g, 0, none⟩) co L) {k : Nat} (hk : k < L.length) {j : Nat} (hj : j < 10) {v : Value} {s : Stp} (hs : (stC (L.getD k default)).set j v = stC s) :
    PlW w0 (w.setCell ⟨g, k * 10 + j, none⟩ v) C (some ⟨g, 0, none⟩) co (L.set k s) := by
  have hgl := h.row.lt g rfl
  have hne := own_ne h.row h.job (by decide)
  refine ⟨?_, ?_, below_set h.below hgl.1 v⟩
  · have := own_set (j := k * 10 + j) h.row v
    rw [flatS_set L k hk j v s hj hs] at this
    rw [List.length_set]; exact this
  · rw [Below.heap_setCell _ _ _ _ (show w0.heap.size ≠ g from fun e => hne (by rw [e]; rfl))]; exact h.job
/-- An advice beside them. -/
structure Pl2 (w0 w : World) (C : Array Value) (Ao : Option Addr) (co : Nat) (L : List Stp) (ga : Nat) (As : Option Addr) (cs : Nat) (Ak : Option Addr) (ck : Nat) (a : Adv) : Prop where
  pl : PlW w0 w C Ao co L
  cell : w.heap[ga]? = some (.cells #[.slice As a.start.length cs, .slice Ak a.skip.length ck] 34 (0, 0))
  adv : AdvW w w0.heap.size As cs Ak ck a
theorem Pl2.later {w0 w w' : World} {C : Array Value} {Ao : Option Addr} {co : Nat} {L : List Stp} {ga : Nat} {As : Option Addr} {cs : Nat} {Ak : Option Addr} {ck : Nat} {a : Adv} (h : Pl2 w0 w C Ao co L ga As cs Ak ck a) (hb : Below w.heap.size w w') : Pl2 w0 w' C Ao co L ga As cs Ak ck a :=
  ⟨h.pl.later hb, (hb.block _ (heap_lt h.cell)).trans h.cell, h.adv.later hb⟩
theorem Pl2.set {w0 w : World} {C : Array Value} {g co : Nat} {L : List Stp} {ga : Nat} {As : Option Addr} {cs : Nat} {Ak : Option Addr} {ck : Nat} {a : Adv} (h : Pl2 w0 w C (some ⟨g, 0, none⟩) co L ga As cs Ak ck a) {k : Nat} (hk : k < L.length) {j : Nat} (hj : j < 10) {v : Value} {s : Stp} (hs : (stC (L.getD k default)).set j v = stC s) :
    Pl2 w0 (w.setCell ⟨g, k * 10 + j, none⟩ v) C (some ⟨g, 0, none⟩) co (L.set k s) ga As cs Ak ck a := by
  have hne := own_ne h.pl.row h.cell (by decide)
  have hm : Moved (fun i => i = g) w (w.setCell ⟨g, k * 10 + j, none⟩ v) := (Moved.refl (fun i => i = g) w).setCell (.inr rfl) v
  refine ⟨h.pl.set hk hj hs, ?_, own_moved h.adv.s hm (fun i hi e => ?_), own_moved h.adv.k hm (fun i hi e => ?_)⟩
  · rw [Below.heap_setCell _ _ _ _ (show ga ≠ g from fun e => hne (by rw [e]; rfl))]; exact h.cell
  · subst e
    rcases h.adv.s.2 with ⟨hv, _⟩ | ⟨b, cap, cur, hv, _, hb, _⟩
    · rw [hv] at hi; cases hi
    · rw [hv] at hi; cases hi
      exact own_ne h.pl.row hb (by decide) rfl
  · subst e
    rcases h.adv.k.2 with ⟨hv, _⟩ | ⟨b, cap, cur, hv, _, hb, _⟩
    · rw [hv] at hi; cases hi
    · rw [hv] at hi; cases hi
      exact own_ne h.pl.row hb (by decide) rfl
def mkS (r : Rn) : Stp := ⟨r.job, r.occ, r.host, r.ver, r.at_, r.un, r.wv, 1, 0, 0⟩
def RnIn (r : Rn) : Prop := 0 ≤ r.at_ ∧ r.at_ ≤ 1000 ∧ r.at_ < r.un ∧ r.un ≤ 2000
/-- What is true of the steps all along: their times; not too many are out. -/
structure Along (par : Int) (L : List Stp) (n : Nat) : Prop where
  len : L.length = n
  un : ∀ j, j < n → (L.getD j default).un ≤ 2000
  wv : ∀ j, j < n → I64 (L.getD j default).wv
  few : 0 < par → (cnt (isS 2) L : Int) ≤ par
theorem Along.wvOk {par : Int} {L : List Stp} {n : Nat} (h : Along par L n) : WvOk L := fun s hs => by
  obtain ⟨j, hj, rfl⟩ := List.mem_iff_getElem.1 hs
  have := h.wv j (by rw [← h.len]; exact hj)
  rw [getD_at hj] at this; exact this
theorem along_start (par : Int) (l : List Rn) (h : ∀ j (hj : j < l.length), RnIn l[j]) (hok : ∀ r ∈ l, r.Ok) : Along par (l.map mkS) l.length := by
  have e : ∀ j (hj : j < l.length), (l.map mkS).getD j default = mkS l[j] := fun j hj => by rw [getD_at (by simpa using hj)]; simp
  refine ⟨by simp, fun j hj => by rw [e j hj]; exact (h j hj).2.2.2, fun j hj => by rw [e j hj]; exact (hok _ (List.getElem_mem hj)).2.2.2, fun hp => ?_⟩
  have : cnt (isS 2) (l.map mkS) = 0 := cnt_isS_zero (fun j hj => by rw [e j (by simpa using hj)]; show (1 : Int) ≠ 2; decide)
  omega
end Go.Proofs.Ytcbnankocjlobaa
