/- How the laws' pair begins. -/
import Derived.Test.YtihkjdoajfjnpaaSesV
set_option linter.unusedSimpArgs false
set_option linter.unusedVariables false
namespace Go.Proofs.Ytihkjdoajfjnpaa
open Go.ChangeShapes Go.WideShapes Go.ChangeAt Go.RowKit Go.Base Go.Ses

def pairC (a b : Value) : Array Value := #[a, b, .int .i64 1, .int .i64 1, .slice none 0 0, .slice none 0 0, .slice none 0 0, .slice none 0 0, .slice none 0 0, .slice none 0 0, .int .i64 0, .int .i64 0]
def Beg0 (w wr : World) : Prop := wr.heap[w.heap.size]? = some (.cells (pairC (.pointer none) (.pointer none)) 50 (0, 0)) ∧ Below w.heap.size w wr
def Beg1 (w wr : World) : Prop := ∃ (p0 : Nat) (F0 : Nat → Prop), wr.heap[w.heap.size]? = some (.cells (pairC (.pointer (some ⟨p0, 0, none⟩)) (.pointer none)) 50 (0, 0)) ∧ SE F0 wr p0 (newS 1) ∧ (∀ k, F0 k → w.heap.size < k ∧ k < wr.heap.size) ∧ Below w.heap.size w wr
def Beg2 (w wr : World) : Prop := Bun w.heap.size wr w.heap.size X0 0 ∧ Below w.heap.size w wr
def BegR (w : World) (iv : Value) (wr : World) : Prop := (iv = .int .i64 0 ∧ Hid (Beg0 w wr)) ∨ (iv = .int .i64 1 ∧ Hid (Beg1 w wr)) ∨ (iv = .int .i64 2 ∧ Hid (Beg2 w wr))
def BegPost (w : World) (e : Ending) (w' : World) : Prop := e = .returned (.pointer (some ⟨w.heap.size, 0, none⟩)) ∧ Beg2 w w'
theorem beg_one {w wr w5 : World} {p : Nat} (h : Beg0 w wr) (hs : SE (fun k => wr.heap.size ≤ k) w5 p (newS 1)) (hb : Below wr.heap.size wr w5) : Beg1 w (w5.setCell ⟨w.heap.size, 0, none⟩ (.pointer (some ⟨p, 0, none⟩))) := by
  have h5 := (hb.block _ (heap_lt h.1)).trans h.1
  have hl := heap_lt h.1
  have hm : Moved (fun k => k = w.heap.size) w5 (w5.setCell ⟨w.heap.size, 0, none⟩ (.pointer (some ⟨p, 0, none⟩))) := (Moved.refl (fun k => k = w.heap.size) w5).setCell (.inr rfl) _
  have hk : Ku w5 (w5.setCell ⟨w.heap.size, 0, none⟩ (.pointer (some ⟨p, 0, none⟩))) := hm.ku (fun T hT k cs z e hk => by subst e; rw [h5] at hk; injection hk with hk; injection hk with _ hk _; rcases hT with rfl | rfl <;> revert hk <;> decide)
  refine ⟨p, fun k => wr.heap.size ≤ k ∧ k < w5.heap.size, ?_, hs.tight.kept hm (fun k hk e => by have := hk.1; omega) hk, fun k hk => ⟨by have := hk.1; omega, Nat.lt_of_lt_of_le hk.2 hm.size⟩, (h.2.trans (hb.mono h.2.size)).trans (hm.below (fun k _ e => Nat.le_of_eq e.symm) (Nat.le_trans h.2.size hb.size))⟩
  rw [heap_set h5 0]; rfl
theorem beg_two {w wr w5 : World} {p : Nat} (h : Beg1 w wr) (hs : SE (fun k => wr.heap.size ≤ k) w5 p (newS 1)) (hb : Below wr.heap.size wr w5) : Beg2 w (w5.setCell ⟨w.heap.size, 1, none⟩ (.pointer (some ⟨p, 0, none⟩))) := by
  obtain ⟨p0, F0, hw, hs0, hF0, hbw⟩ := h
  have h5 := (hb.block _ (heap_lt hw)).trans hw
  have hl := heap_lt hw
  have hm : Moved (fun k => k = w.heap.size) w5 (w5.setCell ⟨w.heap.size, 1, none⟩ (.pointer (some ⟨p, 0, none⟩))) := (Moved.refl (fun k => k = w.heap.size) w5).setCell (.inr rfl) _
  have hk : Ku w5 (w5.setCell ⟨w.heap.size, 1, none⟩ (.pointer (some ⟨p, 0, none⟩))) := hm.ku (fun T hT k cs z e hk => by subst e; rw [h5] at hk; injection hk with hk; injection hk with _ hk _; rcases hT with rfl | rfl <;> revert hk <;> decide)
  have hs1 := hs.tight.kept hm (fun k hk e => by have := hk.1; omega) hk
  have hs05 := (hs0.kept (Below.movedNew hb) (fun _ _ h => h) (Below.ku hb)).kept hm (fun k hk e => by have := (hF0 k hk).1; omega) hk
  obtain ⟨w', hw'⟩ : ∃ w', w' = w5.setCell ⟨w.heap.size, 1, none⟩ (.pointer (some ⟨p, 0, none⟩)) := ⟨_, rfl⟩
  have hself : w'.heap[w.heap.size]? = some (.cells (pairC (.pointer (some ⟨p0, 0, none⟩)) (.pointer (some ⟨p, 0, none⟩))) 50 (0, 0)) := by rw [hw', heap_set h5 1]; rfl
  rw [← hw'] at hm hk hs1 hs05 ⊢
  have hsz := hm.size
  have hbs := hb.size
  refine ⟨⟨PairX.to (P := fun i => if i = 0 then p0 else p) (F := fun i k => if i = 0 then F0 k else wr.heap.size ≤ k ∧ k < w5.heap.size) (G := fun k => k = w.heap.size) (Q := fun _ => .slice none 0 0) (S := fun _ => .slice none 0 0) (C := fun _ => .slice none 0 0) ⟨hself, fun i hi => ?_, fun i hi k hk => ?_, fun i hi k hk hk2 => ?_, fun i hi => RowE.nil _ _, fun i hi => RowB.nil _ _, fun i hi => RowB.nil _ _, ⟨rfl, fun i hi k => ⟨fun e => (by cases e), fun e => (by cases e), fun e => (by cases e)⟩⟩, fun k hk => ⟨Nat.le_of_eq hk.symm, by omega, fun i hi e => ?_⟩, fun i hi k e => (by cases e)⟩, inv_new, fun i hi => ⟨Nat.le_refl _, Nat.le_refl _, Nat.le_refl _, by decide⟩⟩, (hbw.trans (hb.mono hbw.size)).trans (hm.below (fun k _ e => Nat.le_of_eq e.symm) (Nat.le_trans hbw.size hb.size))⟩
  · match i, hi with
    | 0, _ => exact hs05
    | 1, _ => exact hs1
  · match i, hi, hk with
    | 0, _, hk => have := hF0 k hk; omega
    | 1, _, hk => have := hk.1; have := hk.2; omega
  · match i, hi, hk, hk2 with
    | 0, _, hk, hk2 => have := (hF0 k hk).2; have : wr.heap.size ≤ k := hk2.1; omega
    | 1, _, hk, hk2 => have := (hF0 k hk2).2; have : wr.heap.size ≤ k := hk.1; omega
  · match i, hi, e with
    | 0, _, e => have := hF0 k e; omega
    | 1, _, e => have : wr.heap.size ≤ k := e.1; omega
set_option maxHeartbeats 4000000 in
set_option maxRecDepth 20000 in
theorem begin_any (w : World) : Calls Try.prog 6 #[] w (BegPost w) := by
  obtain ⟨W1, hW1⟩ : ∃ W1, W1 = w.alloc (.cells (pairC (.pointer none) (.pointer none)) 50) := ⟨_, rfl⟩
  have hb1 : Below w.heap.size w W1 := by rw [hW1]; exact below_alloc _ _
  have HW0 : Hid (Beg0 w W1) := Lib.hid ⟨by rw [hW1]; exact heap_new w _, hb1⟩
  have HW1 : Hid (W1 = w.alloc (.cells #[.pointer none, .pointer none, .int .i64 1, .int .i64 1, .slice none 0 0, .slice none 0 0, .slice none 0 0, .slice none 0 0, .slice none 0 0, .slice none 0 0, .int .i64 0, .int .i64 0] 50)) := Lib.hid hW1
  clear hW1 hb1
  go_enter Try.func6, Try.ntmps6
  go_wp2_with (rw [← HW1.out])
  go_loopw [2] (fun iv wr => BegR w iv wr) (fun iv _ => 2 - (intOf iv).toNat)
  case atStart => exact .inl ⟨rfl, HW0⟩
  case round =>
    rcases hrel with ⟨rfl, H⟩ | ⟨rfl, H⟩ | ⟨rfl, H⟩
    · have hN := Lib.hid (new_any (m := 1) (by omega) wr)
      go_wp2_with (go_at_call 16; refine Calls.mono hN.out ?_; rintro e5 w5 ⟨p2, rfl, hse, hb5⟩; have HB5 := Lib.hid hb5; have HSe := Lib.hid hse; have h5 := (hb5.block _ (heap_lt H.out.1)).trans H.out.1; have j0 : w5.cell? ⟨w.heap.size, 0, none⟩ = some (.pointer none) := (cells_of_heap h5).1 0; have f0 := (cells_of_heap h5).2 0; clear hse hb5 h5)
      go_roundw
      case rel => exact .inr (.inl ⟨rfl, Lib.hid (beg_one H.out HSe.out HB5.out)⟩)
      case measure => simp [intOf]
    · have hN := Lib.hid (new_any (m := 1) (by omega) wr)
      go_wp2_with (go_at_call 16; refine Calls.mono hN.out ?_; rintro e5 w5 ⟨p2, rfl, hse, hb5⟩; have HB5 := Lib.hid hb5; have HSe := Lib.hid hse; have h5 : ∃ p0, w5.heap[w.heap.size]? = some (.cells (pairC (.pointer (some ⟨p0, 0, none⟩)) (.pointer none)) 50 (0, 0)) := (by obtain ⟨p0, F0, hw, _⟩ := H.out; exact ⟨p0, (hb5.block _ (heap_lt hw)).trans hw⟩); obtain ⟨p0, h5⟩ := h5; have j0 : w5.cell? ⟨w.heap.size, 1, none⟩ = some (.pointer none) := (cells_of_heap h5).1 1; have f0 := (cells_of_heap h5).2 1; clear hse hb5 h5)
      go_roundw
      case rel => exact .inr (.inr ⟨rfl, Lib.hid (beg_two H.out HSe.out HB5.out)⟩)
      case measure => simp [intOf]
    · go_wp2
      go_ret
      exact ⟨rfl, H.out⟩
end Go.Proofs.Ytihkjdoajfjnpaa
