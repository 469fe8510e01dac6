/- Walk of the law of package pack on what is written: two packers side by side. -/
import Derived.Test.YtnphmejmcnihoaaPakS
set_option linter.unusedSimpArgs false
set_option linter.unusedVariables false
namespace Go.Proofs.Ytnphmejmcnihoaa
open Go.ChangeShapes Go.WideShapes Go.ChangeAt Go.RowKit Go.Base Go.Pk

/-- The packer and the answer's, both made by the call, and a variable of the call's own. -/
def Two (W w : World) (s sx : Option (List UInt8)) : Prop :=
  ∃ row rowx, Pak w W.heap.size s row ∧ RPk w (W.heap.size + 1) sx rowx ∧ Below W.heap.size W w ∧ (∀ k, row = some k → W.heap.size + 2 ≤ k) ∧ (∀ k, rowx = some k → W.heap.size + 2 ≤ k ∧ row ≠ some k)
def Box (w : World) (g : Nat) (cs : Array Value) : Prop := w.heap[g]? = some (.cells cs 32 (0, 0))
theorem Two.later {W w w' : World} {s sx : Option (List UInt8)} (h : Two W w s sx) (hb : Below w.heap.size w w') : Two W w' s sx := by
  obtain ⟨row, rowx, hp, hx, hB, hr, hrx⟩ := h
  exact ⟨row, rowx, hp.later hb, hx.later hb, hB.trans (hb.mono hB.size), hr, hrx⟩
theorem Two.below {W w : World} {s sx : Option (List UInt8)} (h : Two W w s sx) : Below W.heap.size W w := by
  obtain ⟨_, _, _, _, hb, _⟩ := h; exact hb
theorem Pak.notOp {w : World} {B g : Nat} {s : Option (List UInt8)} {row : Option Nat} {cs : Array Value} (h : Pak w B s row) (hg : Box w g cs) : ¬ (g = B ∨ row = some g) := by
  obtain ⟨A, n, cap, hb, rfl, h0, h1⟩ := h
  rintro (e | e)
  · exact block_ne hg hb (by decide) e
  · cases s with
    | none => obtain ⟨rfl, _⟩ := h0 rfl; simp [Value.ownBlock] at e
    | some xs => exact own_ne (h1 xs rfl).2.2 hg (by decide) e
theorem RPk.lt_row {w : World} {X : Nat} {s : Option (List UInt8)} {row : Option Nat} (h : RPk w X s row) : ∀ k, row = some k → k < w.heap.size ∧ k ≠ X := by
  obtain ⟨A, n, c, hb, h0, h1⟩ := h
  intro k hk
  cases s with
  | none => rw [h0 rfl] at hk; cases hk
  | some xs => exact (h1 xs rfl).2.2.2.2 k hk
/-- A call that packs. -/
theorem Two.pcall {W w : World} {s sx s' : Option (List UInt8)} {f g : Nat} {args cs : Array Value} {E : Ending} (h : Two W w s sx) (hg : Box w g cs)
    (hc : ∀ row, Pak w W.heap.size s row → (∀ k, row = some k → W.heap.size + 2 ≤ k) → Calls Try.prog f args w fun e w' => e = E ∧ PakPost w W.heap.size row s' w') :
    Calls Try.prog f args w fun e w' => e = E ∧ Two W w' s' sx ∧ Box w' g cs := by
  obtain ⟨row, rowx, hp, hx, hB, hr, hrx⟩ := h
  refine (hc row hp hr).mono fun e w' ⟨he, row', hp', hm, hr'⟩ => ⟨he, ⟨row', rowx, hp', hx.moved hm ?_ ?_, hB.trans (hm.below ?_ hB.size), ?_, ?_⟩, hm.heap hg (hp.notOp hg)⟩
  · rintro (e | e)
    · omega
    · have := hr _ e; omega
  · intro k hk
    rintro (e | e)
    · have := (hrx k hk).1; omega
    · exact (hrx k hk).2 e
  · intro k _ h
    rcases h with e | e
    · omega
    · have := hr _ e; omega
  · intro k hk
    rcases hr' k hk with e | e
    · exact hr k e
    · have := hx.lt; omega
  · intro k hk
    refine ⟨(hrx k hk).1, fun e => ?_⟩
    rcases hr' k e with e | e
    · exact (hrx k hk).2 e
    · have := (hx.lt_row k hk).1; omega
/-- A call of the answer's packer. -/
theorem Two.xcall {W w : World} {s sx sx' : Option (List UInt8)} {f g : Nat} {args cs : Array Value} {E : Ending} (h : Two W w s sx) (hg : Box w g cs)
    (hc : ∀ row, RPk w (W.heap.size + 1) sx row → Calls Try.prog f args w fun e w' => e = E ∧ RPost w (W.heap.size + 1) row sx' w') :
    Calls Try.prog f args w fun e w' => e = E ∧ Two W w' s sx' ∧ Box w' g cs := by
  obtain ⟨row, rowx, hp, hx, hB, hr, hrx⟩ := h
  have hgx : ¬ g = W.heap.size + 1 := by obtain ⟨A, n, c, hb, _⟩ := hx; exact block_ne hg hb (by decide)
  refine (hc rowx hx).mono fun e w' ⟨he, rowx', hx', hm, hr'⟩ => ⟨he, ⟨row, rowx', hp.moved hm (by omega) (fun k hk e => by have := hr k hk; omega), hx', hB.trans (hm.below (fun k _ e => by omega) hB.size), hr, ?_⟩, hm.heap hg hgx⟩
  intro k hk
  rcases hr' k hk with e | e
  · exact hrx k e
  · refine ⟨by have := hx.lt; omega, fun e' => ?_⟩
    have := (hp.row_lt k e').1; omega

def putW (s : Option (List UInt8)) (x : OpD) : Option (List UInt8) := if x.kind = 1 then putB s (numB (u64N x.n)) else if x.kind = 2 then putB s (numB (whole x.n)) else if x.kind = 3 then putB s (flagB x.is) else if x.kind = 4 then putText s x.text.data.toList else if x.kind = 5 then putList s x.ll else s
def putWs (l : List OpD) : Option (List UInt8) := l.foldl putW (some [])
theorem putWs_succ (l : List OpD) (k : Nat) (hk : k < l.length) : putWs (l.take (k + 1)) = putW (putWs (l.take k)) l[k] := by
  unfold putWs
  rw [List.take_succ_eq_append_getElem hk, List.foldl_append]
  rfl
theorem putInts_none (l : List Int) : putInts none l = none := by
  unfold putInts
  induction l with
  | nil => rfl
  | cons x l ih => exact ih
theorem putInts_stop (s : Option (List UInt8)) (l : List Int) (k : Nat) (h : putInts s (l.take k) = none) : putInts s l = none := by
  have : putInts s l = putInts (putInts s (l.take k)) (l.drop k) := by
    unfold putInts
    rw [← List.foldl_append, List.take_append_drop]
  rw [this, h, putInts_none]
/-- What the answer's packer holds behind the count and k ints. -/
def cntX (s : Option (List UInt8)) (l : List Int) (k : Nat) : Option (List UInt8) := putInts (if 4096 < l.length then none else putB s (numB l.length)) (l.take k)
theorem cntX_succ (s : Option (List UInt8)) (l : List Int) (k : Nat) (hk : k < l.length) : cntX s l (k + 1) = putB (cntX s l k) (numB (whole l[k])) := putInts_succ _ l k hk
theorem cntX_all (s : Option (List UInt8)) (l : List Int) : cntX s l l.length = putList s l := by
  unfold cntX putList
  rw [List.take_length]
  split
  · exact putInts_none l
  · rfl
theorem cntX_stop (s : Option (List UInt8)) (l : List Int) (k : Nat) (h : cntX s l k = none) : putList s l = none := by
  unfold cntX at h
  unfold putList
  split
  · rfl
  · rename_i hl
    rw [if_neg hl] at h
    exact putInts_stop _ l k h
end Go.Proofs.Ytnphmejmcnihoaa
