/- Which blocks a call may have written: all others lie as they lay. No function of the program. -/
import Derived.Test.YtnijneajlmgkjaaDoorBase
import Derived.Laws.AppendOwn
import Derived.Laws.Rows
set_option linter.unusedSimpArgs false
set_option linter.unusedVariables false
namespace Go.Proofs.YtnijneajlmgkjaaDoor
open Go.ChangeShapes Go.WideShapes Go.ChangeAt Go.RowKit Go.Base

structure Moved (p : Nat → Prop) (w w' : World) : Prop where
  os : w'.os = w.os
  tape : w'.tape = w.tape
  output : w'.output = w.output
  size : w.heap.size ≤ w'.heap.size
  block : ∀ k, k < w.heap.size → ¬ p k → w'.heap[k]? = w.heap[k]?

section
variable {p q : Nat → Prop} {w w1 w2 : World}
theorem Moved.refl (p : Nat → Prop) (w : World) : Moved p w w := ⟨rfl, rfl, rfl, Nat.le_refl _, fun _ _ _ => rfl⟩
theorem Moved.trans (h : Moved p w w1) (h2 : Moved q w1 w2) (hq : ∀ k, k < w.heap.size → q k → p k) : Moved p w w2 :=
  ⟨h2.os.trans h.os, h2.tape.trans h.tape, h2.output.trans h.output, Nat.le_trans h.size h2.size, fun k hk hn =>
    (h2.block k (Nat.lt_of_lt_of_le hk h.size) (fun hqk => hn (hq k hk hqk))).trans (h.block k hk hn)⟩
theorem Moved.weaken (h : Moved p w w1) (hq : ∀ k, k < w.heap.size → p k → q k) : Moved q w w1 :=
  ⟨h.os, h.tape, h.output, h.size, fun k hk hn => h.block k hk (fun hp => hn (hq k hk hp))⟩
theorem Moved.below (h : Moved p w w1) {B : Nat} (hp : ∀ k, k < w.heap.size → p k → B ≤ k) (hB : B ≤ w.heap.size) : Below B w w1 :=
  ⟨h.os, h.tape, h.output, h.size, fun k hk => h.block k (by omega) (fun hpk => by have := hp k (by omega) hpk; omega)⟩
theorem Below.moved {B : Nat} (h : Below B w w1) (hp : ∀ k, k < w.heap.size → B ≤ k → p k) : Moved p w w1 :=
  ⟨h.os, h.tape, h.output, h.size, fun k hk hn => h.block k (Nat.lt_of_not_le fun hB => hn (hp k hk hB))⟩
theorem Below.movedNew (h : Below w.heap.size w w1) : Moved p w w1 := Below.moved h (fun k hk hB => by omega)
theorem Moved.alloc (h : Moved p w w1) (o : Obj) : Moved p w (w1.alloc o) :=
  h.trans (q := fun _ => False) (Below.movedNew (below_alloc w1 o)) (fun _ _ h => h.elim)
theorem Moved.drew (h : Moved p w w1) : Moved p w w1.drew := ⟨h.os, h.tape, h.output, h.size, h.block⟩
theorem Moved.setCell (h : Moved p w w1) {g i : Nat} (hg : w.heap.size ≤ g ∨ p g) (v : Value) : Moved p w (w1.setCell ⟨g, i, none⟩ v) :=
  h.trans (q := fun k => k = g) ⟨rfl, rfl, rfl, by simp, fun k _ hn => Below.heap_setCell w1 _ v k (fun e => hn e)⟩ (fun k hk e => by
    subst e; rcases hg with h | h
    · omega
    · exact h)
theorem Moved.grown (h : Moved p w w1) {row : Option Nat} (hg : w1.grownBy w2 row) (hr : ∀ k, k < w.heap.size → row = some k → p k) : Moved p w w2 :=
  h.trans (q := fun k => row = some k) ⟨hg.os, hg.tape, hg.output, hg.size, fun k hk hn => hg.block k hk (fun e => hn e.symm)⟩ (fun k hk e => hr k hk e)
theorem Moved.heap (h : Moved p w w1) {k : Nat} {x : Obj} (hx : w.heap[k]? = some x) (hn : ¬ p k) : w1.heap[k]? = some x := by
  have hk : k < w.heap.size := by
    rcases Nat.lt_or_ge k w.heap.size with h | h
    · exact h
    · rw [Array.getElem?_eq_none h] at hx; cases hx
  rw [h.block k hk hn]; exact hx
theorem Moved.cell (h : Moved p w w1) {a : Addr} {v : Value} (hx : w.cell? a = some v) (hn : ¬ p a.block) : w1.cell? a = some v := by
  rw [World.cell?_of_block (h.block a.block (World.block_lt_of_cell? w _ hx) hn)]; exact hx
end
theorem heap_lt {w : World} {k : Nat} {x : Obj} (hx : w.heap[k]? = some x) : k < w.heap.size := by
  rcases Nat.lt_or_ge k w.heap.size with h | h
  · exact h
  · rw [Array.getElem?_eq_none h] at hx; cases hx
theorem heap_set {w : World} {g : Nat} {cs : Array Value} {t : TypeId} {z : Nat × Nat} (h : w.heap[g]? = some (.cells cs t z)) (i : Nat) (v : Value) : (w.setCell ⟨g, i, none⟩ v).heap[g]? = some (.cells (cs.setIfInBounds i v) t z) := by
  simp [World.setCell, Array.getElem?_modify, h]
/-- Blocks of different element types differ. -/
theorem block_ne {w : World} {g b : Nat} {cs cs' : Array Value} {t t' : TypeId} {z z' : Nat × Nat} (h : w.heap[g]? = some (.cells cs t z)) (h' : w.heap[b]? = some (.cells cs' t' z')) (hne : t ≠ t') : g ≠ b := by
  rintro rfl
  rw [h] at h'; injection h' with h'; injection h' with _ e; exact hne e
theorem own_ne {w : World} {base n b size : Nat} {e t : TypeId} {v : Value} {xs : List Value} {cs : Array Value} {z : Nat × Nat} (h : w.ownsRow base e size v n xs) (h' : w.heap[b]? = some (.cells cs t z)) (hne : e ≠ t) : v.ownBlock ≠ some b := by
  rcases h.2 with ⟨rfl, _⟩ | ⟨g, cap, cur, rfl, _, hg, _⟩
  · simp [Value.ownBlock]
  · intro e
    have : g = b := by simpa [Value.ownBlock] using e
    exact block_ne hg h' hne this
/-- A row lies as it lay where its block was not written. -/
theorem own_moved {p : Nat → Prop} {w w' : World} {base n size : Nat} {e : TypeId} {v : Value} {xs : List Value} (h : w.ownsRow base e size v n xs) (hm : Moved p w w') (hn : ∀ k, v.ownBlock = some k → ¬ p k) : w'.ownsRow base e size v n xs := by
  refine ⟨h.1, ?_⟩
  rcases h.2 with h0 | ⟨g, cap, cur, rfl, hb, hg, rest⟩
  · exact .inl h0
  · exact .inr ⟨g, cap, cur, rfl, hb, hm.heap hg (hn g rfl), rest⟩
end Go.Proofs.YtnijneajlmgkjaaDoor
