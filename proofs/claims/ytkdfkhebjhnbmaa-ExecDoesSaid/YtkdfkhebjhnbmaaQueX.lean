/- Package queue: Fork. -/
import Derived.Test.YtkdfkhebjhnbmaaQueV
set_option linter.unusedSimpArgs false
set_option linter.unusedVariables false
namespace Go.Proofs.Ytkdfkhebjhnbmaa
open Go.ChangeShapes Go.WideShapes Go.ChangeAt Go.RowKit Go.Base Go.Que

section
variable {w w' : World} {F G : Nat → Prop} {q c mb n N m : Nat} {A : Option Addr} {D : DataW Unit} {f : Nat → Tm} {turns : Int}
def ForkPost (f : Nat → Tm) (n : Nat) (turns : Int) (w : World) (e : Ending) (w' : World) : Prop := ∃ q', e = .returned (.pointer (some ⟨q', 0, none⟩)) ∧ Que w' (fun k => w.heap.size ≤ k) q' f n turns ∧ Below w.heap.size w w'
/-- What the copies are. -/
def Copies (w : World) (n : Nat) (xs : List Value) (D : DataW Unit) (A' : Option Addr) (c' mbn : Nat) (V : World) : Prop :=
  V.ownsRow w.heap.size 82 3 (.slice A' n c') n xs ∧ V.ownsMap Try.prog 3 (plainElem Try.prog 3) mbn (Maps.size D) D ∧ w.heap.size ≤ mbn ∧ Below w.heap.size w V
theorem Copies.later {xs : List Value} {A' : Option Addr} {c' mbn : Nat} {V V' : World} (h : Copies w n xs D A' c' mbn V) (hb : Below V.heap.size V V') : Copies w n xs D A' c' mbn V' :=
  ⟨own_moved (p := fun _ => False) h.1 (Below.movedNew hb) (fun _ _ h => h), own_map_moved (q := fun _ => False) h.2.1 (Below.movedNew hb) (fun h => h), h.2.2.1, h.2.2.2.trans (hb.mono h.2.2.2.size)⟩
/-- Neither copy lies in a block of another type. -/
theorem Copies.put {xs : List Value} {A' : Option Addr} {c' mbn a : Nat} {V V' : World} (h : Copies w n xs D A' c' mbn V) (hm : Moved (fun k => k = a) V V') {cs : Array Value} {t : TypeId} {z : Nat × Nat} (ha : V.heap[a]? = some (.cells cs t z)) (ht : t ≠ 82) (hw : w.heap.size ≤ a) : Copies w n xs D A' c' mbn V' :=
  ⟨own_moved h.1 hm (fun k hk e => own_ne h.1 ha (fun e => ht e.symm) (by rw [hk, e])), own_map_moved h.2.1 hm (fun e => map_ne h.2.1 ha e.symm), h.2.2.1, h.2.2.2.trans (hm.below (fun k _ e => by omega) h.2.2.2.size)⟩
theorem own_wide2 {xs : List Value} {v : Value} {b b' : Nat} (h : w.ownsRow b 82 3 v n xs) (hb : b' ≤ b) : w.ownsRow b' 82 3 v n xs := by
  refine ⟨h.1, ?_⟩
  rcases h.2 with h0 | ⟨g, cap, cur, h1, h2, h3⟩
  · exact .inl h0
  · exact .inr ⟨g, cap, cur, h1, Nat.le_trans hb h2, h3⟩
end
end Go.Proofs.Ytkdfkhebjhnbmaa
