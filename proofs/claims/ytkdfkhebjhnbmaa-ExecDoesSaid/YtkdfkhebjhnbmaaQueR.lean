/- Package queue: the laws' own lives. -/
import Derived.Test.YtkdfkhebjhnbmaaQueQ
set_option linter.unusedSimpArgs false
set_option linter.unusedVariables false
namespace Go.Que
def tA : Tm := ⟨9, 1, 1⟩
def tB : Tm := ⟨5, 2, 2⟩
def tC : Tm := ⟨5, 3, 3⟩
def s1 (t : Tm) : Prop := t = tA
def s2 (t : Tm) : Prop := t = tB ∨ t = tA
def s3 (t : Tm) : Prop := t = tC ∨ t = tB ∨ t = tA
def s4 (t : Tm) : Prop := t = tC ∨ t = tA
end Go.Que
namespace Go.Proofs.Ytkdfkhebjhnbmaa
open Go.ChangeShapes Go.WideShapes Go.ChangeAt Go.RowKit Go.Base Go.Que

theorem OpL.same {B q n : Nat} {S S' : Tm → Prop} {turns : Int} {v : Value} {w w' : World} {e : Ending} (h : OpL B q S n turns v w e w') (hs : ∀ t, S t ↔ S' t) : OpL B q S' n turns v w e w' := ⟨h.1, h.2.1.same hs, h.2.2⟩
theorem fit_small {a b c : Int} (h1 : 0 ≤ a ∧ a ≤ 100) (h2 : 0 ≤ b ∧ b ≤ 100) (h3 : 0 ≤ c ∧ c ≤ 100) : tfit ⟨a, b, c⟩ := by
  unfold tfit
  refine ⟨⟨?_, ?_⟩, ⟨?_, ?_⟩, ⟨?_, ?_⟩⟩ <;> simp <;> omega
def allV (a : Nat) : Value := .func (.func 36) #[] #[.pointer (some ⟨a, 0, none⟩)]
theorem all_any (p : Option Addr) (w : World) : Calls Try.prog 29 #[.pointer p] w fun e w' => e = .returned (allV w.heap.size) ∧ w' = w.alloc (.cells #[.pointer p] 57) := by
  go_enter Try.func29, Try.ntmps29
  go_wp2
  go_ret
  exact ⟨rfl, rfl⟩
theorem eql_func (fn : Fn) (x y : Array Value) (w : World) : (binOp .eql 70 (.func fn x y) .nilFunc).run Try.prog w = .ok (.bool false) w := by kernel_rfl
end Go.Proofs.Ytkdfkhebjhnbmaa
