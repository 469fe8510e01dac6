/- An argument of type Spec, by value, opened. No function of the program. -/
import Derived.Test.YtnijneajlmgkjaaDoorCroN
import Derived.Test.YtnijneajlmgkjaaDoorBase
set_option linter.unusedSimpArgs false
set_option linter.unusedVariables false
namespace Go.Proofs.YtnijneajlmgkjaaDoor
open Go.ChangeShapes Go.WideShapes Go.ChangeAt Go.RowKit Go.Base Go.Cro Go.Civ

section
variable {H : Type} {enc : TypeId × Value → H} {P : Program}
theorem open_spec {t ti tb : TypeId} {f0 f1 f2 f3 f4 f5 f6 : Field} (he : P.underlying t = some (.struct #[f0, f1, f2, f3, f4, f5, f6])) (hC : P.cellsOf t = 7)
    (hone : ((List.range #[f0, f1, f2, f3, f4, f5, f6].size).all fun j => match #[f0, f1, f2, f3, f4, f5, f6][j]? with | some f => f.offset == j && P.cellsOf f.type == 1 | none => false) = true)
    (hft : f0.type = ti ∧ f1.type = ti ∧ f2.type = ti ∧ f3.type = ti ∧ f4.type = ti ∧ f5.type = tb ∧ f6.type = tb)
    (hi : P.underlying ti = some (.int .u64)) (hb : P.underlying tb = some .bool)
    {W : World} {b0 : Nat} {v : Value} {d0 : DataW H} {p : List MemPlace}
    (hv : Value.okWide P W .any b0 t v) (h0 : DataW.Trod enc P W 0 (fun _ => true) true t v d0 p) : ∃ s : Sp, v = spV s ∧ SpOk s := by
  obtain ⟨t0, t1, t2, t3, t4, t5, t6⟩ := hft
  obtain ⟨cs, rfl, hlen, hall⟩ := open_agg_any he hone hC hv h0
  obtain ⟨x0, n0, y0, e0, g0⟩ := hall 0 f0 rfl
  obtain ⟨x1, n1, y1, e1, g1⟩ := hall 1 f1 rfl
  obtain ⟨x2, n2, y2, e2, g2⟩ := hall 2 f2 rfl
  obtain ⟨x3, n3, y3, e3, g3⟩ := hall 3 f3 rfl
  obtain ⟨x4, n4, y4, e4, g4⟩ := hall 4 f4 rfl
  obtain ⟨x5, n5, y5, e5, g5⟩ := hall 5 f5 rfl
  obtain ⟨x6, n6, y6, e6, g6⟩ := hall 6 f6 rfl
  rw [t0] at g0
  rw [t1] at g1
  rw [t2] at g2
  rw [t3] at g3
  rw [t4] at g4
  rw [t5] at g5
  rw [t6] at g6
  obtain ⟨z0, hz0, _, hw0⟩ := DataW.trod_int hi g0
  obtain ⟨z1, hz1, _, hw1⟩ := DataW.trod_int hi g1
  obtain ⟨z2, hz2, _, hw2⟩ := DataW.trod_int hi g2
  obtain ⟨z3, hz3, _, hw3⟩ := DataW.trod_int hi g3
  obtain ⟨z4, hz4, _, hw4⟩ := DataW.trod_int hi g4
  obtain ⟨z5, hz5, _⟩ := DataW.trod_bool hb g5
  obtain ⟨z6, hz6, _⟩ := DataW.trod_bool hb g6
  simp at hz0 hz1 hz2 hz3 hz4 hz5 hz6
  subst hz0; subst hz1; subst hz2; subst hz3; subst hz4; subst hz5; subst hz6
  match cs, hlen with
  | [u0, u1, u2, u3, u4, u5, u6], _ =>
    simp at e0 e1 e2 e3 e4 e5 e6
    subst e0; subst e1; subst e2; subst e3; subst e4; subst e5; subst e6
    have ok : ∀ z : Int, (Lit.int IntKind.u64 z).wf = true → U64 z := fun z h => by have := bounds_u64 h; unfold U64; omega
    exact ⟨⟨z0, z1, z2, z3, z4, z5, z6⟩, rfl, ⟨ok _ hw0, ok _ hw1, ok _ hw2, ok _ hw3, ok _ hw4⟩⟩
end
end Go.Proofs.YtnijneajlmgkjaaDoor
