/- Arguments of types reveillelaw20.Op and []reveillelaw20.Op, opened. -/
import Derived.Test.YtkdfkhebjhnbmaaElts
import Derived.Test.YtkdfkhebjhnbmaaExeJ
set_option linter.unusedSimpArgs false
set_option linter.unusedVariables false
namespace Go.Proofs.Ytkdfkhebjhnbmaa
open Go.ChangeShapes Go.WideShapes Go.ChangeAt Go.RowKit Go.Base Go.Deep Go.Exe

/-- A call. -/
structure Xop where
  kind : Int
  key : Ky
  un : Int
  now : Int
instance : Inhabited Xop := ⟨⟨0, ⟨⟨#[]⟩, 0, 0⟩, 0, 0⟩⟩
def opC (o : Xop) : List Value := [.int .i64 o.kind, .string o.key.job, .int .i64 o.key.occ, .int .i64 o.key.host, .int .i64 o.un, .int .i64 o.now]
def Xop.Ok (o : Xop) : Prop := kyfit o.key ∧ i64 o.un ∧ i64 o.now ∧ i64 o.kind
structure XopT (P : Program) (t tk ti ts : TypeId) : Prop where
  o : ∃ f0 f1 f2 f3 : Field, P.underlying t = some (.struct #[f0, f1, f2, f3]) ∧ (f0.offset = 0 ∧ f1.offset = 1 ∧ f2.offset = 4 ∧ f3.offset = 5) ∧ (f0.type = ti ∧ f1.type = tk ∧ f2.type = ti ∧ f3.type = ti)
  k : ∃ f0 f1 f2 : Field, P.underlying tk = some (.struct #[f0, f1, f2]) ∧ (f0.offset = 0 ∧ f1.offset = 1 ∧ f2.offset = 2) ∧ (f0.type = ts ∧ f1.type = ti ∧ f2.type = ti)
  c6 : P.cellsOf t = 6
  c3 : P.cellsOf tk = 3
  i : P.underlying ti = some (.int .i64)
  s : P.underlying ts = some .string
  ci : P.cellsOf ti = 1
  cs : P.cellsOf ts = 1
section
variable {H : Type} {enc : TypeId × Value → H} {P : Program}
theorem xop_of {t tk ti ts : TypeId} (T : XopT P t tk ti ts) {W : World} {n : Nat} {cs : List Value} {x : DataW H × List MemPlace} (h : DataW.trod enc P W 0 (fun _ => true) true n t cs = some x) : ∃ o : Xop, cs = opC o ∧ o.Ok := by
  obtain ⟨f0, f1, f2, f3, he, ⟨o0, o1, o2, o3⟩, ⟨t0, t1, t2, t3⟩⟩ := T.o
  obtain ⟨v0, v1, v2, hev, ⟨p0, p1, p2⟩, ⟨s0, s1, s2⟩⟩ := T.k
  obtain ⟨ys, n', hn', hy, hlen, hyl, hf⟩ := DataW.trod_struct he h
  rw [T.c6] at hlen
  obtain ⟨u0, u1, u2, u3, u4, u5, rfl⟩ : ∃ u0 u1 u2 u3 u4 u5, cs = [u0, u1, u2, u3, u4, u5] := by
    match cs, hlen with
    | [u0, u1, u2, u3, u4, u5], _ => exact ⟨u0, u1, u2, u3, u4, u5, rfl⟩
  have g0 := hf 0 f0 rfl
  have g1 := hf 1 f1 rfl
  have g2 := hf 2 f2 rfl
  have g3 := hf 3 f3 rfl
  have hys : ∀ j, j < 4 → ∃ y, ys[j]? = some y := fun j hj => ⟨ys[j]'(by rw [hyl]; exact hj), List.getElem?_eq_getElem _⟩
  obtain ⟨y0, hy0⟩ := hys 0 (by omega)
  obtain ⟨y1, hy1⟩ := hys 1 (by omega)
  obtain ⟨y2, hy2⟩ := hys 2 (by omega)
  obtain ⟨y3, hy3⟩ := hys 3 (by omega)
  rw [t0, o0, T.ci, hy0] at g0
  rw [t1, o1, T.c3, hy1] at g1
  rw [t2, o2, T.ci, hy2] at g2
  rw [t3, o3, T.ci, hy3] at g3
  obtain ⟨z0, hz0, _, w0⟩ := DataW.trod_int T.i g0
  obtain ⟨z2, hz2, _, w2⟩ := DataW.trod_int T.i g2
  obtain ⟨z3, hz3, _, w3⟩ := DataW.trod_int T.i g3
  obtain ⟨xs, m', hm', hx, hxl, hxs, hg⟩ := DataW.trod_struct hev g1
  have k0 := hg 0 v0 rfl
  have k1 := hg 1 v1 rfl
  have k2 := hg 2 v2 rfl
  have hxx : ∀ j, j < 3 → ∃ y, xs[j]? = some y := fun j hj => ⟨xs[j]'(by rw [hxs]; exact hj), List.getElem?_eq_getElem _⟩
  obtain ⟨q0, hq0⟩ := hxx 0 (by omega)
  obtain ⟨q1, hq1⟩ := hxx 1 (by omega)
  obtain ⟨q2, hq2⟩ := hxx 2 (by omega)
  rw [s0, p0, T.cs, hq0] at k0
  rw [s1, p1, T.ci, hq1] at k1
  rw [s2, p2, T.ci, hq2] at k2
  obtain ⟨r0, hr0, _, hw0⟩ := DataW.trod_string T.s k0
  obtain ⟨r1, hr1, _, hw1⟩ := DataW.trod_int T.i k1
  obtain ⟨r2, hr2, _, hw2⟩ := DataW.trod_int T.i k2
  simp at hz0 hz2 hz3 hr0 hr1 hr2
  subst hz0; subst hz2; subst hz3; subst hr0; subst hr1; subst hr2
  exact ⟨⟨z0, ⟨r0, r1, r2⟩, z2, z3⟩, by simp [opC], ⟨by simpa using hw0, bounds_i64 hw1, bounds_i64 hw2⟩, bounds_i64 w2, bounds_i64 w3, bounds_i64 w0⟩
theorem open_xop {t tk ti ts : TypeId} (T : XopT P t tk ti ts) {W : World} {b0 : Nat} {v : Value} {d0 : DataW H} {p : List MemPlace}
    (hv : Value.okWide P W .any b0 t v) (h0 : DataW.Trod enc P W 0 (fun _ => true) true t v d0 p) : ∃ o : Xop, v = .agg #[.int .i64 o.kind, .string o.key.job, .int .i64 o.key.occ, .int .i64 o.key.host, .int .i64 o.un, .int .i64 o.now] ∧ o.Ok := by
  obtain ⟨f0, f1, f2, f3, he, _, _⟩ := T.o
  obtain ⟨C, rfl, hsz⟩ := okWide_struct he hv
  obtain ⟨fuel, h⟩ := h0
  obtain ⟨o, ho, hok⟩ := xop_of T h
  refine ⟨o, ?_, hok⟩
  have hcc : (Value.agg C).cells.toList = C.toList := by simp [Value.cells]
  rw [hcc] at ho
  congr 1
  apply Array.ext'
  rw [ho]; rfl
end
theorem xopT : XopT Try.prog 34 32 3 9 where
  o := ⟨_, _, _, _, Try.underlying34, ⟨rfl, rfl, rfl, rfl⟩, ⟨rfl, rfl, rfl, rfl⟩⟩
  k := ⟨_, _, _, Try.underlying32, ⟨rfl, rfl, rfl⟩, ⟨rfl, rfl, rfl⟩⟩
  c6 := by kernel_rfl
  c3 := cells_key
  i := Try.underlying3
  s := Try.underlying9
  ci := cells_int
  cs := cells_str
end Go.Proofs.Ytkdfkhebjhnbmaa
