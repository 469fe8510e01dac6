/- An argument of type api.Job, opened. -/
import Derived.Test.YtnikhhbnbeljeaaGreatDoorPlnOps
set_option linter.unusedSimpArgs false
set_option linter.unusedVariables false
namespace Go.Proofs.YtnikhhbnbeljeaaGreatDoor.PL
open Go.ChangeShapes Go.WideShapes Go.ChangeAt Go.RowKit Go.Base Go.Deep Go.Lab

section
variable {H : Type} {enc : TypeId × Value → H} {P : Program}
/-- The types' facts of a job, in one. -/
structure JobT (P : Program) (t tsp tsel tcl tstr tlist ti tu tb : TypeId) : Prop where
  j : ∃ f0 f1 f2 f3 f4 f5 f6 f7 f8 f9 : Field, P.underlying t = some (.struct #[f0, f1, f2, f3, f4, f5, f6, f7, f8, f9]) ∧ (f0.offset = 0 ∧ f1.offset = 1 ∧ f2.offset = 8 ∧ f3.offset = 9 ∧ f4.offset = 10 ∧ f5.offset = 11 ∧ f6.offset = 12 ∧ f7.offset = 13 ∧ f8.offset = 14 ∧ f9.offset = 15) ∧
    (f0.type = tstr ∧ f1.type = tsp ∧ f2.type = tsel ∧ f3.type = ti ∧ f4.type = ti ∧ f5.type = ti ∧ f6.type = ti ∧ f7.type = ti ∧ f8.type = ti ∧ f9.type = ti)
  s : ∃ f0 f1 f2 f3 f4 f5 f6 : Field, P.underlying tsp = some (.struct #[f0, f1, f2, f3, f4, f5, f6]) ∧ (f0.offset = 0 ∧ f1.offset = 1 ∧ f2.offset = 2 ∧ f3.offset = 3 ∧ f4.offset = 4 ∧ f5.offset = 5 ∧ f6.offset = 6) ∧ (f0.type = tu ∧ f1.type = tu ∧ f2.type = tu ∧ f3.type = tu ∧ f4.type = tu ∧ f5.type = tb ∧ f6.type = tb)
  c : ∃ f0 f1 f2 : Field, P.underlying tcl = some (.struct #[f0, f1, f2]) ∧ (f0.offset = 0 ∧ f1.offset = 1 ∧ f2.offset = 2) ∧ (f0.type = ti ∧ f1.type = tstr ∧ f2.type = tlist)
  sel : P.underlying tsel = some (.slice tcl)
  list : P.underlying tlist = some (.slice tstr)
  c16 : P.cellsOf t = 16
  c7 : P.cellsOf tsp = 7
  c3 : P.cellsOf tcl = 3
  i : P.underlying ti = some (.int .i64)
  u : P.underlying tu = some (.int .u64)
  b : P.underlying tb = some .bool
  str : P.underlying tstr = some .string
  ci : P.cellsOf ti = 1
  cu : P.cellsOf tu = 1
  cb : P.cellsOf tb = 1
  cs : P.cellsOf tstr = 1
  csel : P.cellsOf tsel = 1
  clist : P.cellsOf tlist = 1
theorem job_of {t tsp tsel tcl tstr tlist ti tu tb : TypeId} (T : JobT P t tsp tsel tcl tstr tlist ti tu tb) {W : World} {n : Nat} {cs : List Value} {x : DataW H × List MemPlace} (h : DataW.trod enc P W 0 (fun _ => true) true n t cs = some x) : ∃ j : Jb, cs = (jobC j).toList ∧ j.Ok W := by
  obtain ⟨f0, f1, f2, f3, f4, f5, f6, f7, f8, f9, he, ⟨o0, o1, o2, o3, o4, o5, o6, o7, o8, o9⟩, ⟨t0, t1, t2, t3, t4, t5, t6, t7, t8, t9⟩⟩ := T.j
  obtain ⟨v0, v1, v2, v3, v4, v5, v6, hev, ⟨p0, p1, p2, p3, p4, p5, p6⟩, ⟨s0, s1, s2, s3, s4, s5, s6⟩⟩ := T.s
  obtain ⟨w0, w1, w2, hcl, hco, hct⟩ := T.c
  obtain ⟨ys, n', hn', hy, hlen, hyl, hf⟩ := DataW.trod_struct he h
  rw [T.c16] at hlen
  obtain ⟨u0, u1, u2, u3, u4, u5, u6, u7, u8, u9, ua, ub, uc, ud, ue, uf, rfl⟩ : ∃ u0 u1 u2 u3 u4 u5 u6 u7 u8 u9 ua ub uc ud ue uf, cs = [u0, u1, u2, u3, u4, u5, u6, u7, u8, u9, ua, ub, uc, ud, ue, uf] := by
    match cs, hlen with
    | [u0, u1, u2, u3, u4, u5, u6, u7, u8, u9, ua, ub, uc, ud, ue, uf], _ => exact ⟨u0, u1, u2, u3, u4, u5, u6, u7, u8, u9, ua, ub, uc, ud, ue, uf, rfl⟩
  have hys : ∀ j, j < 10 → ∃ y, ys[j]? = some y := fun j hj => ⟨ys[j]'(by rw [hyl]; exact hj), List.getElem?_eq_getElem _⟩
  obtain ⟨y0, hy0⟩ := hys 0 (by omega)
  obtain ⟨y1, hy1⟩ := hys 1 (by omega)
  obtain ⟨y2, hy2⟩ := hys 2 (by omega)
  obtain ⟨y3, hy3⟩ := hys 3 (by omega)
  obtain ⟨y4, hy4⟩ := hys 4 (by omega)
  obtain ⟨y5, hy5⟩ := hys 5 (by omega)
  obtain ⟨y6, hy6⟩ := hys 6 (by omega)
  obtain ⟨y7, hy7⟩ := hys 7 (by omega)
  obtain ⟨y8, hy8⟩ := hys 8 (by omega)
  obtain ⟨y9, hy9⟩ := hys 9 (by omega)
  have g0 := hf 0 f0 rfl
  have g1 := hf 1 f1 rfl
  have g2 := hf 2 f2 rfl
  have g3 := hf 3 f3 rfl
  have g4 := hf 4 f4 rfl
  have g5 := hf 5 f5 rfl
  have g6 := hf 6 f6 rfl
  have g7 := hf 7 f7 rfl
  have g8 := hf 8 f8 rfl
  have g9 := hf 9 f9 rfl
  rw [t0, o0, T.cs, hy0] at g0
  rw [t1, o1, T.c7, hy1] at g1
  rw [t2, o2, T.csel, hy2] at g2
  rw [t3, o3, T.ci, hy3] at g3
  rw [t4, o4, T.ci, hy4] at g4
  rw [t5, o5, T.ci, hy5] at g5
  rw [t6, o6, T.ci, hy6] at g6
  rw [t7, o7, T.ci, hy7] at g7
  rw [t8, o8, T.ci, hy8] at g8
  rw [t9, o9, T.ci, hy9] at g9
  obtain ⟨z0, hz0, _, hw0⟩ := DataW.trod_string T.str g0
  obtain ⟨sa, sl, sc, hz2, hcls, hcm, _, _⟩ := open_clauses_in T.sel hcl T.c3 hco hct T.i T.str T.list T.str T.ci T.cs T.clist T.cs (v := u8) g2
  obtain ⟨z3, hz3, _, hw3⟩ := DataW.trod_int T.i g3
  obtain ⟨z4, hz4, _, hw4⟩ := DataW.trod_int T.i g4
  obtain ⟨z5, hz5, _, hw5⟩ := DataW.trod_int T.i g5
  obtain ⟨z6, hz6, _, hw6⟩ := DataW.trod_int T.i g6
  obtain ⟨z7, hz7, _, hw7⟩ := DataW.trod_int T.i g7
  obtain ⟨z8, hz8, _, hw8⟩ := DataW.trod_int T.i g8
  obtain ⟨z9, hz9, _, hw9⟩ := DataW.trod_int T.i g9
  obtain ⟨xs, m', hm', hx, hxl, hxs, hg⟩ := DataW.trod_struct hev g1
  have hxx : ∀ j, j < 7 → ∃ y, xs[j]? = some y := fun j hj => ⟨xs[j]'(by rw [hxs]; exact hj), List.getElem?_eq_getElem _⟩
  obtain ⟨q0, hq0⟩ := hxx 0 (by omega)
  obtain ⟨q1, hq1⟩ := hxx 1 (by omega)
  obtain ⟨q2, hq2⟩ := hxx 2 (by omega)
  obtain ⟨q3, hq3⟩ := hxx 3 (by omega)
  obtain ⟨q4, hq4⟩ := hxx 4 (by omega)
  obtain ⟨q5, hq5⟩ := hxx 5 (by omega)
  obtain ⟨q6, hq6⟩ := hxx 6 (by omega)
  have k0 := hg 0 v0 rfl
  have k1 := hg 1 v1 rfl
  have k2 := hg 2 v2 rfl
  have k3 := hg 3 v3 rfl
  have k4 := hg 4 v4 rfl
  have k5 := hg 5 v5 rfl
  have k6 := hg 6 v6 rfl
  rw [s0, p0, T.cu, hq0] at k0
  rw [s1, p1, T.cu, hq1] at k1
  rw [s2, p2, T.cu, hq2] at k2
  rw [s3, p3, T.cu, hq3] at k3
  rw [s4, p4, T.cu, hq4] at k4
  rw [s5, p5, T.cb, hq5] at k5
  rw [s6, p6, T.cb, hq6] at k6
  obtain ⟨r0, hr0, _, e0⟩ := DataW.trod_int T.u k0
  obtain ⟨r1, hr1, _, e1⟩ := DataW.trod_int T.u k1
  obtain ⟨r2, hr2, _, e2⟩ := DataW.trod_int T.u k2
  obtain ⟨r3, hr3, _, e3⟩ := DataW.trod_int T.u k3
  obtain ⟨r4, hr4, _, e4⟩ := DataW.trod_int T.u k4
  obtain ⟨r5, hr5, _⟩ := DataW.trod_bool T.b k5
  obtain ⟨r6, hr6, _⟩ := DataW.trod_bool T.b k6
  simp at hz0 hz3 hz4 hz5 hz6 hz7 hz8 hz9 hr0 hr1 hr2 hr3 hr4 hr5 hr6
  subst hz0; subst hz2; subst hz3; subst hz4; subst hz5; subst hz6; subst hz7; subst hz8; subst hz9; subst hr0; subst hr1; subst hr2; subst hr3; subst hr4; subst hr5; subst hr6
  refine ⟨⟨z0.data.toList, ⟨r0, r1, r2, r3, r4, r5, r6⟩, sa, sl, sc, z3, z4, z5, z6, z7, z8, z9⟩, by simp [jobC], ?_⟩
  exact { nm := by simpa using hw0
          sp := ⟨bounds_u64 e0, bounds_u64 e1, bounds_u64 e2, bounds_u64 e3, bounds_u64 e4⟩
          cl := fun i hi => by
            obtain ⟨b, o, e, ⟨a1, a2, a3⟩, hfit, _⟩ := hcls i hi
            exact ⟨b, o, e, a1, a2, a3, hfit⟩
          cm := hcm
          jit := bounds_i64 hw3
          wav := bounds_i64 hw4
          fai := bounds_i64 hw5
          par := bounds_i64 hw6
          dea := bounds_i64 hw7
          mis := bounds_i64 hw8
          bnd := bounds_i64 hw9 }
/-- AN ARGUMENT OF TYPE api.Job. -/
theorem open_job {t tsp tsel tcl tstr tlist ti tu tb : TypeId} (T : JobT P t tsp tsel tcl tstr tlist ti tu tb) {W : World} {b0 : Nat} {v : Value} {d0 : DataW H} {p : List MemPlace}
    (hv : Value.okWide P W .any b0 t v) (h0 : DataW.Trod enc P W 0 (fun _ => true) true t v d0 p) : ∃ j : Jb, v = jobV j ∧ j.Ok W := by
  obtain ⟨f0, f1, f2, f3, f4, f5, f6, f7, f8, f9, he, _⟩ := T.j
  obtain ⟨cs, rfl, hsz⟩ := okWide_struct he hv
  obtain ⟨fuel, hf⟩ := h0
  obtain ⟨j, hj, hok⟩ := job_of T hf
  refine ⟨j, ?_, hok⟩
  have : cs.toList = (jobC j).toList := by simpa [Value.cells] using hj
  unfold jobV
  rw [Array.toList_inj.1 this]
end
end Go.Proofs.YtnikhhbnbeljeaaGreatDoor.PL
