/- Arguments of types []api.Step, []api.Run, api.Job, opened; the form's reach. No function of the program. -/
import Derived.Test.YtcbnankocjlobaaWavE
import Derived.Deep.Slices
import Derived.Deep.Fields
import Derived.Deep.Strs
import Derived.ChangeSame
import Derived.SizedLaws
set_option linter.unusedSimpArgs false
set_option linter.unusedVariables false
namespace Go.Proofs.Ytcbnankocjlobaa
open Go.ChangeShapes Go.WideShapes Go.ChangeAt Go.RowKit Go.Base Go.Deep

theorem addr_off4 (b o j : Nat) : (⟨b, o, none⟩ : Addr).add j = ⟨b, o + j, none⟩ := by unfold Addr.add; split <;> simp_all
/-- A run. -/
structure Rn where
  job : List UInt8
  occ : Int
  host : Int
  ver : Int
  at_ : Int
  un : Int
  wv : Int
instance : Inhabited Rn := ⟨⟨[], 0, 0, 0, 0, 0, 0⟩⟩
def rnC (r : Rn) : List Value := [.string ⟨r.job.toArray⟩, .int .i64 r.occ, .int .i64 r.host, .int .i64 r.ver, .int .i64 r.at_, .int .i64 r.un, .int .i64 r.wv]
def Rn.Ok (r : Rn) : Prop := r.job.length ≤ maxLen ∧ I64 r.at_ ∧ I64 r.un ∧ I64 r.wv
/-- Elements of m cells, each of which reads as an x. -/
def Elts {α : Type} (m : Nat) (cells : α → List Value) (w : World) (A : Option Addr) (l : List α) : Prop := ∀ (i : Nat) (h : i < l.length), ∃ b o, A = some ⟨b, o, none⟩ ∧ w.rangeAt b (o + i * m) (cells l[i])
section
variable {H : Type} {enc : TypeId × Value → H} {P : Program}
/-- The types' facts of a run, in one. -/
structure RunT (P : Program) (t tk ti ts : TypeId) : Prop where
  r : ∃ f0 f1 f2 f3 f4 : Field, P.underlying t = some (.struct #[f0, f1, f2, f3, f4]) ∧ (f0.offset = 0 ∧ f1.offset = 3 ∧ f2.offset = 4 ∧ f3.offset = 5 ∧ f4.offset = 6) ∧ (f0.type = tk ∧ f1.type = ti ∧ f2.type = ti ∧ f3.type = ti ∧ f4.type = ti)
  k : ∃ f0 f1 f2 : Field, P.underlying tk = some (.struct #[f0, f1, f2]) ∧ (f0.offset = 0 ∧ f1.offset = 1 ∧ f2.offset = 2) ∧ (f0.type = ts ∧ f1.type = ti ∧ f2.type = ti)
  c7 : P.cellsOf t = 7
  c3 : P.cellsOf tk = 3
  i : P.underlying ti = some (.int .i64)
  s : P.underlying ts = some .string
  ci : P.cellsOf ti = 1
  cs : P.cellsOf ts = 1
theorem rn_of {t tk ti ts : TypeId} (T : RunT P t tk ti ts) {W : World} {n : Nat} {cs : List Value} {x : DataW H × List MemPlace} (h : DataW.trod enc P W 0 (fun _ => true) true n t cs = some x) : ∃ r : Rn, cs = rnC r ∧ r.Ok := by
  obtain ⟨f0, f1, f2, f3, f4, he, ⟨o0, o1, o2, o3, o4⟩, ⟨t0, t1, t2, t3, t4⟩⟩ := T.r
  obtain ⟨v0, v1, v2, hev, ⟨p0, p1, p2⟩, ⟨s0, s1, s2⟩⟩ := T.k
  obtain ⟨ys, n', hn', hy, hlen, hyl, hf⟩ := DataW.trod_struct he h
  rw [T.c7] at hlen
  obtain ⟨u0, u1, u2, u3, u4, u5, u6, rfl⟩ : ∃ u0 u1 u2 u3 u4 u5 u6, cs = [u0, u1, u2, u3, u4, u5, u6] := by
    match cs, hlen with
    | [u0, u1, u2, u3, u4, u5, u6], _ => exact ⟨u0, u1, u2, u3, u4, u5, u6, rfl⟩
  have g0 := hf 0 f0 rfl
  have g1 := hf 1 f1 rfl
  have g2 := hf 2 f2 rfl
  have g3 := hf 3 f3 rfl
  have g4 := hf 4 f4 rfl
  have hys : ∀ j, j < 5 → ∃ y, ys[j]? = some y := fun j hj => ⟨ys[j]'(by rw [hyl]; exact hj), List.getElem?_eq_getElem _⟩
  obtain ⟨y0, hy0⟩ := hys 0 (by omega)
  obtain ⟨y1, hy1⟩ := hys 1 (by omega)
  obtain ⟨y2, hy2⟩ := hys 2 (by omega)
  obtain ⟨y3, hy3⟩ := hys 3 (by omega)
  obtain ⟨y4, hy4⟩ := hys 4 (by omega)
  rw [t0, o0, T.c3, hy0] at g0
  rw [t1, o1, T.ci, hy1] at g1
  rw [t2, o2, T.ci, hy2] at g2
  rw [t3, o3, T.ci, hy3] at g3
  rw [t4, o4, T.ci, hy4] at g4
  obtain ⟨z1, hz1, _, _⟩ := DataW.trod_int T.i g1
  obtain ⟨z2, hz2, _, w2⟩ := DataW.trod_int T.i g2
  obtain ⟨z3, hz3, _, w3⟩ := DataW.trod_int T.i g3
  obtain ⟨z4, hz4, _, w4⟩ := DataW.trod_int T.i g4
  obtain ⟨xs, m', hm', hx, hxl, hxs, hg⟩ := DataW.trod_struct hev g0
  have k0 := hg 0 v0 rfl
  have k1 := hg 1 v1 rfl
  have k2 := hg 2 v2 rfl
  have hxx : ∀ j, j < 3 → ∃ y, xs[j]? = some y := fun j hj => ⟨xs[j]'(by rw [hxs]; exact hj), List.getElem?_eq_getElem _⟩
  obtain ⟨q0, hq0⟩ := hxx 0 (by omega)
  obtain ⟨q1, hq1⟩ := hxx 1 (by omega)
  obtain ⟨q2, hq2⟩ := hxx 2 (by omega)
  rw [s0, p0, T.cs, hq0] at k0
  rw [s1, p1, T.ci, hq1] at k1
  rw [s2, p2, T.ci, hq2] at k2
  obtain ⟨r0, hr0, _, hw0⟩ := DataW.trod_string T.s k0
  obtain ⟨r1, hr1, _, _⟩ := DataW.trod_int T.i k1
  obtain ⟨r2, hr2, _, _⟩ := DataW.trod_int T.i k2
  simp at hz1 hz2 hz3 hz4 hr0 hr1 hr2
  subst hz1; subst hz2; subst hz3; subst hz4; subst hr0; subst hr1; subst hr2
  exact ⟨⟨r0.data.toList, r1, r2, z1, z2, z3, z4⟩, by simp [rnC], by simpa using hw0, bounds_i64 w2, bounds_i64 w3, bounds_i64 w4⟩
structure StepT (P : Program) (t tr ti : TypeId) : Prop where
  s : ∃ f0 f1 f2 f3 : Field, P.underlying t = some (.struct #[f0, f1, f2, f3]) ∧ (f0.offset = 0 ∧ f1.offset = 7 ∧ f2.offset = 8 ∧ f3.offset = 9) ∧ (f0.type = tr ∧ f1.type = ti ∧ f2.type = ti ∧ f3.type = ti)
  c10 : P.cellsOf t = 10
def Stp.Ok (s : Stp) : Prop := s.job.length ≤ maxLen ∧ I64 s.at_ ∧ I64 s.un ∧ I64 s.wv ∧ I64 s.st ∧ I64 s.out ∧ I64 s.rs
theorem stp_of {tt t tk ti ts : TypeId} (S : StepT P tt t ti) (T : RunT P t tk ti ts) {W : World} {n : Nat} {cs : List Value} {x : DataW H × List MemPlace} (h : DataW.trod enc P W 0 (fun _ => true) true n tt cs = some x) : ∃ s : Stp, cs = stC s ∧ s.Ok := by
  obtain ⟨f0, f1, f2, f3, he, ⟨o0, o1, o2, o3⟩, ⟨t0, t1, t2, t3⟩⟩ := S.s
  obtain ⟨ys, n', hn', hy, hlen, hyl, hf⟩ := DataW.trod_struct he h
  rw [S.c10] at hlen
  obtain ⟨u0, u1, u2, u3, u4, u5, u6, u7, u8, u9, rfl⟩ : ∃ u0 u1 u2 u3 u4 u5 u6 u7 u8 u9, cs = [u0, u1, u2, u3, u4, u5, u6, u7, u8, u9] := by
    match cs, hlen with
    | [u0, u1, u2, u3, u4, u5, u6, u7, u8, u9], _ => exact ⟨u0, u1, u2, u3, u4, u5, u6, u7, u8, u9, rfl⟩
  have g0 := hf 0 f0 rfl
  have g1 := hf 1 f1 rfl
  have g2 := hf 2 f2 rfl
  have g3 := hf 3 f3 rfl
  have hys : ∀ j, j < 4 → ∃ y, ys[j]? = some y := fun j hj => ⟨ys[j]'(by rw [hyl]; exact hj), List.getElem?_eq_getElem _⟩
  obtain ⟨y0, hy0⟩ := hys 0 (by omega)
  obtain ⟨y1, hy1⟩ := hys 1 (by omega)
  obtain ⟨y2, hy2⟩ := hys 2 (by omega)
  obtain ⟨y3, hy3⟩ := hys 3 (by omega)
  rw [t0, o0, T.c7, hy0] at g0
  rw [t1, o1, T.ci, hy1] at g1
  rw [t2, o2, T.ci, hy2] at g2
  rw [t3, o3, T.ci, hy3] at g3
  obtain ⟨z1, hz1, _, w1⟩ := DataW.trod_int T.i g1
  obtain ⟨z2, hz2, _, w2⟩ := DataW.trod_int T.i g2
  obtain ⟨z3, hz3, _, w3⟩ := DataW.trod_int T.i g3
  obtain ⟨r, hr, k1, k2, k3, k4⟩ := rn_of T g0
  simp [rnC] at hz1 hz2 hz3 hr
  obtain ⟨rfl, rfl, rfl, rfl, rfl, rfl, rfl⟩ := hr
  subst hz1; subst hz2; subst hz3
  exact ⟨⟨r.job, r.occ, r.host, r.ver, r.at_, r.un, r.wv, z1, z2, z3⟩, by simp [stC], k1, k2, k3, k4, bounds_i64 w1, bounds_i64 w2, bounds_i64 w3⟩
/-- AN ARGUMENT THAT IS A SLICE OF SUCH. -/
theorem open_elts {α : Type} [Inhabited α] {m : Nat} {cells : α → List Value} {ok : α → Prop} {tt t : TypeId} (ht : P.underlying tt = some (.slice t)) (hm0 : 0 < m) (hc : P.cellsOf t = m) (hl : ∀ x, (cells x).length = m)
    {W : World} (hof : ∀ {n : Nat} {cs : List Value} {x : DataW H × List MemPlace}, DataW.trod enc P W 0 (fun _ => true) true n t cs = some x → ∃ a : α, cs = cells a ∧ ok a) {b0 : Nat} {v : Value} {d0 : DataW H} {p : List MemPlace}
    (hv : Value.okWide P W .any b0 tt v) (h0 : DataW.Trod enc P W 0 (fun _ => true) true tt v d0 p) :
    ∃ (a : Option Addr) (l : List α) (cap : Nat), v = .slice a l.length cap ∧ Elts m cells W a l ∧ (∀ x ∈ l, ok x) ∧ l.length ≤ maxLen ∧ l.length ≤ cap ∧ cap ≤ maxLen ∧ (a = none → cap = 0) := by
  obtain ⟨a0, len, cap, rfl⟩ := okWide_slice ht hv
  obtain ⟨fuel, hf⟩ := h0
  rcases open_slice ht hf with ⟨hcs, hx⟩ | ⟨a, len', cap', mm, n, D, Pl, hcs, _, hl1, hm, hmm, hx, hcell⟩
  · simp [Value.cells] at hcs
    obtain ⟨rfl, rfl, rfl⟩ := hcs
    exact ⟨none, [], 0, rfl, fun i hi => absurd hi (Nat.not_lt_zero _), (fun x hx => by cases hx), Nat.zero_le _, Nat.le_refl _, Nat.zero_le _, fun _ => rfl⟩
  · simp [Value.cells] at hcs
    obtain ⟨rfl, rfl, rfl⟩ := hcs
    simp only [if_true] at hmm
    have hspot : 0 < len → a.spot = none := fun h0 => by
      obtain ⟨cs', hcc, _⟩ := hcell 0 (by omega)
      rw [hc] at hcc
      obtain ⟨_, hcl, hat⟩ := World.cells?_some hcc
      have h0' := hat 0 hm0
      rw [Nat.zero_mul] at h0'
      match cs', hcl, hm0 with
      | u0 :: _, _, _ => exact World.cell?_spot h0'
      | [], hcl, h => simp at hcl; omega
    have each : ∀ i, i < len → ∃ x : α, (a.spot = none) ∧ W.rangeAt a.block (a.off + i * m) (cells x) ∧ ok x := fun i hil => by
      obtain ⟨cs', hcc, ht'⟩ := hcell i (by omega)
      rw [hc] at hcc
      obtain ⟨r, rfl, hok⟩ := hof ht'
      obtain ⟨_, hcl, hat⟩ := World.cells?_some hcc
      have hsp : a.spot = none := hspot (by omega)
      have hadd : ∀ j, (a.add (i * m)).add j = ⟨a.block, a.off + i * m + j, none⟩ := fun j => by
        obtain ⟨b, o, s⟩ := a
        simp only at hsp
        subst hsp
        rw [addr_off4, addr_off4]
      refine ⟨r, hsp, fun j v hv => ?_, hok⟩
      have hj : j < (cells r).length := (List.getElem?_eq_some_iff.1 hv).1
      have k0 := hat j (by rw [hl] at hj; exact hj)
      rw [hadd] at k0
      rw [k0, ← hv]
      try simp
    obtain ⟨f, hf⟩ := @choose_lt α _ len _ each
    refine ⟨some a, (List.range len).map f, cap, by simp, ?_, ?_, by simp; omega, by simp; omega, hm, fun h => by cases h⟩
    · intro i hil
      have hil' : i < len := by simpa using hil
      obtain ⟨hsp, hk, _⟩ := hf i hil'
      obtain ⟨b, o, s⟩ := a
      simp only at hsp
      subst hsp
      exact ⟨b, o, rfl, by simpa using hk⟩
    · intro x hx
      obtain ⟨i, hi, rfl⟩ := List.mem_map.1 hx
      exact (hf i (List.mem_range.1 hi)).2.2
theorem elts_few {t e : TypeId} {k : Nat} (ht : P.underlying t = some (.slice e)) (hb : P.bytesOf e = k) {W : World} {a : Option Addr} {n : Nat} {cap : Nat} {d0 : DataW H} {p : List MemPlace}
    (h0 : DataW.Trod enc P W 0 (fun _ => true) true t (.slice a n cap) d0 p) {tys : List TypeId} {ds : List (DataW H)} (hz : (DataW.weightsEach P tys ds).all (· ≤ reachBytes) = true) (j : Nat) (hj : tys[j]? = some t) (hd : ds[j]? = some d0) : n * k ≤ 140737488351232 := by
  obtain ⟨fuel, hf⟩ := h0
  rcases open_slice ht hf with ⟨hcs, hx⟩ | ⟨a', len', cap', m, n', D, Pl, hcs, _, hl1, hm, hmm, hx, hcell⟩
  · simp [Value.cells] at hcs
    rw [hcs.2.1]; omega
  · simp [Value.cells] at hcs
    obtain ⟨rfl, rfl, rfl⟩ := hcs
    simp only [if_true] at hmm
    have m5 : (((List.range n).map D).length + ((List.range (m - n)).map fun j => D (n + j)).length) * P.bytesOf e ∈ d0.weights P t := by
      simp only [Prod.mk.injEq] at hx
      rw [hx.1]
      simp only [DataW.weights, ht]
      exact List.mem_cons_self ..
    have h := List.all_eq_true.1 hz _ (DataW.weights_mem_each hj hd _ m5)
    simp only [List.length_map, List.length_range, hb, reachBytes, decide_eq_true_eq] at h
    have : n * k ≤ (n + (m - n)) * k := Nat.mul_le_mul_right _ (by omega)
    omega
structure JobT (P : Program) (t tsp tsel tcl tstr ti tu tb : TypeId) : Prop where
  j : ∃ f0 f1 f2 f3 f4 f5 f6 f7 f8 f9 : Field, P.underlying t = some (.struct #[f0, f1, f2, f3, f4, f5, f6, f7, f8, f9]) ∧ (f0.offset = 0 ∧ f1.offset = 1 ∧ f2.offset = 8 ∧ f3.offset = 9 ∧ f4.offset = 10 ∧ f5.offset = 11 ∧ f6.offset = 12 ∧ f7.offset = 13 ∧ f8.offset = 14 ∧ f9.offset = 15) ∧
    (f0.type = tstr ∧ f1.type = tsp ∧ f2.type = tsel ∧ f3.type = ti ∧ f4.type = ti ∧ f5.type = ti ∧ f6.type = ti ∧ f7.type = ti ∧ f8.type = ti ∧ f9.type = ti)
  s : ∃ f0 f1 f2 f3 f4 f5 f6 : Field, P.underlying tsp = some (.struct #[f0, f1, f2, f3, f4, f5, f6]) ∧ (f0.offset = 0 ∧ f1.offset = 1 ∧ f2.offset = 2 ∧ f3.offset = 3 ∧ f4.offset = 4 ∧ f5.offset = 5 ∧ f6.offset = 6) ∧ (f0.type = tu ∧ f1.type = tu ∧ f2.type = tu ∧ f3.type = tu ∧ f4.type = tu ∧ f5.type = tb ∧ f6.type = tb)
  sel : P.underlying tsel = some (.slice tcl)
  c16 : P.cellsOf t = 16
  c7 : P.cellsOf tsp = 7
  i : P.underlying ti = some (.int .i64)
  u : P.underlying tu = some (.int .u64)
  b : P.underlying tb = some .bool
  str : P.underlying tstr = some .string
  ci : P.cellsOf ti = 1
  cu : P.cellsOf tu = 1
  cb : P.cellsOf tb = 1
  cs : P.cellsOf tstr = 1
  csel : P.cellsOf tsel = 1
theorem open_ja {t tsp tsel tcl tstr ti tu tb : TypeId} (T : JobT P t tsp tsel tcl tstr ti tu tb) {W : World} {b0 : Nat} {v : Value} {d0 : DataW H} {p : List MemPlace}
    (hv : Value.okWide P W .any b0 t v) (h0 : DataW.Trod enc P W 0 (fun _ => true) true t v d0 p) : ∃ C fai par, v = .agg C ∧ JA C fai par := by
  obtain ⟨f0, f1, f2, f3, f4, f5, f6, f7, f8, f9, he, ⟨o0, o1, o2, o3, o4, o5, o6, o7, o8, o9⟩, ⟨t0, t1, t2, t3, t4, t5, t6, t7, t8, t9⟩⟩ := T.j
  obtain ⟨v0, v1, v2, v3, v4, v5, v6, hev, ⟨p0, p1, p2, p3, p4, p5, p6⟩, ⟨s0, s1, s2, s3, s4, s5, s6⟩⟩ := T.s
  obtain ⟨C, rfl, hsz⟩ := okWide_struct he hv
  obtain ⟨fuel, h⟩ := h0
  obtain ⟨ys, n', hn', hy, hlen, hyl, hf⟩ := DataW.trod_struct he h
  rw [T.c16] at hlen
  have hCl : C.toList.length = 16 := by simpa [Value.cells] using hlen
  have hcc : (Value.agg C).cells.toList = C.toList := by simp [Value.cells]
  rw [hcc] at hf
  obtain ⟨u0, u1, u2, u3, u4, u5, u6, u7, u8, u9, ua, ub, uc, ud, ue, uf, hC⟩ : ∃ u0 u1 u2 u3 u4 u5 u6 u7 u8 u9 ua ub uc ud ue uf, C.toList = [u0, u1, u2, u3, u4, u5, u6, u7, u8, u9, ua, ub, uc, ud, ue, uf] := by
    match hq : C.toList, hCl with
    | [u0, u1, u2, u3, u4, u5, u6, u7, u8, u9, ua, ub, uc, ud, ue, uf], _ => exact ⟨u0, u1, u2, u3, u4, u5, u6, u7, u8, u9, ua, ub, uc, ud, ue, uf, rfl⟩
  rw [hC] at hf
  have hys : ∀ j, j < 10 → ∃ y, ys[j]? = some y := fun j hj => ⟨ys[j]'(by rw [hyl]; exact hj), List.getElem?_eq_getElem _⟩
  obtain ⟨y0, hy0⟩ := hys 0 (by omega)
  obtain ⟨y1, hy1⟩ := hys 1 (by omega)
  obtain ⟨y2, hy2⟩ := hys 2 (by omega)
  obtain ⟨y3, hy3⟩ := hys 3 (by omega)
  obtain ⟨y4, hy4⟩ := hys 4 (by omega)
  obtain ⟨y5, hy5⟩ := hys 5 (by omega)
  obtain ⟨y6, hy6⟩ := hys 6 (by omega)
  obtain ⟨y7, hy7⟩ := hys 7 (by omega)
  obtain ⟨y8, hy8⟩ := hys 8 (by omega)
  obtain ⟨y9, hy9⟩ := hys 9 (by omega)
  have g0 := hf 0 f0 rfl
  have g1 := hf 1 f1 rfl
  have g2 := hf 2 f2 rfl
  have g3 := hf 3 f3 rfl
  have g4 := hf 4 f4 rfl
  have g5 := hf 5 f5 rfl
  have g6 := hf 6 f6 rfl
  have g7 := hf 7 f7 rfl
  have g8 := hf 8 f8 rfl
  have g9 := hf 9 f9 rfl
  rw [t0, o0, T.cs, hy0] at g0
  rw [t1, o1, T.c7, hy1] at g1
  rw [t2, o2, T.csel, hy2] at g2
  rw [t3, o3, T.ci, hy3] at g3
  rw [t4, o4, T.ci, hy4] at g4
  rw [t5, o5, T.ci, hy5] at g5
  rw [t6, o6, T.ci, hy6] at g6
  rw [t7, o7, T.ci, hy7] at g7
  rw [t8, o8, T.ci, hy8] at g8
  rw [t9, o9, T.ci, hy9] at g9
  obtain ⟨z0, hz0, _, hw0⟩ := DataW.trod_string T.str g0
  obtain ⟨sa, sl, sc, hz2⟩ : ∃ a n c, u8 = .slice a n c := by
    rcases open_slice (cs := [u8]) T.sel g2 with ⟨hcs, _⟩ | ⟨a, len, cap, m, n, D, Pl, hcs, _⟩
    · injection hcs with hcs; exact ⟨_, _, _, hcs⟩
    · injection hcs with hcs; exact ⟨_, _, _, hcs⟩
  obtain ⟨z3, hz3, _, hw3⟩ := DataW.trod_int T.i g3
  obtain ⟨z4, hz4, _, hw4⟩ := DataW.trod_int T.i g4
  obtain ⟨z5, hz5, _, hw5⟩ := DataW.trod_int T.i g5
  obtain ⟨z6, hz6, _, hw6⟩ := DataW.trod_int T.i g6
  obtain ⟨z7, hz7, _, hw7⟩ := DataW.trod_int T.i g7
  obtain ⟨z8, hz8, _, hw8⟩ := DataW.trod_int T.i g8
  obtain ⟨z9, hz9, _, hw9⟩ := DataW.trod_int T.i g9
  obtain ⟨xs, m', hm', hx, hxl, hxs, hg⟩ := DataW.trod_struct hev g1
  have hxx : ∀ j, j < 7 → ∃ y, xs[j]? = some y := fun j hj => ⟨xs[j]'(by rw [hxs]; exact hj), List.getElem?_eq_getElem _⟩
  obtain ⟨q0, hq0⟩ := hxx 0 (by omega)
  obtain ⟨q1, hq1⟩ := hxx 1 (by omega)
  obtain ⟨q2, hq2⟩ := hxx 2 (by omega)
  obtain ⟨q3, hq3⟩ := hxx 3 (by omega)
  obtain ⟨q4, hq4⟩ := hxx 4 (by omega)
  obtain ⟨q5, hq5⟩ := hxx 5 (by omega)
  obtain ⟨q6, hq6⟩ := hxx 6 (by omega)
  have k0 := hg 0 v0 rfl
  have k1 := hg 1 v1 rfl
  have k2 := hg 2 v2 rfl
  have k3 := hg 3 v3 rfl
  have k4 := hg 4 v4 rfl
  have k5 := hg 5 v5 rfl
  have k6 := hg 6 v6 rfl
  rw [s0, p0, T.cu, hq0] at k0
  rw [s1, p1, T.cu, hq1] at k1
  rw [s2, p2, T.cu, hq2] at k2
  rw [s3, p3, T.cu, hq3] at k3
  rw [s4, p4, T.cu, hq4] at k4
  rw [s5, p5, T.cb, hq5] at k5
  rw [s6, p6, T.cb, hq6] at k6
  obtain ⟨r0, hr0, _, e0⟩ := DataW.trod_int T.u k0
  obtain ⟨r1, hr1, _, e1⟩ := DataW.trod_int T.u k1
  obtain ⟨r2, hr2, _, e2⟩ := DataW.trod_int T.u k2
  obtain ⟨r3, hr3, _, e3⟩ := DataW.trod_int T.u k3
  obtain ⟨r4, hr4, _, e4⟩ := DataW.trod_int T.u k4
  obtain ⟨r5, hr5, _⟩ := DataW.trod_bool T.b k5
  obtain ⟨r6, hr6, _⟩ := DataW.trod_bool T.b k6
  simp at hz0 hz3 hz4 hz5 hz6 hz7 hz8 hz9 hr0 hr1 hr2 hr3 hr4 hr5 hr6
  subst hz0; subst hz2; subst hz3; subst hz4; subst hz5; subst hz6; subst hz7; subst hz8; subst hz9; subst hr0; subst hr1; subst hr2; subst hr3; subst hr4; subst hr5; subst hr6
  refine ⟨C, z5, z6, rfl, by simpa using hCl, ?_, ?_, ?_, bounds_i64 hw5, bounds_i64 hw6⟩
  · rw [← Array.getElem?_toList, hC]; rfl
  · rw [← Array.getElem?_toList, hC]; rfl
  · rw [hC]; rfl
end
end Go.Proofs.Ytcbnankocjlobaa
