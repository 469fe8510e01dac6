/- Arguments of types []api.Run and api.Job, opened. No function of the program. -/
import Derived.Test.YtnikhhbnbeljeaaGreatDoorPlnN
import Derived.Test.YtnikhhbnbeljeaaGreatDoorPlnA
import Derived.Deep.Slices
import Derived.Deep.Fields
import Derived.Deep.Strs
import Derived.ChangeSame
import Derived.SizedLaws
set_option linter.unusedSimpArgs false
set_option linter.unusedVariables false
namespace Go.Proofs.YtnikhhbnbeljeaaGreatDoor.PL
open Go.ChangeShapes Go.WideShapes Go.ChangeAt Go.RowKit Go.Base Go.Deep Go.Lab

theorem addr_off2 (b o j : Nat) : (⟨b, o, none⟩ : Addr).add j = ⟨b, o + j, none⟩ := by unfold Addr.add; split <;> simp_all
section
variable {H : Type} {enc : TypeId × Value → H} {P : Program}
theorem open_strs_any {t e : TypeId} (ht : P.underlying t = some (.slice e)) (he : P.underlying e = some .string) (hc : P.cellsOf e = 1) {w : World} {n : Nat} {v : Value} {x : DataW H × List MemPlace}
    (h : DataW.trod enc P w 0 (fun _ => true) true n t [v] = some x) : ∃ (a : Option Addr) (l : List Bytes) (cap : Nat), v = .slice a l.length cap ∧ Strs w a l ∧ l.length ≤ maxLen ∧ l.length ≤ cap ∧ cap ≤ maxLen := by
  rcases open_strings ht he hc h with ⟨hcs, hx⟩ | ⟨a, len', cap', zs, hcs, _, hl, hm, hz, hx, hcell, hwz⟩
  · injection hcs with hcs; exact ⟨none, [], 0, hcs, fun i hi => absurd hi (Nat.not_lt_zero _), Nat.zero_le _, Nat.le_refl _, Nat.zero_le _⟩
  · injection hcs with hcs
    subst hcs
    simp only [if_true] at hz
    have hlen : ((zs.take len').map fun s => s.data.toList).length = len' := by simp; omega
    refine ⟨some a, (zs.take len').map fun s => s.data.toList, cap', by rw [hlen], ?_, by rw [hlen]; omega, by rw [hlen]; exact hl, hm⟩
    intro i hi
    rw [hlen] at hi
    have hc0 := hcell i (by omega)
    have hw := hwz zs[i] (List.getElem_mem _)
    obtain ⟨b, o, s⟩ := a
    obtain rfl : s = none := by simpa [Addr.add] using World.cell?_spot (hcell 0 (by omega))
    rw [addr_off2] at hc0
    have e2 : zs.getD i ByteArray.empty = zs[i]'(by omega) := by simp [List.getD, show i < zs.length by omega]
    rw [e2] at hc0
    refine ⟨b, o, rfl, ?_, ?_⟩
    · rw [hc0]; simp
    · simpa using hw

theorem open_clauses_in {t e tl te ti ts : TypeId} {f0 f1 f2 : Field} (ht : P.underlying t = some (.slice e)) (he : P.underlying e = some (.struct #[f0, f1, f2])) (hC : P.cellsOf e = 3)
    (hf0 : f0.offset = 0 ∧ f1.offset = 1 ∧ f2.offset = 2) (hft : f0.type = ti ∧ f1.type = ts ∧ f2.type = tl)
    (hi : P.underlying ti = some (.int .i64)) (hs : P.underlying ts = some .string) (hl : P.underlying tl = some (.slice te)) (hte : P.underlying te = some .string)
    (c0 : P.cellsOf ti = 1) (c1 : P.cellsOf ts = 1) (c2 : P.cellsOf tl = 1) (c3 : P.cellsOf te = 1)
    {W : World} {fuel : Nat} {v : Value} {x0 : DataW H × List MemPlace} (hf : DataW.trod enc P W 0 (fun _ => true) true fuel t [v] = some x0) :
    ∃ (a : Option Addr) (l : List LB.Cl) (cap : Nat), v = .slice a l.length cap ∧ (∀ (i : Nat) (h : i < l.length), ∃ b o, a = some ⟨b, o, none⟩ ∧
        (W.cell? ⟨b, o + i * 3, none⟩ = some (.int .i64 l[i].kind) ∧ W.cell? ⟨b, o + i * 3 + 1, none⟩ = some (LB.strV l[i].key) ∧ W.cell? ⟨b, o + i * 3 + 2, none⟩ = some (.slice l[i].la l[i].vals.length l[i].lc)) ∧ l[i].Fit W ∧
        -9223372036854775808 ≤ l[i].kind ∧ l[i].kind ≤ 9223372036854775807) ∧ l.length ≤ maxLen ∧ l.length ≤ cap ∧ cap ≤ maxLen := by
  obtain ⟨t0, t1, t2⟩ := hft
  obtain ⟨o0, o1, o2⟩ := hf0
  rcases open_slice ht hf with ⟨hcs, hx⟩ | ⟨a, len, cap, m, n, D, Pl, hcs, _, hl1, hm, hmm, hx, hcell⟩
  · injection hcs with hcs; subst hcs
    exact ⟨none, [], 0, rfl, fun i hi => absurd hi (Nat.not_lt_zero _), Nat.zero_le _, Nat.le_refl _, Nat.zero_le _⟩
  · injection hcs with hcs; subst hcs
    simp only [if_true] at hmm
    have hspot : 0 < len → a.spot = none := fun h0 => by
      obtain ⟨cs', hc, _⟩ := hcell 0 (by omega)
      rw [hC] at hc
      obtain ⟨_, hcl, hat⟩ := World.cells?_some hc
      match cs', hcl with
      | u0 :: _, _ => exact World.cell?_spot (hat 0 (by omega))
    have each : ∀ i, i < len → ∃ x : LB.Cl, (a.spot = none) ∧ (W.cell? ⟨a.block, a.off + i * 3, none⟩ = some (.int .i64 x.kind) ∧ W.cell? ⟨a.block, a.off + i * 3 + 1, none⟩ = some (LB.strV x.key) ∧ W.cell? ⟨a.block, a.off + i * 3 + 2, none⟩ = some (.slice x.la x.vals.length x.lc)) ∧ x.Fit W ∧
        -9223372036854775808 ≤ x.kind ∧ x.kind ≤ 9223372036854775807 := fun i hil => by
      obtain ⟨cs', hc, ht'⟩ := hcell i (by omega)
      rw [hC] at hc
      obtain ⟨ys, n', hn', hy, hlen, hyl, hf⟩ := DataW.trod_struct he ht'
      obtain ⟨_, hcl, hat⟩ := World.cells?_some hc
      obtain ⟨u0, u1, u2, rfl⟩ : ∃ u0 u1 u2, cs' = [u0, u1, u2] := by
        match cs', hcl with
        | [u0, u1, u2], _ => exact ⟨u0, u1, u2, rfl⟩
      have g0 := hf 0 f0 rfl
      have g1 := hf 1 f1 rfl
      have g2 := hf 2 f2 rfl
      have hys : ∀ j, j < 3 → ∃ y, ys[j]? = some y := fun j hj => ⟨ys[j]'(by rw [hyl]; exact hj), List.getElem?_eq_getElem _⟩
      obtain ⟨y0, hy0⟩ := hys 0 (by omega)
      obtain ⟨y1, hy1⟩ := hys 1 (by omega)
      obtain ⟨y2, hy2⟩ := hys 2 (by omega)
      rw [t0, o0, c0, hy0] at g0
      rw [t1, o1, c1, hy1] at g1
      rw [t2, o2, c2, hy2] at g2
      obtain ⟨z0, hz0, _, hw0⟩ := DataW.trod_int hi g0
      obtain ⟨z1, hz1, _, hw1⟩ := DataW.trod_string hs g1
      obtain ⟨la, ll, lc, hz2, hL, hlm, hlc, _⟩ := open_strs_any hl hte c3 (v := u2) g2
      simp at hz0 hz1
      subst hz0; subst hz1; subst hz2
      have hsp : a.spot = none := hspot (by omega)
      have hadd : ∀ j, (a.add (i * 3)).add j = ⟨a.block, a.off + i * 3 + j, none⟩ := fun j => by
        obtain ⟨b, o, s⟩ := a
        simp only at hsp
        subst hsp
        rw [addr_off2, addr_off2]
      have k0 := hat 0 (by omega); rw [hadd] at k0
      have k1 := hat 1 (by omega); rw [hadd] at k1
      have k2 := hat 2 (by omega); rw [hadd] at k2
      have b0 := bounds_i64 hw0
      exact ⟨⟨z0, z1.data.toList, la, ll, lc⟩, hsp, ⟨k0, by simpa using k1, k2⟩, ⟨by simpa using hw1, hL, hlm, hlc⟩, b0.1, b0.2⟩
    obtain ⟨f, hf⟩ := @choose_lt LB.Cl ⟨⟨0, [], none, [], 0⟩⟩ len _ each
    refine ⟨some a, (List.range len).map f, cap, by simp, ?_, by simp; omega, by simp; omega, hm⟩
    · intro i hil
      have hil' : i < len := by simpa using hil
      obtain ⟨hsp, hk, hfit⟩ := hf i hil'
      obtain ⟨b, o, s⟩ := a
      simp only at hsp
      subst hsp
      exact ⟨b, o, rfl, by simpa using hk, by simpa using hfit.1, by simpa using hfit.2⟩
/-- The types' facts of a run, in one. -/
structure RunT (P : Program) (t tk ti ts : TypeId) : Prop where
  r : ∃ f0 f1 f2 f3 f4 : Field, P.underlying t = some (.struct #[f0, f1, f2, f3, f4]) ∧ (f0.offset = 0 ∧ f1.offset = 3 ∧ f2.offset = 4 ∧ f3.offset = 5 ∧ f4.offset = 6) ∧ (f0.type = tk ∧ f1.type = ti ∧ f2.type = ti ∧ f3.type = ti ∧ f4.type = ti)
  k : ∃ f0 f1 f2 : Field, P.underlying tk = some (.struct #[f0, f1, f2]) ∧ (f0.offset = 0 ∧ f1.offset = 1 ∧ f2.offset = 2) ∧ (f0.type = ts ∧ f1.type = ti ∧ f2.type = ti)
  c7 : P.cellsOf t = 7
  c3 : P.cellsOf tk = 3
  i : P.underlying ti = some (.int .i64)
  s : P.underlying ts = some .string
  ci : P.cellsOf ti = 1
  cs : P.cellsOf ts = 1
theorem rn_of {t tk ti ts : TypeId} (T : RunT P t tk ti ts) {W : World} {n : Nat} {cs : List Value} {x : DataW H × List MemPlace} (h : DataW.trod enc P W 0 (fun _ => true) true n t cs = some x) : ∃ r : Rn, cs = rnC r := by
  obtain ⟨f0, f1, f2, f3, f4, he, ⟨o0, o1, o2, o3, o4⟩, ⟨t0, t1, t2, t3, t4⟩⟩ := T.r
  obtain ⟨v0, v1, v2, hev, ⟨p0, p1, p2⟩, ⟨s0, s1, s2⟩⟩ := T.k
  obtain ⟨ys, n', hn', hy, hlen, hyl, hf⟩ := DataW.trod_struct he h
  rw [T.c7] at hlen
  obtain ⟨u0, u1, u2, u3, u4, u5, u6, rfl⟩ : ∃ u0 u1 u2 u3 u4 u5 u6, cs = [u0, u1, u2, u3, u4, u5, u6] := by
    match cs, hlen with
    | [u0, u1, u2, u3, u4, u5, u6], _ => exact ⟨u0, u1, u2, u3, u4, u5, u6, rfl⟩
  have g0 := hf 0 f0 rfl
  have g1 := hf 1 f1 rfl
  have g2 := hf 2 f2 rfl
  have g3 := hf 3 f3 rfl
  have g4 := hf 4 f4 rfl
  have hys : ∀ j, j < 5 → ∃ y, ys[j]? = some y := fun j hj => ⟨ys[j]'(by rw [hyl]; exact hj), List.getElem?_eq_getElem _⟩
  obtain ⟨y0, hy0⟩ := hys 0 (by omega)
  obtain ⟨y1, hy1⟩ := hys 1 (by omega)
  obtain ⟨y2, hy2⟩ := hys 2 (by omega)
  obtain ⟨y3, hy3⟩ := hys 3 (by omega)
  obtain ⟨y4, hy4⟩ := hys 4 (by omega)
  rw [t0, o0, T.c3, hy0] at g0
  rw [t1, o1, T.ci, hy1] at g1
  rw [t2, o2, T.ci, hy2] at g2
  rw [t3, o3, T.ci, hy3] at g3
  rw [t4, o4, T.ci, hy4] at g4
  obtain ⟨z1, hz1, _, _⟩ := DataW.trod_int T.i g1
  obtain ⟨z2, hz2, _, _⟩ := DataW.trod_int T.i g2
  obtain ⟨z3, hz3, _, _⟩ := DataW.trod_int T.i g3
  obtain ⟨z4, hz4, _, _⟩ := DataW.trod_int T.i g4
  obtain ⟨xs, m', hm', hx, hxl, hxs, hg⟩ := DataW.trod_struct hev g0
  have k0 := hg 0 v0 rfl
  have k1 := hg 1 v1 rfl
  have k2 := hg 2 v2 rfl
  have hxx : ∀ j, j < 3 → ∃ y, xs[j]? = some y := fun j hj => ⟨xs[j]'(by rw [hxs]; exact hj), List.getElem?_eq_getElem _⟩
  obtain ⟨q0, hq0⟩ := hxx 0 (by omega)
  obtain ⟨q1, hq1⟩ := hxx 1 (by omega)
  obtain ⟨q2, hq2⟩ := hxx 2 (by omega)
  rw [s0, p0, T.cs, hq0] at k0
  rw [s1, p1, T.ci, hq1] at k1
  rw [s2, p2, T.ci, hq2] at k2
  obtain ⟨r0, hr0, _, _⟩ := DataW.trod_string T.s k0
  obtain ⟨r1, hr1, _, _⟩ := DataW.trod_int T.i k1
  obtain ⟨r2, hr2, _, _⟩ := DataW.trod_int T.i k2
  simp at hz1 hz2 hz3 hz4 hr0 hr1 hr2
  subst hz1; subst hz2; subst hz3; subst hz4; subst hr0; subst hr1; subst hr2
  exact ⟨⟨r0.data.toList, r1, r2, z1, z2, z3, z4⟩, by simp [rnC]⟩
/-- AN ARGUMENT OF TYPE []api.Run. -/
theorem open_runs {tt t tk ti ts : TypeId} (ht : P.underlying tt = some (.slice t)) (T : RunT P t tk ti ts) {W : World} {b0 : Nat} {v : Value} {d0 : DataW H} {p : List MemPlace}
    (hv : Value.okWide P W .any b0 tt v) (h0 : DataW.Trod enc P W 0 (fun _ => true) true tt v d0 p) :
    ∃ (a : Option Addr) (l : List Rn) (cap : Nat), v = .slice a l.length cap ∧ Rns W a l ∧ l.length ≤ maxLen := by
  obtain ⟨a0, len, cap, rfl⟩ := okWide_slice ht hv
  obtain ⟨fuel, hf⟩ := h0
  rcases open_slice ht hf with ⟨hcs, hx⟩ | ⟨a, len', cap', m, n, D, Pl, hcs, _, hl1, hm, hmm, hx, hcell⟩
  · simp [Value.cells] at hcs
    obtain ⟨rfl, rfl, rfl⟩ := hcs
    exact ⟨none, [], 0, rfl, fun i hi => absurd hi (Nat.not_lt_zero _), Nat.zero_le _⟩
  · simp [Value.cells] at hcs
    obtain ⟨rfl, rfl, rfl⟩ := hcs
    simp only [if_true] at hmm
    have hspot : 0 < len → a.spot = none := fun h0 => by
      obtain ⟨cs', hc, _⟩ := hcell 0 (by omega)
      rw [T.c7] at hc
      obtain ⟨_, hcl, hat⟩ := World.cells?_some hc
      match cs', hcl with
      | u0 :: _, _ => exact World.cell?_spot (hat 0 (by omega))
    have each : ∀ i, i < len → ∃ x : Rn, (a.spot = none) ∧ W.rangeAt a.block (a.off + i * 7) (rnC x) := fun i hil => by
      obtain ⟨cs', hc, ht'⟩ := hcell i (by omega)
      rw [T.c7] at hc
      obtain ⟨r, rfl⟩ := rn_of T ht'
      obtain ⟨_, hcl, hat⟩ := World.cells?_some hc
      have hsp : a.spot = none := hspot (by omega)
      have hadd : ∀ j, (a.add (i * 7)).add j = ⟨a.block, a.off + i * 7 + j, none⟩ := fun j => by
        obtain ⟨b, o, s⟩ := a
        simp only at hsp
        subst hsp
        rw [addr_off2, addr_off2]
      refine ⟨r, hsp, fun j v hv => ?_⟩
      have hj : j < (rnC r).length := (List.getElem?_eq_some_iff.1 hv).1
      have k0 := hat j (by simpa [rnC] using hj)
      rw [hadd] at k0
      rw [k0, ← hv]
      try simp
    obtain ⟨f, hf⟩ := @choose_lt Rn ⟨default⟩ len _ each
    refine ⟨some a, (List.range len).map f, cap, by simp, ?_, by simp; omega⟩
    intro i hil
    have hil' : i < len := by simpa using hil
    obtain ⟨hsp, hk⟩ := hf i hil'
    obtain ⟨b, o, s⟩ := a
    simp only at hsp
    subst hsp
    exact ⟨b, o, rfl, by simpa using hk⟩
end
end Go.Proofs.YtnikhhbnbeljeaaGreatDoor.PL
