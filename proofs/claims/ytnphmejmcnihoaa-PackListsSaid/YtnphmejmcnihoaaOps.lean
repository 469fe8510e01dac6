/- Arguments of type []Op of package pack's laws, opened: a list of records, and the cells that hold them. No function of the program. -/
import Derived.Test.YtnphmejmcnihoaaOpen
import Derived.Deep.Slices
import Derived.Deep.Fields
import Derived.ChangeSame
set_option linter.unusedSimpArgs false
set_option linter.unusedVariables false
namespace Go.Proofs.Ytnphmejmcnihoaa
open Go.ChangeShapes Go.WideShapes Go.ChangeAt Go.RowKit Go.Base Go.Deep

theorem addr_off (b o j : Nat) : (⟨b, o, none⟩ : Addr).add j = ⟨b, o + j, none⟩ := by unfold Addr.add; split <;> simp_all
/-- The ints of a slice. -/
def Ints (w : World) (a : Option Addr) (l : List Int) : Prop := ∀ (i : Nat) (h : i < l.length), ∃ b o, a = some ⟨b, o, none⟩ ∧ w.cell? ⟨b, o + i, none⟩ = some (.int .i64 l[i]) ∧ -9223372036854775808 ≤ l[i] ∧ l[i] ≤ 9223372036854775807
theorem Ints.later {w w' : World} {a : Option Addr} {l : List Int} (h : Ints w a l) (hb : Below w.heap.size w w') : Ints w' a l := fun i hi => by
  obtain ⟨b, o, e, c, m⟩ := h i hi
  exact ⟨b, o, e, cell_later hb c, m⟩
structure OpD where
  kind : Int
  n : Int
  is : Bool
  text : ByteArray
  la : Option Addr
  ll : List Int
  lc : Nat
def OpD.vals (x : OpD) : List Value := [.int .i64 x.kind, .int .i64 x.n, .bool x.is, .string x.text, .slice x.la x.ll.length x.lc]
structure OpD.Fit (w : World) (x : OpD) : Prop where
  k1 : -9223372036854775808 ≤ x.kind
  k2 : x.kind ≤ 9223372036854775807
  n1 : -9223372036854775808 ≤ x.n
  n2 : x.n ≤ 9223372036854775807
  t : x.text.size ≤ maxLen
  l : Ints w x.la x.ll
  m : x.ll.length ≤ maxLen
def Ops (w : World) (p : Option Addr) (l : List OpD) : Prop := ∀ (i : Nat) (h : i < l.length), ∃ b o, p = some ⟨b, o, none⟩ ∧
  (w.cell? ⟨b, o + i * 5, none⟩ = some (.int .i64 l[i].kind) ∧ w.cell? ⟨b, o + i * 5 + 1, none⟩ = some (.int .i64 l[i].n) ∧ w.cell? ⟨b, o + i * 5 + 2, none⟩ = some (.bool l[i].is) ∧
    w.cell? ⟨b, o + i * 5 + 3, none⟩ = some (.string l[i].text) ∧ w.cell? ⟨b, o + i * 5 + 4, none⟩ = some (.slice l[i].la l[i].ll.length l[i].lc)) ∧ l[i].Fit w
theorem Ops.later {w w' : World} {p : Option Addr} {l : List OpD} (h : Ops w p l) (hb : Below w.heap.size w w') : Ops w' p l := fun i hi => by
  obtain ⟨b, o, e, ⟨c0, c1, c2, c3, c4⟩, f⟩ := h i hi
  exact ⟨b, o, e, ⟨cell_later hb c0, cell_later hb c1, cell_later hb c2, cell_later hb c3, cell_later hb c4⟩, ⟨f.k1, f.k2, f.n1, f.n2, f.t, f.l.later hb, f.m⟩⟩
theorem Ops.at_ {w : World} {b o : Nat} {l : List OpD} (h : Ops w (some ⟨b, o, none⟩) l) {i : Nat} (hi : i < l.length) :
    (w.cell? ⟨b, o + i * 5, none⟩ = some (.int .i64 l[i].kind) ∧ w.cell? ⟨b, o + i * 5 + 1, none⟩ = some (.int .i64 l[i].n) ∧ w.cell? ⟨b, o + i * 5 + 2, none⟩ = some (.bool l[i].is) ∧
    w.cell? ⟨b, o + i * 5 + 3, none⟩ = some (.string l[i].text) ∧ w.cell? ⟨b, o + i * 5 + 4, none⟩ = some (.slice l[i].la l[i].ll.length l[i].lc)) ∧ l[i].Fit w := by
  obtain ⟨b', o', e, h⟩ := h i hi
  injection e with e; injection e with e1 e2 _; subst e1; subst e2
  exact h

section
variable {H : Type} {enc : TypeId × Value → H} {P : Program}
theorem open_ints_any {t e : TypeId} (ht : P.underlying t = some (.slice e)) (he : P.underlying e = some (.int .i64)) (hc : P.cellsOf e = 1) {w : World} {n : Nat} {v : Value} {x : DataW H × List MemPlace}
    (h : DataW.trod enc P w 0 (fun _ => true) true n t [v] = some x) : ∃ (a : Option Addr) (l : List Int) (cap : Nat), v = .slice a l.length cap ∧ Ints w a l ∧ l.length ≤ maxLen := by
  rcases open_ints ht he hc h with ⟨hcs, hx⟩ | ⟨a, len', cap', zs, hcs, _, hl, hm, hz, hx, hcell, hwz⟩
  · injection hcs with hcs; exact ⟨none, [], 0, hcs, fun i hi => absurd hi (Nat.not_lt_zero _), Nat.zero_le _⟩
  · injection hcs with hcs
    subst hcs
    simp only [if_true] at hz
    have hlen : (zs.take len').length = len' := by simp; omega
    refine ⟨some a, zs.take len', cap', by rw [hlen], ?_, by rw [hlen]; omega⟩
    intro i hi
    rw [hlen] at hi
    have hc0 := hcell i (by omega)
    have hw := hwz zs[i] (List.getElem_mem _)
    have hb := bounds_i64 hw
    obtain ⟨b, o, s⟩ := a
    obtain rfl : s = none := by simpa [Addr.add] using World.cell?_spot (hcell 0 (by omega))
    have e1 : (⟨b, o, none⟩ : Addr).add i = ⟨b, o + i, none⟩ := by unfold Addr.add; split <;> simp_all
    rw [e1] at hc0
    have e2 : zs.getD i 0 = zs[i]'(by omega) := by simp [List.getD, show i < zs.length by omega]
    rw [e2] at hc0
    exact ⟨b, o, rfl, by simpa using hc0, by simpa using hb.1, by simpa using hb.2⟩

/-- AN ARGUMENT OF TYPE []Op. -/
theorem open_ops {t e tl te ti tb ts : TypeId} {f0 f1 f2 f3 f4 : Field} (ht : P.underlying t = some (.slice e)) (he : P.underlying e = some (.struct #[f0, f1, f2, f3, f4])) (hC : P.cellsOf e = 5)
    (hf0 : f0.offset = 0 ∧ f1.offset = 1 ∧ f2.offset = 2 ∧ f3.offset = 3 ∧ f4.offset = 4) (hft : f0.type = ti ∧ f1.type = ti ∧ f2.type = tb ∧ f3.type = ts ∧ f4.type = tl)
    (hi : P.underlying ti = some (.int .i64)) (hb : P.underlying tb = some .bool) (hs : P.underlying ts = some .string) (hl : P.underlying tl = some (.slice te)) (hte : P.underlying te = some (.int .i64))
    (c0 : P.cellsOf ti = 1) (c2 : P.cellsOf tb = 1) (c3 : P.cellsOf ts = 1) (c4 : P.cellsOf tl = 1) (c5 : P.cellsOf te = 1)
    {W : World} {b0 : Nat} {v : Value} {d0 : DataW H} {p : List MemPlace}
    (hv : Value.okWide P W .any b0 t v) (h0 : DataW.Trod enc P W 0 (fun _ => true) true t v d0 p) :
    ∃ (a : Option Addr) (l : List OpD) (cap : Nat), v = .slice a l.length cap ∧ Ops W a l ∧ l.length ≤ maxLen := by
  obtain ⟨a0, len, cap, rfl⟩ := okWide_slice ht hv
  obtain ⟨fuel, hf⟩ := h0
  obtain ⟨t0, t1, t2, t3, t4⟩ := hft
  obtain ⟨o0, o1, o2, o3, o4⟩ := hf0
  rcases open_slice ht hf with ⟨hcs, hx⟩ | ⟨a, len', cap', m, n, D, Pl, hcs, _, hl1, hm, hmm, hx, hcell⟩
  · simp [Value.cells] at hcs
    obtain ⟨rfl, rfl, rfl⟩ := hcs
    exact ⟨none, [], 0, rfl, fun i hi => absurd hi (Nat.not_lt_zero _), Nat.zero_le _⟩
  · simp [Value.cells] at hcs
    obtain ⟨rfl, rfl, rfl⟩ := hcs
    simp only [if_true] at hmm
    have hspot : 0 < len → a.spot = none := fun h0 => by
      obtain ⟨cs', hc, _⟩ := hcell 0 (by omega)
      rw [hC] at hc
      obtain ⟨_, hcl, hat⟩ := World.cells?_some hc
      match cs', hcl with
      | u0 :: _, _ => exact World.cell?_spot (hat 0 (by omega))
    have each : ∀ i, i < len → ∃ x : OpD, (a.spot = none) ∧ (W.cell? ⟨a.block, a.off + i * 5, none⟩ = some (.int .i64 x.kind) ∧ W.cell? ⟨a.block, a.off + i * 5 + 1, none⟩ = some (.int .i64 x.n) ∧ W.cell? ⟨a.block, a.off + i * 5 + 2, none⟩ = some (.bool x.is) ∧
        W.cell? ⟨a.block, a.off + i * 5 + 3, none⟩ = some (.string x.text) ∧ W.cell? ⟨a.block, a.off + i * 5 + 4, none⟩ = some (.slice x.la x.ll.length x.lc)) ∧ x.Fit W := fun i hil => by
      obtain ⟨cs', hc, ht'⟩ := hcell i (by omega)
      rw [hC] at hc
      obtain ⟨ys, n', hn', hy, hlen, hyl, hf⟩ := DataW.trod_struct he ht'
      obtain ⟨_, hcl, hat⟩ := World.cells?_some hc
      obtain ⟨u0, u1, u2, u3, u4, rfl⟩ : ∃ u0 u1 u2 u3 u4, cs' = [u0, u1, u2, u3, u4] := by
        match cs', hcl with
        | [u0, u1, u2, u3, u4], _ => exact ⟨u0, u1, u2, u3, u4, rfl⟩
      have g0 := hf 0 f0 rfl
      have g1 := hf 1 f1 rfl
      have g2 := hf 2 f2 rfl
      have g3 := hf 3 f3 rfl
      have g4 := hf 4 f4 rfl
      have hys : ∀ j, j < 5 → ∃ y, ys[j]? = some y := fun j hj => ⟨ys[j]'(by rw [hyl]; exact hj), List.getElem?_eq_getElem _⟩
      obtain ⟨y0, hy0⟩ := hys 0 (by omega)
      obtain ⟨y1, hy1⟩ := hys 1 (by omega)
      obtain ⟨y2, hy2⟩ := hys 2 (by omega)
      obtain ⟨y3, hy3⟩ := hys 3 (by omega)
      obtain ⟨y4, hy4⟩ := hys 4 (by omega)
      rw [t0, o0, c0, hy0] at g0
      rw [t1, o1, c0, hy1] at g1
      rw [t2, o2, c2, hy2] at g2
      rw [t3, o3, c3, hy3] at g3
      rw [t4, o4, c4, hy4] at g4
      obtain ⟨z0, hz0, _, hw0⟩ := DataW.trod_int hi g0
      obtain ⟨z1, hz1, _, hw1⟩ := DataW.trod_int hi g1
      obtain ⟨z2, hz2, _⟩ := DataW.trod_bool hb g2
      obtain ⟨z3, hz3, _, hw3⟩ := DataW.trod_string hs g3
      obtain ⟨la, ll, lc, hz4, hL, hlm⟩ := open_ints_any hl hte c5 (v := u4) g4
      simp at hz0 hz1 hz2 hz3
      subst hz0; subst hz1; subst hz2; subst hz3; subst hz4
      have hsp : a.spot = none := hspot (by omega)
      have hadd : ∀ j, (a.add (i * 5)).add j = ⟨a.block, a.off + i * 5 + j, none⟩ := fun j => by
        obtain ⟨b, o, s⟩ := a
        simp only at hsp
        subst hsp
        rw [addr_off, addr_off]
      have k0 := hat 0 (by omega); rw [hadd] at k0
      have k1 := hat 1 (by omega); rw [hadd] at k1
      have k2 := hat 2 (by omega); rw [hadd] at k2
      have k3 := hat 3 (by omega); rw [hadd] at k3
      have k4 := hat 4 (by omega); rw [hadd] at k4
      have b0 := bounds_i64 hw0
      have b1 := bounds_i64 hw1
      exact ⟨⟨z0, z1, z2, z3, la, ll, lc⟩, hsp, ⟨k0, k1, k2, k3, k4⟩, ⟨b0.1, b0.2, b1.1, b1.2, hw3, hL, hlm⟩⟩
    obtain ⟨f, hf⟩ := @choose_lt OpD ⟨⟨0, 0, false, ByteArray.empty, none, [], 0⟩⟩ len _ each
    refine ⟨some a, (List.range len).map f, cap, by simp, ?_, by simp; omega⟩
    intro i hil
    have hil' : i < len := by simpa using hil
    obtain ⟨hsp, hk, hfit⟩ := hf i hil'
    obtain ⟨b, o, s⟩ := a
    simp only at hsp
    subst hsp
    refine ⟨b, o, rfl, ?_, ?_⟩
    · simpa using hk
    · simpa using hfit
/-- AN ARGUMENT OF TYPE Op, by value. -/
theorem open_op {t tl te ti tb ts : TypeId} {f0 f1 f2 f3 f4 : Field} (he : P.underlying t = some (.struct #[f0, f1, f2, f3, f4])) (hC : P.cellsOf t = 5)
    (hone : ((List.range #[f0, f1, f2, f3, f4].size).all fun j => match #[f0, f1, f2, f3, f4][j]? with | some f => f.offset == j && P.cellsOf f.type == 1 | none => false) = true)
    (hft : f0.type = ti ∧ f1.type = ti ∧ f2.type = tb ∧ f3.type = ts ∧ f4.type = tl)
    (hi : P.underlying ti = some (.int .i64)) (hb : P.underlying tb = some .bool) (hs : P.underlying ts = some .string) (hl : P.underlying tl = some (.slice te)) (hte : P.underlying te = some (.int .i64)) (c5 : P.cellsOf te = 1)
    {W : World} {b0 : Nat} {v : Value} {d0 : DataW H} {p : List MemPlace}
    (hv : Value.okWide P W .any b0 t v) (h0 : DataW.Trod enc P W 0 (fun _ => true) true t v d0 p) :
    ∃ x : OpD, v = .agg #[.int .i64 x.kind, .int .i64 x.n, .bool x.is, .string x.text, .slice x.la x.ll.length x.lc] ∧ x.Fit W := by
  obtain ⟨t0, t1, t2, t3, t4⟩ := hft
  obtain ⟨cs, rfl, hlen, hall⟩ := open_agg_any he hone hC hv h0
  obtain ⟨x0, n0, y0, e0, g0⟩ := hall 0 f0 rfl
  obtain ⟨x1, n1, y1, e1, g1⟩ := hall 1 f1 rfl
  obtain ⟨x2, n2, y2, e2, g2⟩ := hall 2 f2 rfl
  obtain ⟨x3, n3, y3, e3, g3⟩ := hall 3 f3 rfl
  obtain ⟨x4, n4, y4, e4, g4⟩ := hall 4 f4 rfl
  rw [t0] at g0
  rw [t1] at g1
  rw [t2] at g2
  rw [t3] at g3
  rw [t4] at g4
  obtain ⟨z0, hz0, _, hw0⟩ := DataW.trod_int hi g0
  obtain ⟨z1, hz1, _, hw1⟩ := DataW.trod_int hi g1
  obtain ⟨z2, hz2, _⟩ := DataW.trod_bool hb g2
  obtain ⟨z3, hz3, _, hw3⟩ := DataW.trod_string hs g3
  obtain ⟨la, ll, lc, hz4, hL, hlm⟩ := open_ints_any hl hte c5 (v := x4) g4
  simp at hz0 hz1 hz2 hz3
  subst hz0; subst hz1; subst hz2; subst hz3; subst hz4
  have b0 := bounds_i64 hw0
  have b1 := bounds_i64 hw1
  match cs, hlen with
  | [u0, u1, u2, u3, u4], _ =>
    simp at e0 e1 e2 e3 e4
    subst e0; subst e1; subst e2; subst e3; subst e4
    exact ⟨⟨z0, z1, z2, z3, la, ll, lc⟩, rfl, ⟨b0.1, b0.2, b1.1, b1.2, hw3, hL, hlm⟩⟩
end
end Go.Proofs.Ytnphmejmcnihoaa
