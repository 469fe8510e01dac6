/- Arguments of type Op and []Op of package net's laws, opened. No function of the program. -/
import Derived.Test.YtbmadhmcnjcdfaaOpen
import Derived.Deep.Slices
import Derived.Deep.Fields
import Derived.Deep.Strs
import Derived.ChangeSame
import Derived.SizedLaws
set_option linter.unusedSimpArgs false
set_option linter.unusedVariables false
namespace Go.Proofs.Ytbmadhmcnjcdfaa
open Go.ChangeShapes Go.WideShapes Go.ChangeAt Go.RowKit Go.Base Go.Deep

theorem addr_off2 (b o j : Nat) : (⟨b, o, none⟩ : Addr).add j = ⟨b, o + j, none⟩ := by unfold Addr.add; split <;> simp_all
structure NOp where
  kind : Int
  a : Int
  b : Int
  bA : Option Addr
  bl : List UInt8
  bc : Nat
structure NOp.Fit (w : World) (x : NOp) : Prop where
  a1 : -9223372036854775808 ≤ x.a
  a2 : x.a ≤ 9223372036854775807
  b1 : -9223372036854775808 ≤ x.b
  b2 : x.b ≤ 9223372036854775807
  y : Byt w x.bA x.bl
  m : x.bl.length ≤ maxLen
def NOps (w : World) (p : Option Addr) (l : List NOp) : Prop := ∀ (i : Nat) (h : i < l.length), ∃ b o, p = some ⟨b, o, none⟩ ∧
  (w.cell? ⟨b, o + i * 4, none⟩ = some (.int .i64 l[i].kind) ∧ w.cell? ⟨b, o + i * 4 + 1, none⟩ = some (.int .i64 l[i].a) ∧ w.cell? ⟨b, o + i * 4 + 2, none⟩ = some (.int .i64 l[i].b) ∧ w.cell? ⟨b, o + i * 4 + 3, none⟩ = some (.slice l[i].bA l[i].bl.length l[i].bc)) ∧ l[i].Fit w
theorem NOps.later {w w' : World} {p : Option Addr} {l : List NOp} (h : NOps w p l) (hb : Below w.heap.size w w') : NOps w' p l := fun i hi => by
  obtain ⟨b, o, e, ⟨c0, c1, c2, c3⟩, f⟩ := h i hi
  exact ⟨b, o, e, ⟨cell_later hb c0, cell_later hb c1, cell_later hb c2, cell_later hb c3⟩, ⟨f.a1, f.a2, f.b1, f.b2, f.y.later hb, f.m⟩⟩
section
variable {H : Type} {enc : TypeId × Value → H} {P : Program}
theorem open_byt_in {t e : TypeId} (ht : P.underlying t = some (.slice e)) (he : P.underlying e = some (.int .u8)) (hc : P.cellsOf e = 1) {w : World} {n : Nat} {v : Value} {x : DataW H × List MemPlace}
    (h : DataW.trod enc P w 0 (fun _ => true) true n t [v] = some x) : ∃ (a : Option Addr) (l : List UInt8) (cap : Nat), v = .slice a l.length cap ∧ Byt w a l ∧ l.length ≤ maxLen := by
  rcases open_ints ht he hc h with ⟨hcs, hx⟩ | ⟨a, len, cap', zs, hcs, _, hl, hm, hz, hx, hcell, hwz⟩
  · injection hcs with hcs; exact ⟨none, [], 0, hcs, Byt.nil _ _, Nat.zero_le _⟩
  · injection hcs with hcs
    subst hcs
    simp only [if_true] at hz
    have hlen : ((zs.take len).map fun n => UInt8.ofNat n.toNat).length = len := by simp; omega
    refine ⟨some a, (zs.take len).map fun n => UInt8.ofNat n.toNat, cap', by rw [hlen], ?_, by rw [hlen]; omega⟩
    intro i hi
    rw [hlen] at hi
    have hc0 := hcell i (by omega)
    have hw := hwz zs[i] (List.getElem_mem _)
    have hb := bounds_u8 hw
    obtain ⟨b, o, s⟩ := a
    obtain rfl : s = none := by simpa [Addr.add] using World.cell?_spot (hcell 0 (by omega))
    refine ⟨b, o, rfl, ?_⟩
    rw [addr_off2] at hc0
    rw [hc0]
    have e2 : zs.getD i 0 = zs[i]'(by omega) := by simp [List.getD, show i < zs.length by omega]
    rw [e2]
    simp
    omega
/-- AN ARGUMENT OF TYPE []Op. -/
theorem open_nops {t e ti tb te : TypeId} {f0 f1 f2 f3 : Field} (ht : P.underlying t = some (.slice e)) (he : P.underlying e = some (.struct #[f0, f1, f2, f3])) (hC : P.cellsOf e = 4)
    (hf0 : f0.offset = 0 ∧ f1.offset = 1 ∧ f2.offset = 2 ∧ f3.offset = 3) (hft : f0.type = ti ∧ f1.type = ti ∧ f2.type = ti ∧ f3.type = tb)
    (hi : P.underlying ti = some (.int .i64)) (hb : P.underlying tb = some (.slice te)) (hte : P.underlying te = some (.int .u8))
    (c0 : P.cellsOf ti = 1) (c3 : P.cellsOf tb = 1) (c4 : P.cellsOf te = 1)
    {W : World} {b0 : Nat} {v : Value} {d0 : DataW H} {p : List MemPlace}
    (hv : Value.okWide P W .any b0 t v) (h0 : DataW.Trod enc P W 0 (fun _ => true) true t v d0 p) :
    ∃ (a : Option Addr) (l : List NOp) (cap : Nat), v = .slice a l.length cap ∧ NOps W a l ∧ l.length ≤ maxLen := by
  obtain ⟨a0, len, cap, rfl⟩ := okWide_slice ht hv
  obtain ⟨fuel, hf⟩ := h0
  obtain ⟨t0, t1, t2, t3⟩ := hft
  obtain ⟨o0, o1, o2, o3⟩ := hf0
  rcases open_slice ht hf with ⟨hcs, hx⟩ | ⟨a, len', cap', m, n, D, Pl, hcs, _, hl1, hm, hmm, hx, hcell⟩
  · simp [Value.cells] at hcs
    obtain ⟨rfl, rfl, rfl⟩ := hcs
    exact ⟨none, [], 0, rfl, fun i hi => absurd hi (Nat.not_lt_zero _), Nat.zero_le _⟩
  · simp [Value.cells] at hcs
    obtain ⟨rfl, rfl, rfl⟩ := hcs
    simp only [if_true] at hmm
    have hspot : 0 < len → a.spot = none := fun h0 => by
      obtain ⟨cs', hc, _⟩ := hcell 0 (by omega)
      rw [hC] at hc
      obtain ⟨_, hcl, hat⟩ := World.cells?_some hc
      match cs', hcl with
      | u0 :: _, _ => exact World.cell?_spot (hat 0 (by omega))
    have each : ∀ i, i < len → ∃ x : NOp, (a.spot = none) ∧ (W.cell? ⟨a.block, a.off + i * 4, none⟩ = some (.int .i64 x.kind) ∧ W.cell? ⟨a.block, a.off + i * 4 + 1, none⟩ = some (.int .i64 x.a) ∧ W.cell? ⟨a.block, a.off + i * 4 + 2, none⟩ = some (.int .i64 x.b) ∧
        W.cell? ⟨a.block, a.off + i * 4 + 3, none⟩ = some (.slice x.bA x.bl.length x.bc)) ∧ x.Fit W := fun i hil => by
      obtain ⟨cs', hc, ht'⟩ := hcell i (by omega)
      rw [hC] at hc
      obtain ⟨ys, n', hn', hy, hlen, hyl, hf⟩ := DataW.trod_struct he ht'
      obtain ⟨_, hcl, hat⟩ := World.cells?_some hc
      obtain ⟨u0, u1, u2, u3, rfl⟩ : ∃ u0 u1 u2 u3, cs' = [u0, u1, u2, u3] := by
        match cs', hcl with
        | [u0, u1, u2, u3], _ => exact ⟨u0, u1, u2, u3, rfl⟩
      have g0 := hf 0 f0 rfl
      have g1 := hf 1 f1 rfl
      have g2 := hf 2 f2 rfl
      have g3 := hf 3 f3 rfl
      have hys : ∀ j, j < 4 → ∃ y, ys[j]? = some y := fun j hj => ⟨ys[j]'(by rw [hyl]; exact hj), List.getElem?_eq_getElem _⟩
      obtain ⟨y0, hy0⟩ := hys 0 (by omega)
      obtain ⟨y1, hy1⟩ := hys 1 (by omega)
      obtain ⟨y2, hy2⟩ := hys 2 (by omega)
      obtain ⟨y3, hy3⟩ := hys 3 (by omega)
      rw [t0, o0, c0, hy0] at g0
      rw [t1, o1, c0, hy1] at g1
      rw [t2, o2, c0, hy2] at g2
      rw [t3, o3, c3, hy3] at g3
      obtain ⟨z0, hz0, _, hw0⟩ := DataW.trod_int hi g0
      obtain ⟨z1, hz1, _, hw1⟩ := DataW.trod_int hi g1
      obtain ⟨z2, hz2, _, hw2⟩ := DataW.trod_int hi g2
      obtain ⟨ba, bl, bc, hz3, hB, hbm⟩ := open_byt_in hb hte c4 (v := u3) g3
      simp at hz0 hz1 hz2
      subst hz0; subst hz1; subst hz2; subst hz3
      have hsp : a.spot = none := hspot (by omega)
      have hadd : ∀ j, (a.add (i * 4)).add j = ⟨a.block, a.off + i * 4 + j, none⟩ := fun j => by
        obtain ⟨b, o, s⟩ := a
        simp only at hsp
        subst hsp
        rw [addr_off2, addr_off2]
      have k0 := hat 0 (by omega); rw [hadd] at k0
      have k1 := hat 1 (by omega); rw [hadd] at k1
      have k2 := hat 2 (by omega); rw [hadd] at k2
      have k3 := hat 3 (by omega); rw [hadd] at k3
      have b1 := bounds_i64 hw1
      have b2 := bounds_i64 hw2
      exact ⟨⟨z0, z1, z2, ba, bl, bc⟩, hsp, ⟨k0, k1, k2, k3⟩, ⟨b1.1, b1.2, b2.1, b2.2, hB, hbm⟩⟩
    obtain ⟨f, hf⟩ := @choose_lt NOp ⟨⟨0, 0, 0, none, [], 0⟩⟩ len _ each
    refine ⟨some a, (List.range len).map f, cap, by simp, ?_, by simp; omega⟩
    intro i hil
    have hil' : i < len := by simpa using hil
    obtain ⟨hsp, hk, hfit⟩ := hf i hil'
    obtain ⟨b, o, s⟩ := a
    simp only at hsp
    subst hsp
    refine ⟨b, o, rfl, ?_, ?_⟩
    · simpa using hk
    · simpa using hfit
/-- AN ARGUMENT OF TYPE Op. -/
theorem open_nop {t ti tb te : TypeId} {f0 f1 f2 f3 : Field} (he : P.underlying t = some (.struct #[f0, f1, f2, f3])) (hC : P.cellsOf t = 4)
    (hone : ((List.range #[f0, f1, f2, f3].size).all fun j => match #[f0, f1, f2, f3][j]? with | some f => f.offset == j && P.cellsOf f.type == 1 | none => false) = true)
    (hft : f0.type = ti ∧ f1.type = ti ∧ f2.type = ti ∧ f3.type = tb) (hi : P.underlying ti = some (.int .i64)) (hb : P.underlying tb = some (.slice te)) (hte : P.underlying te = some (.int .u8)) (c4 : P.cellsOf te = 1)
    {W : World} {b0 : Nat} {v : Value} {d0 : DataW H} {p : List MemPlace}
    (hv : Value.okWide P W .any b0 t v) (h0 : DataW.Trod enc P W 0 (fun _ => true) true t v d0 p) :
    ∃ x : NOp, v = .agg #[.int .i64 x.kind, .int .i64 x.a, .int .i64 x.b, .slice x.bA x.bl.length x.bc] ∧ x.Fit W := by
  obtain ⟨t0, t1, t2, t3⟩ := hft
  obtain ⟨cs, rfl, hlen, hall⟩ := open_agg_any he hone hC hv h0
  obtain ⟨x0, n0, y0, e0, g0⟩ := hall 0 f0 rfl
  obtain ⟨x1, n1, y1, e1, g1⟩ := hall 1 f1 rfl
  obtain ⟨x2, n2, y2, e2, g2⟩ := hall 2 f2 rfl
  obtain ⟨x3, n3, y3, e3, g3⟩ := hall 3 f3 rfl
  rw [t0] at g0
  rw [t1] at g1
  rw [t2] at g2
  rw [t3] at g3
  obtain ⟨z0, hz0, _, hw0⟩ := DataW.trod_int hi g0
  obtain ⟨z1, hz1, _, hw1⟩ := DataW.trod_int hi g1
  obtain ⟨z2, hz2, _, hw2⟩ := DataW.trod_int hi g2
  obtain ⟨ba, bl, bc, hz3, hB, hbm⟩ := open_byt_in hb hte c4 (v := x3) g3
  simp at hz0 hz1 hz2
  subst hz0; subst hz1; subst hz2; subst hz3
  have b1 := bounds_i64 hw1
  have b2 := bounds_i64 hw2
  match cs, hlen with
  | [u0, u1, u2, u3], _ =>
    simp at e0 e1 e2 e3
    subst e0; subst e1; subst e2; subst e3
    exact ⟨⟨z0, z1, z2, ba, bl, bc⟩, rfl, ⟨b1.1, b1.2, b2.1, b2.2, hB, hbm⟩⟩
end
end Go.Proofs.Ytbmadhmcnjcdfaa
