/- An argument of type []api.Kept, opened. No function of the program. -/
import Derived.Test.YtobgiialecgpnaaStoM
import Derived.Test.YtobgiialecgpnaaOpen
import Derived.Deep.Slices
import Derived.Deep.Fields
import Derived.Deep.Strs
import Derived.ChangeSame
import Derived.SizedLaws
set_option linter.unusedSimpArgs false
set_option linter.unusedVariables false
namespace Go.Proofs.Ytobgiialecgpnaa
open Go.ChangeShapes Go.WideShapes Go.ChangeAt Go.RowKit Go.Base Go.Deep

theorem addr_off2 (b o j : Nat) : (⟨b, o, none⟩ : Addr).add j = ⟨b, o + j, none⟩ := by unfold Addr.add; split <;> simp_all
section
variable {H : Type} {enc : TypeId × Value → H} {P : Program}
/-- AN ARGUMENT OF TYPE []api.Kept. -/
theorem open_kepts {t e ts ti : TypeId} {f0 f1 : Field} (ht : P.underlying t = some (.slice e)) (he : P.underlying e = some (.struct #[f0, f1])) (hC : P.cellsOf e = 2)
    (hf0 : f0.offset = 0 ∧ f1.offset = 1) (hft : f0.type = ts ∧ f1.type = ti) (hs : P.underlying ts = some .string) (hi : P.underlying ti = some (.int .i64)) (c0 : P.cellsOf ts = 1) (c1 : P.cellsOf ti = 1)
    {W : World} {b0 : Nat} {v : Value} {d0 : DataW H} {p : List MemPlace}
    (hv : Value.okWide P W .any b0 t v) (h0 : DataW.Trod enc P W 0 (fun _ => true) true t v d0 p) :
    ∃ (a : Option Addr) (l : List (ByteArray × Int)) (cap : Nat), v = .slice a l.length cap ∧ Kepts W a l ∧ l.length ≤ maxLen ∧ l.length ≤ cap ∧ cap ≤ maxLen := by
  obtain ⟨a0, len, cap, rfl⟩ := okWide_slice ht hv
  obtain ⟨fuel, hf⟩ := h0
  obtain ⟨t0, t1⟩ := hft
  obtain ⟨o0, o1⟩ := hf0
  rcases open_slice ht hf with ⟨hcs, hx⟩ | ⟨a, len', cap', m, n, D, Pl, hcs, _, hl1, hm, hmm, hx, hcell⟩
  · simp [Value.cells] at hcs
    obtain ⟨rfl, rfl, rfl⟩ := hcs
    exact ⟨none, [], 0, rfl, fun i hi => absurd hi (Nat.not_lt_zero _), Nat.zero_le _, Nat.le_refl _, Nat.zero_le _⟩
  · simp [Value.cells] at hcs
    obtain ⟨rfl, rfl, rfl⟩ := hcs
    simp only [if_true] at hmm
    have hspot : 0 < len → a.spot = none := fun h0 => by
      obtain ⟨cs', hc, _⟩ := hcell 0 (by omega)
      rw [hC] at hc
      obtain ⟨_, hcl, hat⟩ := World.cells?_some hc
      match cs', hcl with
      | u0 :: _, _ => exact World.cell?_spot (hat 0 (by omega))
    have each : ∀ i, i < len → ∃ x : ByteArray × Int, (a.spot = none) ∧ (W.cell? ⟨a.block, a.off + i * 2, none⟩ = some (.string x.1) ∧ W.cell? ⟨a.block, a.off + i * 2 + 1, none⟩ = some (.int .i64 x.2)) ∧ x.1.size ≤ maxLen ∧ -9223372036854775808 ≤ x.2 ∧ x.2 ≤ 9223372036854775807 := fun i hil => by
      obtain ⟨cs', hc, ht'⟩ := hcell i (by omega)
      rw [hC] at hc
      obtain ⟨ys, n', hn', hy, hlen, hyl, hf⟩ := DataW.trod_struct he ht'
      obtain ⟨_, hcl, hat⟩ := World.cells?_some hc
      obtain ⟨u0, u1, rfl⟩ : ∃ u0 u1, cs' = [u0, u1] := by
        match cs', hcl with
        | [u0, u1], _ => exact ⟨u0, u1, rfl⟩
      have g0 := hf 0 f0 rfl
      have g1 := hf 1 f1 rfl
      have hys : ∀ j, j < 2 → ∃ y, ys[j]? = some y := fun j hj => ⟨ys[j]'(by rw [hyl]; exact hj), List.getElem?_eq_getElem _⟩
      obtain ⟨y0, hy0⟩ := hys 0 (by omega)
      obtain ⟨y1, hy1⟩ := hys 1 (by omega)
      rw [t0, o0, c0, hy0] at g0
      rw [t1, o1, c1, hy1] at g1
      obtain ⟨z0, hz0, _, hw0⟩ := DataW.trod_string hs g0
      obtain ⟨z1, hz1, _, hw1⟩ := DataW.trod_int hi g1
      have bd := bounds_i64 hw1
      simp at hz0 hz1
      subst hz0; subst hz1
      have hsp : a.spot = none := hspot (by omega)
      have hadd : ∀ j, (a.add (i * 2)).add j = ⟨a.block, a.off + i * 2 + j, none⟩ := fun j => by
        obtain ⟨b, o, s⟩ := a
        simp only at hsp
        subst hsp
        rw [addr_off2, addr_off2]
      have k0 := hat 0 (by omega); rw [hadd] at k0
      have k1 := hat 1 (by omega); rw [hadd] at k1
      exact ⟨⟨z0, z1⟩, hsp, ⟨by simpa using k0, by simpa using k1⟩, hw0, bd.1, bd.2⟩
    obtain ⟨f, hf⟩ := @choose_lt (ByteArray × Int) ⟨⟨ByteArray.empty, 0⟩⟩ len _ each
    refine ⟨some a, (List.range len).map f, cap, by simp, ?_, by simp; omega, by simp; omega, hm⟩
    intro i hil
    have hil' : i < len := by simpa using hil
    obtain ⟨hsp, hk, hfit⟩ := hf i hil'
    obtain ⟨b, o, s⟩ := a
    simp only at hsp
    subst hsp
    exact ⟨b, o, rfl, by simpa using hk.1, by simpa using hk.2, by simpa using hfit.1, by simpa using hfit.2.1, by simpa using hfit.2.2⟩
/-- AN ARGUMENT OF TYPE []api.Kept. -/
theorem open_kepts_any {t e ts ti : TypeId} {f0 f1 : Field} (ht : P.underlying t = some (.slice e)) (he : P.underlying e = some (.struct #[f0, f1])) (hC : P.cellsOf e = 2)
    (hf0 : f0.offset = 0 ∧ f1.offset = 1) (hft : f0.type = ts ∧ f1.type = ti) (hs : P.underlying ts = some .string) (hi : P.underlying ti = some (.int .i64)) (c0 : P.cellsOf ts = 1) (c1 : P.cellsOf ti = 1)
    {W : World} {fuel : Nat} {v : Value} {x0 : DataW H × List MemPlace} (hf : DataW.trod enc P W 0 (fun _ => true) true fuel t [v] = some x0) :
    ∃ (a : Option Addr) (l : List (ByteArray × Int)) (cap : Nat), v = .slice a l.length cap ∧ Kepts W a l ∧ l.length ≤ maxLen ∧ l.length ≤ cap ∧ cap ≤ maxLen := by
  obtain ⟨t0, t1⟩ := hft
  obtain ⟨o0, o1⟩ := hf0
  rcases open_slice ht hf with ⟨hcs, hx⟩ | ⟨a, len, cap, m, n, D, Pl, hcs, _, hl1, hm, hmm, hx, hcell⟩
  · injection hcs with hcs; subst hcs
    exact ⟨none, [], 0, rfl, fun i hi => absurd hi (Nat.not_lt_zero _), Nat.zero_le _, Nat.le_refl _, Nat.zero_le _⟩
  · injection hcs with hcs; subst hcs
    simp only [if_true] at hmm
    have hspot : 0 < len → a.spot = none := fun h0 => by
      obtain ⟨cs', hc, _⟩ := hcell 0 (by omega)
      rw [hC] at hc
      obtain ⟨_, hcl, hat⟩ := World.cells?_some hc
      match cs', hcl with
      | u0 :: _, _ => exact World.cell?_spot (hat 0 (by omega))
    have each : ∀ i, i < len → ∃ x : ByteArray × Int, (a.spot = none) ∧ (W.cell? ⟨a.block, a.off + i * 2, none⟩ = some (.string x.1) ∧ W.cell? ⟨a.block, a.off + i * 2 + 1, none⟩ = some (.int .i64 x.2)) ∧ x.1.size ≤ maxLen ∧ -9223372036854775808 ≤ x.2 ∧ x.2 ≤ 9223372036854775807 := fun i hil => by
      obtain ⟨cs', hc, ht'⟩ := hcell i (by omega)
      rw [hC] at hc
      obtain ⟨ys, n', hn', hy, hlen, hyl, hf⟩ := DataW.trod_struct he ht'
      obtain ⟨_, hcl, hat⟩ := World.cells?_some hc
      obtain ⟨u0, u1, rfl⟩ : ∃ u0 u1, cs' = [u0, u1] := by
        match cs', hcl with
        | [u0, u1], _ => exact ⟨u0, u1, rfl⟩
      have g0 := hf 0 f0 rfl
      have g1 := hf 1 f1 rfl
      have hys : ∀ j, j < 2 → ∃ y, ys[j]? = some y := fun j hj => ⟨ys[j]'(by rw [hyl]; exact hj), List.getElem?_eq_getElem _⟩
      obtain ⟨y0, hy0⟩ := hys 0 (by omega)
      obtain ⟨y1, hy1⟩ := hys 1 (by omega)
      rw [t0, o0, c0, hy0] at g0
      rw [t1, o1, c1, hy1] at g1
      obtain ⟨z0, hz0, _, hw0⟩ := DataW.trod_string hs g0
      obtain ⟨z1, hz1, _, hw1⟩ := DataW.trod_int hi g1
      have bd := bounds_i64 hw1
      simp at hz0 hz1
      subst hz0; subst hz1
      have hsp : a.spot = none := hspot (by omega)
      have hadd : ∀ j, (a.add (i * 2)).add j = ⟨a.block, a.off + i * 2 + j, none⟩ := fun j => by
        obtain ⟨b, o, s⟩ := a
        simp only at hsp
        subst hsp
        rw [addr_off2, addr_off2]
      have k0 := hat 0 (by omega); rw [hadd] at k0
      have k1 := hat 1 (by omega); rw [hadd] at k1
      exact ⟨⟨z0, z1⟩, hsp, ⟨by simpa using k0, by simpa using k1⟩, hw0, bd.1, bd.2⟩
    obtain ⟨f, hf⟩ := @choose_lt (ByteArray × Int) ⟨⟨ByteArray.empty, 0⟩⟩ len _ each
    refine ⟨some a, (List.range len).map f, cap, by simp, ?_, by simp; omega, by simp; omega, hm⟩
    intro i hil
    have hil' : i < len := by simpa using hil
    obtain ⟨hsp, hk, hfit⟩ := hf i hil'
    obtain ⟨b, o, s⟩ := a
    simp only at hsp
    subst hsp
    exact ⟨b, o, rfl, by simpa using hk.1, by simpa using hk.2, by simpa using hfit.1, by simpa using hfit.2.1, by simpa using hfit.2.2⟩
end
end Go.Proofs.Ytobgiialecgpnaa
