/- Arguments of type []Op of package store's laws, opened. No function of the program. -/
import Derived.Test.YtobgiialecgpnaaKepts
set_option linter.unusedSimpArgs false
set_option linter.unusedVariables false
namespace Go.Proofs.Ytobgiialecgpnaa
open Go.ChangeShapes Go.WideShapes Go.ChangeAt Go.RowKit Go.Base Go.Deep

structure SOp where
  kind : Int
  name : ByteArray
  to : ByteArray
  bA : Option Addr
  bl : List UInt8
  bc : Nat
  n : Int
  kA : Option Addr
  kl : List (ByteArray × Int)
  kc : Nat
structure SOp.Fit (w : World) (x : SOp) : Prop where
  k1 : -9223372036854775808 ≤ x.kind
  k2 : x.kind ≤ 9223372036854775807
  n1 : -9223372036854775808 ≤ x.n
  n2 : x.n ≤ 9223372036854775807
  s : x.name.size ≤ maxLen
  t : x.to.size ≤ maxLen
  b : Byt w x.bA x.bl
  bm : x.bl.length ≤ maxLen
  k : Kepts w x.kA x.kl
  km : x.kl.length ≤ maxLen
def SOps (w : World) (p : Option Addr) (l : List SOp) : Prop := ∀ (i : Nat) (h : i < l.length), ∃ b o, p = some ⟨b, o, none⟩ ∧
  (w.cell? ⟨b, o + i * 6, none⟩ = some (.int .i64 l[i].kind) ∧ w.cell? ⟨b, o + i * 6 + 1, none⟩ = some (.string l[i].name) ∧ w.cell? ⟨b, o + i * 6 + 2, none⟩ = some (.string l[i].to) ∧
    w.cell? ⟨b, o + i * 6 + 3, none⟩ = some (.slice l[i].bA l[i].bl.length l[i].bc) ∧ w.cell? ⟨b, o + i * 6 + 4, none⟩ = some (.int .i64 l[i].n) ∧ w.cell? ⟨b, o + i * 6 + 5, none⟩ = some (.slice l[i].kA l[i].kl.length l[i].kc)) ∧ l[i].Fit w
theorem SOps.later {w w' : World} {p : Option Addr} {l : List SOp} (h : SOps w p l) (hb : Below w.heap.size w w') : SOps w' p l := fun i hi => by
  obtain ⟨b, o, e, ⟨c0, c1, c2, c3, c4, c5⟩, f⟩ := h i hi
  exact ⟨b, o, e, ⟨cell_later hb c0, cell_later hb c1, cell_later hb c2, cell_later hb c3, cell_later hb c4, cell_later hb c5⟩, ⟨f.k1, f.k2, f.n1, f.n2, f.s, f.t, f.b.later hb, f.bm, f.k.later hb, f.km⟩⟩
section
variable {H : Type} {enc : TypeId × Value → H} {P : Program}
theorem open_byt_in {t e : TypeId} (ht : P.underlying t = some (.slice e)) (he : P.underlying e = some (.int .u8)) (hc : P.cellsOf e = 1) {w : World} {n : Nat} {v : Value} {x : DataW H × List MemPlace}
    (h : DataW.trod enc P w 0 (fun _ => true) true n t [v] = some x) : ∃ (a : Option Addr) (l : List UInt8) (cap : Nat), v = .slice a l.length cap ∧ Byt w a l ∧ l.length ≤ maxLen := by
  rcases open_ints ht he hc h with ⟨hcs, hx⟩ | ⟨a, len, cap', zs, hcs, _, hl, hm, hz, hx, hcell, hwz⟩
  · injection hcs with hcs; exact ⟨none, [], 0, hcs, Byt.nil _ _, Nat.zero_le _⟩
  · injection hcs with hcs
    subst hcs
    simp only [if_true] at hz
    have hlen : ((zs.take len).map fun n => UInt8.ofNat n.toNat).length = len := by simp; omega
    refine ⟨some a, (zs.take len).map fun n => UInt8.ofNat n.toNat, cap', by rw [hlen], ?_, by rw [hlen]; omega⟩
    intro i hi
    rw [hlen] at hi
    have hc0 := hcell i (by omega)
    have hw := hwz zs[i] (List.getElem_mem _)
    have hb := bounds_u8 hw
    obtain ⟨b, o, s⟩ := a
    obtain rfl : s = none := by simpa [Addr.add] using World.cell?_spot (hcell 0 (by omega))
    refine ⟨b, o, rfl, ?_⟩
    rw [addr_off2] at hc0
    rw [hc0]
    have e2 : zs.getD i 0 = zs[i]'(by omega) := by simp [List.getD, show i < zs.length by omega]
    rw [e2]
    simp
    omega
/-- AN ARGUMENT OF TYPE []Op. -/
theorem open_sops {t e ti ts tb te tk tke : TypeId} {f0 f1 f2 f3 f4 f5 h0' h1' : Field} (ht : P.underlying t = some (.slice e)) (he : P.underlying e = some (.struct #[f0, f1, f2, f3, f4, f5])) (hC : P.cellsOf e = 6)
    (hf0 : f0.offset = 0 ∧ f1.offset = 1 ∧ f2.offset = 2 ∧ f3.offset = 3 ∧ f4.offset = 4 ∧ f5.offset = 5) (hft : f0.type = ti ∧ f1.type = ts ∧ f2.type = ts ∧ f3.type = tb ∧ f4.type = ti ∧ f5.type = tk)
    (hi : P.underlying ti = some (.int .i64)) (hs : P.underlying ts = some .string) (hb : P.underlying tb = some (.slice te)) (hte : P.underlying te = some (.int .u8))
    (hk : P.underlying tk = some (.slice tke)) (hke : P.underlying tke = some (.struct #[h0', h1'])) (hkC : P.cellsOf tke = 2) (hk0 : h0'.offset = 0 ∧ h1'.offset = 1) (hkt : h0'.type = ts ∧ h1'.type = ti)
    (c0 : P.cellsOf ti = 1) (c1 : P.cellsOf ts = 1) (c3 : P.cellsOf tb = 1) (c4 : P.cellsOf te = 1) (c5 : P.cellsOf tk = 1)
    {W : World} {b0 : Nat} {v : Value} {d0 : DataW H} {p : List MemPlace}
    (hv : Value.okWide P W .any b0 t v) (h0 : DataW.Trod enc P W 0 (fun _ => true) true t v d0 p) :
    ∃ (a : Option Addr) (l : List SOp) (cap : Nat), v = .slice a l.length cap ∧ SOps W a l ∧ l.length ≤ maxLen := by
  obtain ⟨a0, len, cap, rfl⟩ := okWide_slice ht hv
  obtain ⟨fuel, hf⟩ := h0
  obtain ⟨t0, t1, t2, t3, t4, t5⟩ := hft
  obtain ⟨o0, o1, o2, o3, o4, o5⟩ := hf0
  rcases open_slice ht hf with ⟨hcs, hx⟩ | ⟨a, len', cap', m, n, D, Pl, hcs, _, hl1, hm, hmm, hx, hcell⟩
  · simp [Value.cells] at hcs
    obtain ⟨rfl, rfl, rfl⟩ := hcs
    exact ⟨none, [], 0, rfl, fun i hi => absurd hi (Nat.not_lt_zero _), Nat.zero_le _⟩
  · simp [Value.cells] at hcs
    obtain ⟨rfl, rfl, rfl⟩ := hcs
    simp only [if_true] at hmm
    have hspot : 0 < len → a.spot = none := fun h0 => by
      obtain ⟨cs', hc, _⟩ := hcell 0 (by omega)
      rw [hC] at hc
      obtain ⟨_, hcl, hat⟩ := World.cells?_some hc
      match cs', hcl with
      | u0 :: _, _ => exact World.cell?_spot (hat 0 (by omega))
    have each : ∀ i, i < len → ∃ x : SOp, (a.spot = none) ∧ (W.cell? ⟨a.block, a.off + i * 6, none⟩ = some (.int .i64 x.kind) ∧ W.cell? ⟨a.block, a.off + i * 6 + 1, none⟩ = some (.string x.name) ∧ W.cell? ⟨a.block, a.off + i * 6 + 2, none⟩ = some (.string x.to) ∧
        W.cell? ⟨a.block, a.off + i * 6 + 3, none⟩ = some (.slice x.bA x.bl.length x.bc) ∧ W.cell? ⟨a.block, a.off + i * 6 + 4, none⟩ = some (.int .i64 x.n) ∧ W.cell? ⟨a.block, a.off + i * 6 + 5, none⟩ = some (.slice x.kA x.kl.length x.kc)) ∧ x.Fit W := fun i hil => by
      obtain ⟨cs', hc, ht'⟩ := hcell i (by omega)
      rw [hC] at hc
      obtain ⟨ys, n', hn', hy, hlen, hyl, hf⟩ := DataW.trod_struct he ht'
      obtain ⟨_, hcl, hat⟩ := World.cells?_some hc
      obtain ⟨u0, u1, u2, u3, u4, u5, rfl⟩ : ∃ u0 u1 u2 u3 u4 u5, cs' = [u0, u1, u2, u3, u4, u5] := by
        match cs', hcl with
        | [u0, u1, u2, u3, u4, u5], _ => exact ⟨u0, u1, u2, u3, u4, u5, rfl⟩
      have g0 := hf 0 f0 rfl
      have g1 := hf 1 f1 rfl
      have g2 := hf 2 f2 rfl
      have g3 := hf 3 f3 rfl
      have g4 := hf 4 f4 rfl
      have g5 := hf 5 f5 rfl
      have hys : ∀ j, j < 6 → ∃ y, ys[j]? = some y := fun j hj => ⟨ys[j]'(by rw [hyl]; exact hj), List.getElem?_eq_getElem _⟩
      obtain ⟨y0, hy0⟩ := hys 0 (by omega)
      obtain ⟨y1, hy1⟩ := hys 1 (by omega)
      obtain ⟨y2, hy2⟩ := hys 2 (by omega)
      obtain ⟨y3, hy3⟩ := hys 3 (by omega)
      obtain ⟨y4, hy4⟩ := hys 4 (by omega)
      obtain ⟨y5, hy5⟩ := hys 5 (by omega)
      rw [t0, o0, c0, hy0] at g0
      rw [t1, o1, c1, hy1] at g1
      rw [t2, o2, c1, hy2] at g2
      rw [t3, o3, c3, hy3] at g3
      rw [t4, o4, c0, hy4] at g4
      rw [t5, o5, c5, hy5] at g5
      obtain ⟨z0, hz0, _, hw0⟩ := DataW.trod_int hi g0
      obtain ⟨z1, hz1, _, hw1⟩ := DataW.trod_string hs g1
      obtain ⟨z2, hz2, _, hw2⟩ := DataW.trod_string hs g2
      obtain ⟨ba, bl, bc, hz3, hB, hbm⟩ := open_byt_in hb hte c4 (v := u3) g3
      obtain ⟨z4, hz4, _, hw4⟩ := DataW.trod_int hi g4
      obtain ⟨ka, kl, kc, hz5, hK, hkm, _⟩ := open_kepts_any hk hke hkC hk0 hkt hs hi c1 c0 (v := u5) g5
      simp at hz0 hz1 hz2 hz4
      subst hz0; subst hz1; subst hz2; subst hz3; subst hz4; subst hz5
      have hsp : a.spot = none := hspot (by omega)
      have hadd : ∀ j, (a.add (i * 6)).add j = ⟨a.block, a.off + i * 6 + j, none⟩ := fun j => by
        obtain ⟨b, o, s⟩ := a
        simp only at hsp
        subst hsp
        rw [addr_off2, addr_off2]
      have k0 := hat 0 (by omega); rw [hadd] at k0
      have k1 := hat 1 (by omega); rw [hadd] at k1
      have k2 := hat 2 (by omega); rw [hadd] at k2
      have k3 := hat 3 (by omega); rw [hadd] at k3
      have k4 := hat 4 (by omega); rw [hadd] at k4
      have k5 := hat 5 (by omega); rw [hadd] at k5
      have b0 := bounds_i64 hw0
      have b4 := bounds_i64 hw4
      exact ⟨⟨z0, z1, z2, ba, bl, bc, z4, ka, kl, kc⟩, hsp, ⟨k0, k1, k2, k3, k4, k5⟩, ⟨b0.1, b0.2, b4.1, b4.2, hw1, hw2, hB, hbm, hK, hkm⟩⟩
    obtain ⟨f, hf⟩ := @choose_lt SOp ⟨⟨0, ByteArray.empty, ByteArray.empty, none, [], 0, 0, none, [], 0⟩⟩ len _ each
    refine ⟨some a, (List.range len).map f, cap, by simp, ?_, by simp; omega⟩
    intro i hil
    have hil' : i < len := by simpa using hil
    obtain ⟨hsp, hk, hfit⟩ := hf i hil'
    obtain ⟨b, o, s⟩ := a
    simp only at hsp
    subst hsp
    refine ⟨b, o, rfl, ?_, ?_⟩
    · simpa using hk
    · simpa using hfit
end
end Go.Proofs.Ytobgiialecgpnaa
