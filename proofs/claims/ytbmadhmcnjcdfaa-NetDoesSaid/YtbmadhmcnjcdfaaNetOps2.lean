/- The form's reach, of the bytes in an argument of type []Op of package net's laws. No function of the program. -/
import Derived.Test.YtbmadhmcnjcdfaaNetOps
set_option linter.unusedSimpArgs false
set_option linter.unusedVariables false
namespace Go.Proofs.Ytbmadhmcnjcdfaa
open Go.ChangeShapes Go.WideShapes Go.ChangeAt Go.RowKit Go.Base Go.Deep

section
variable {H : Type} {enc : TypeId × Value → H} {P : Program}
theorem weightsAll_mem {e : TypeId} {d : DataW H} {k : Nat} (hk : k ∈ d.weights P e) : ∀ {l : List (DataW H)}, d ∈ l → k ∈ DataW.weightsAll P e l
  | x :: r, h => by
    simp only [DataW.weightsAll, List.mem_append]
    rcases List.mem_cons.1 h with rfl | h
    · exact Or.inl hk
    · exact Or.inr (weightsAll_mem hk h)
theorem nops_reach {t e tb te : TypeId} {f0 f1 f2 f3 : Field} (ht : P.underlying t = some (.slice e)) (he : P.underlying e = some (.struct #[f0, f1, f2, f3])) (hC : P.cellsOf e = 4)
    (hf3 : f3.offset = 3) (hft : f3.type = tb) (hb : P.underlying tb = some (.slice te)) (hte : P.underlying te = some (.int .u8)) (c3 : P.cellsOf tb = 1) (c4 : P.cellsOf te = 1) (hby : P.bytesOf te = 1)
    {W : World} {a : Option Addr} {l : List NOp} {cap : Nat} {d0 : DataW H} {p : List MemPlace} (h0 : DataW.Trod enc P W 0 (fun _ => true) true t (.slice a l.length cap) d0 p) (hN : NOps W a l)
    {tys : List TypeId} {ds : List (DataW H)} (hz : (DataW.weightsEach P tys ds).all (· ≤ reachBytes) = true) (j : Nat) (hj : tys[j]? = some t) (hd : ds[j]? = some d0) : ∀ (i : Nat) (h : i < l.length), l[i].bl.length ≤ 140737488351232 := by
  obtain ⟨fuel, hf⟩ := h0
  intro i hi
  rcases open_slice ht hf with ⟨hcs, hx⟩ | ⟨a', len', cap', m, n, D, Pl, hcs, _, hl1, hm, hmm, hx, hcell⟩
  · simp [Value.cells] at hcs
    obtain ⟨_, h1, _⟩ := hcs
    subst h1
    exact absurd hi (Nat.not_lt_zero _)
  · simp [Value.cells] at hcs
    obtain ⟨rfl, rfl, rfl⟩ := hcs
    simp only [if_true] at hmm
    obtain ⟨cs', hc, ht'⟩ := hcell i (by omega)
    rw [hC] at hc
    obtain ⟨ys, n', hn', hy, hlen, hyl, hfl⟩ := DataW.trod_struct he ht'
    obtain ⟨_, hcl, hat⟩ := World.cells?_some hc
    obtain ⟨u0, u1, u2, u3, rfl⟩ : ∃ u0 u1 u2 u3, cs' = [u0, u1, u2, u3] := by
      match cs', hcl with
      | [u0, u1, u2, u3], _ => exact ⟨u0, u1, u2, u3, rfl⟩
    have g3 := hfl 3 f3 rfl
    obtain ⟨y3, hy3⟩ : ∃ y, ys[3]? = some y := ⟨ys[3]'(by rw [hyl]; exact (by decide : 3 < 4)), List.getElem?_eq_getElem _⟩
    rw [hft, hf3, c3, hy3] at g3
    obtain ⟨b, o, ea, ⟨_, _, _, q3⟩, _⟩ := hN i hi
    have k3 := hat 3 (by omega)
    injection ea with ea
    subst ea
    rw [addr_off2, addr_off2] at k3
    have hu : u3 = .slice l[i].bA l[i].bl.length l[i].bc := by
      have := k3.symm.trans q3
      simpa using this
    subst hu
    rcases open_ints hb hte c4 g3 with ⟨hc0, _⟩ | ⟨a2, len2, cap2, zs, hc0, _, hl2, hm2, hz2, hx2, _⟩
    · simp at hc0
      rw [hc0.2.1]; simp
    · simp at hc0
      obtain ⟨_, hl3, _⟩ := hc0
      simp only [if_true] at hz2
      have m1 : ((lits .u8 (zs.take len2) : List (DataW H)).length + (lits .u8 (zs.drop len2) : List (DataW H)).length) * P.bytesOf te ∈ (y3.1).weights P tb := by
        rw [hx2]; simp [DataW.weights, hb]
      have m2 := DataW.weights_mem_each (ts := (#[f0, f1, f2, f3] : Array Field).toList.map (·.type)) (ds := ys.map (·.1)) (j := 3) (t := tb) (d := y3.1) (by simp [hft]) (by simp [hy3]) _ m1
      have m3 : ((lits .u8 (zs.take len2) : List (DataW H)).length + (lits .u8 (zs.drop len2) : List (DataW H)).length) * P.bytesOf te ∈ (D i).weights P e := by
        injection hy with hy _
        rw [hy]
        simp only [DataW.weights, he]
        exact m2
      have m4 := weightsAll_mem m3 (l := (List.range l.length).map D) (List.mem_map.2 ⟨i, List.mem_range.2 hi, rfl⟩)
      have m5 : ((lits .u8 (zs.take len2) : List (DataW H)).length + (lits .u8 (zs.drop len2) : List (DataW H)).length) * P.bytesOf te ∈ d0.weights P t := by
        simp only [Prod.mk.injEq] at hx
        rw [hx.1]
        simp only [DataW.weights, ht]
        exact List.mem_cons_of_mem _ (List.mem_append_left _ m4)
      have h := List.all_eq_true.1 hz _ (DataW.weights_mem_each hj hd _ m5)
      simp only [lits, List.length_map, List.length_take, List.length_drop, hby, reachBytes, decide_eq_true_eq] at h
      omega
theorem nops_few {t e : TypeId} (ht : P.underlying t = some (.slice e)) (hb : P.bytesOf e = 48) {W : World} {a : Option Addr} {l : List NOp} {cap : Nat} {d0 : DataW H} {p : List MemPlace}
    (h0 : DataW.Trod enc P W 0 (fun _ => true) true t (.slice a l.length cap) d0 p) {tys : List TypeId} {ds : List (DataW H)} (hz : (DataW.weightsEach P tys ds).all (· ≤ reachBytes) = true) (j : Nat) (hj : tys[j]? = some t) (hd : ds[j]? = some d0) : l.length ≤ 140737488351232 := by
  obtain ⟨fuel, hf⟩ := h0
  rcases open_slice ht hf with ⟨hcs, hx⟩ | ⟨a', len', cap', m, n, D, Pl, hcs, _, hl1, hm, hmm, hx, hcell⟩
  · simp [Value.cells] at hcs
    obtain ⟨_, h1, _⟩ := hcs
    subst h1
    exact Nat.zero_le _
  · simp [Value.cells] at hcs
    obtain ⟨rfl, rfl, rfl⟩ := hcs
    simp only [Prod.mk.injEq] at hx
    obtain ⟨rfl, _⟩ := hx
    have h := sized_slice hz hj hd ht
    rw [hb] at h
    simp only [List.length_map, List.length_range, reachBytes] at h
    omega
end
end Go.Proofs.Ytbmadhmcnjcdfaa
