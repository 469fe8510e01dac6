/- Arguments that are slices of structs, opened; the form's reach. No function of the program. -/
import Derived.Test.YtkdfkhebjhnbmaaAppend
import Derived.Deep.Slices
import Derived.Deep.Fields
import Derived.Deep.Strs
import Derived.ChangeSame
import Derived.SizedLaws
import Derived.Deep.MidRow
import Derived.OpenShut
set_option linter.unusedSimpArgs false
set_option linter.unusedVariables false
namespace Go.Proofs.Ytkdfkhebjhnbmaa
open Go.ChangeShapes Go.WideShapes Go.ChangeAt Go.RowKit Go.Base Go.Deep

theorem addr_off4 (b o j : Nat) : (⟨b, o, none⟩ : Addr).add j = ⟨b, o + j, none⟩ := by unfold Addr.add; split <;> simp_all
/-- Elements of m cells, each of which reads as an x. -/
def Elts {α : Type} (m : Nat) (cells : α → List Value) (w : World) (A : Option Addr) (l : List α) : Prop := ∀ (i : Nat) (h : i < l.length), ∃ b o, A = some ⟨b, o, none⟩ ∧ w.rangeAt b (o + i * m) (cells l[i])
section
variable {H : Type} {enc : TypeId × Value → H} {P : Program}
/-- AN ARGUMENT THAT IS A SLICE OF SUCH. -/
theorem open_elts {α : Type} [Inhabited α] {m : Nat} {cells : α → List Value} {ok : α → Prop} {tt t : TypeId} (ht : P.underlying tt = some (.slice t)) (hm0 : 0 < m) (hc : P.cellsOf t = m) (hl : ∀ x, (cells x).length = m)
    {W : World} (hof : ∀ {n : Nat} {cs : List Value} {x : DataW H × List MemPlace}, DataW.trod enc P W 0 (fun _ => true) true n t cs = some x → ∃ a : α, cs = cells a ∧ ok a) {b0 : Nat} {v : Value} {d0 : DataW H} {p : List MemPlace}
    (hv : Value.okWide P W .any b0 tt v) (h0 : DataW.Trod enc P W 0 (fun _ => true) true tt v d0 p) :
    ∃ (a : Option Addr) (l : List α) (cap : Nat), v = .slice a l.length cap ∧ Elts m cells W a l ∧ (∀ x ∈ l, ok x) ∧ l.length ≤ maxLen ∧ l.length ≤ cap ∧ cap ≤ maxLen ∧ (a = none → cap = 0) := by
  obtain ⟨a0, len, cap, rfl⟩ := okWide_slice ht hv
  obtain ⟨fuel, hf⟩ := h0
  rcases open_slice ht hf with ⟨hcs, hx⟩ | ⟨a, len', cap', mm, n, D, Pl, hcs, _, hl1, hm, hmm, hx, hcell⟩
  · simp [Value.cells] at hcs
    obtain ⟨rfl, rfl, rfl⟩ := hcs
    exact ⟨none, [], 0, rfl, fun i hi => absurd hi (Nat.not_lt_zero _), (fun x hx => by cases hx), Nat.zero_le _, Nat.le_refl _, Nat.zero_le _, fun _ => rfl⟩
  · simp [Value.cells] at hcs
    obtain ⟨rfl, rfl, rfl⟩ := hcs
    simp only [if_true] at hmm
    have hspot : 0 < len → a.spot = none := fun h0 => by
      obtain ⟨cs', hcc, _⟩ := hcell 0 (by omega)
      rw [hc] at hcc
      obtain ⟨_, hcl, hat⟩ := World.cells?_some hcc
      have h0' := hat 0 hm0
      rw [Nat.zero_mul] at h0'
      match cs', hcl, hm0 with
      | u0 :: _, _, _ => exact World.cell?_spot h0'
      | [], hcl, h => simp at hcl; omega
    have each : ∀ i, i < len → ∃ x : α, (a.spot = none) ∧ W.rangeAt a.block (a.off + i * m) (cells x) ∧ ok x := fun i hil => by
      obtain ⟨cs', hcc, ht'⟩ := hcell i (by omega)
      rw [hc] at hcc
      obtain ⟨r, rfl, hok⟩ := hof ht'
      obtain ⟨_, hcl, hat⟩ := World.cells?_some hcc
      have hsp : a.spot = none := hspot (by omega)
      have hadd : ∀ j, (a.add (i * m)).add j = ⟨a.block, a.off + i * m + j, none⟩ := fun j => by
        obtain ⟨b, o, s⟩ := a
        simp only at hsp
        subst hsp
        rw [addr_off4, addr_off4]
      refine ⟨r, hsp, fun j v hv => ?_, hok⟩
      have hj : j < (cells r).length := (List.getElem?_eq_some_iff.1 hv).1
      have k0 := hat j (by rw [hl] at hj; exact hj)
      rw [hadd] at k0
      rw [k0, ← hv]
      try simp
    obtain ⟨f, hf⟩ := @choose_lt α _ len _ each
    refine ⟨some a, (List.range len).map f, cap, by simp, ?_, ?_, by simp; omega, by simp; omega, hm, fun h => by cases h⟩
    · intro i hil
      have hil' : i < len := by simpa using hil
      obtain ⟨hsp, hk, _⟩ := hf i hil'
      obtain ⟨b, o, s⟩ := a
      simp only at hsp
      subst hsp
      exact ⟨b, o, rfl, by simpa using hk⟩
    · intro x hx
      obtain ⟨i, hi, rfl⟩ := List.mem_map.1 hx
      exact (hf i (List.mem_range.1 hi)).2.2
theorem elts_few {t e : TypeId} {k : Nat} (ht : P.underlying t = some (.slice e)) (hb : P.bytesOf e = k) {W : World} {a : Option Addr} {n : Nat} {cap : Nat} {d0 : DataW H} {p : List MemPlace}
    (h0 : DataW.Trod enc P W 0 (fun _ => true) true t (.slice a n cap) d0 p) {tys : List TypeId} {ds : List (DataW H)} (hz : (DataW.weightsEach P tys ds).all (· ≤ reachBytes) = true) (j : Nat) (hj : tys[j]? = some t) (hd : ds[j]? = some d0) : n * k ≤ 140737488351232 := by
  obtain ⟨fuel, hf⟩ := h0
  rcases open_slice ht hf with ⟨hcs, hx⟩ | ⟨a', len', cap', m, n', D, Pl, hcs, _, hl1, hm, hmm, hx, hcell⟩
  · simp [Value.cells] at hcs
    rw [hcs.2.1]; omega
  · simp [Value.cells] at hcs
    obtain ⟨rfl, rfl, rfl⟩ := hcs
    simp only [if_true] at hmm
    have m5 : (((List.range n).map D).length + ((List.range (m - n)).map fun j => D (n + j)).length) * P.bytesOf e ∈ d0.weights P t := by
      simp only [Prod.mk.injEq] at hx
      rw [hx.1]
      simp only [DataW.weights, ht]
      exact List.mem_cons_self ..
    have h := List.all_eq_true.1 hz _ (DataW.weights_mem_each hj hd _ m5)
    simp only [List.length_map, List.length_range, hb, reachBytes, decide_eq_true_eq] at h
    have : n * k ≤ (n + (m - n)) * k := Nat.mul_le_mul_right _ (by omega)
    omega
end
end Go.Proofs.Ytkdfkhebjhnbmaa
