/- An argument of type []int. No function of the program. -/
import Derived.Test.YtcbnankocjlobaaOpen
set_option linter.unusedSimpArgs false
set_option linter.unusedVariables false
namespace Go.Proofs.Ytcbnankocjlobaa
open Go.ChangeShapes Go.WideShapes Go.ChangeAt Go.RowKit Go.Base
variable {H : Type} {enc : TypeId × Value → H} {P : Program}

def Nums (w : World) (p : Option Addr) (l : List Int) : Prop := ∀ (i : Nat) (h : i < l.length), ∃ b o, p = some ⟨b, o, none⟩ ∧ w.cell? ⟨b, o + i, none⟩ = some (.int .i64 l[i]) ∧ -9223372036854775808 ≤ l[i] ∧ l[i] ≤ 9223372036854775807
theorem Nums.later {w w' : World} {p : Option Addr} {l : List Int} (h : Nums w p l) (hb : Below w.heap.size w w') : Nums w' p l := fun i hi => by
  obtain ⟨b, o, e, c, m⟩ := h i hi
  exact ⟨b, o, e, cell_later hb c, m⟩
theorem open_nums {t e : TypeId} (ht : P.underlying t = some (.slice e)) (he : P.underlying e = some (.int .i64)) (hc : P.cellsOf e = 1) {W : World} {b0 : Nat} {v : Value} {d0 : DataW H} {p : List MemPlace}
    (hv : Value.okWide P W .any b0 t v) (h0 : DataW.Trod enc P W 0 (fun _ => true) true t v d0 p) :
    ∃ (a : Option Addr) (l : List Int) (cap : Nat), v = .slice a l.length cap ∧ Nums W a l ∧ l.length ≤ maxLen ∧ l.length ≤ cap ∧ cap ≤ maxLen := by
  obtain ⟨a0, len, cap, rfl⟩ := okWide_slice ht hv
  obtain ⟨fuel, hf⟩ := h0
  rcases open_ints ht he hc hf with ⟨hcs, hx⟩ | ⟨a, len', cap', zs, hcs, _, hl, hm, hz, hx, hcell, hwz⟩
  · simp [Value.cells] at hcs
    obtain ⟨rfl, rfl, rfl⟩ := hcs
    exact ⟨none, [], 0, rfl, (fun i hi => by cases hi), Nat.zero_le _, Nat.le_refl _, Nat.zero_le _⟩
  · simp [Value.cells] at hcs
    obtain ⟨rfl, rfl, rfl⟩ := hcs
    simp only [if_true] at hz
    have hlen : (zs.take len).length = len := by rw [List.length_take]; omega
    refine ⟨some a, zs.take len, cap, by rw [hlen], ?_, by rw [hlen]; omega, by rw [hlen]; exact hl, hm⟩
    intro i hi
    rw [hlen] at hi
    have hc0 := hcell i (by omega)
    have hw := bounds_i64 (hwz zs[i] (List.getElem_mem _))
    obtain ⟨b, o, s⟩ := a
    obtain rfl : s = none := by simpa [Addr.add] using World.cell?_spot (hcell 0 (by omega))
    have e1 : (⟨b, o, none⟩ : Addr).add i = ⟨b, o + i, none⟩ := by unfold Addr.add; split <;> simp_all
    have e2 : zs.getD i 0 = zs[i]'(by omega) := by simp [List.getD, show i < zs.length by omega]
    rw [e1, e2] at hc0
    have e3 : (zs.take len)[i]'(by rw [hlen]; exact hi) = zs[i]'(by omega) := by simp
    exact ⟨b, o, rfl, by rw [e3]; exact hc0, by rw [e3]; exact hw.1, by rw [e3]; exact hw.2⟩
end Go.Proofs.Ytcbnankocjlobaa
