/- Slices of bytes and of texts, told by lists; arguments of these types opened; cells of new blocks. No function of the program. -/
import Derived.Test.YtkdfkhebjhnbmaaBase
import Derived.Test.YtkdfkhebjhnbmaaRows
import Derived.SliceStrings
set_option linter.unusedSimpArgs false
set_option linter.unusedVariables false
namespace Go.Proofs.Ytkdfkhebjhnbmaa
open Go.ChangeShapes Go.WideShapes Go.ChangeAt Go.RowKit Go.Base

theorem cell_new (w : World) (cs : Array Value) (t : TypeId) (z : Nat × Nat) (i : Nat) : (w.alloc (.cells cs t z)).cell? ⟨w.heap.size, i, none⟩ = cs[i]? := by
  have h := heap_new w (.cells cs t z)
  unfold World.cell?
  rw [h]
  rfl
theorem cell_later {w w' : World} {a : Addr} {v : Value} (hb : Below w.heap.size w w') (h : w.cell? a = some v) : w'.cell? a = some v := by
  rw [hb.cell (World.block_lt_of_cell? w _ h)]; exact h
theorem cell_old {w : World} {a : Addr} {v : Value} (o : Obj) (h : w.cell? a = some v) : (w.alloc o).cell? a = some v := cell_later (below_alloc w o) h
theorem size_alloc (w : World) (o : Obj) : (w.alloc o).heap.size = w.heap.size + 1 := by simp

/-- The bytes of a slice. -/
def Byt (w : World) (a : Option Addr) (bs : List UInt8) : Prop := ∀ (i : Nat) (h : i < bs.length), ∃ b o, a = some ⟨b, o, none⟩ ∧ w.cell? ⟨b, o + i, none⟩ = some (.int .u8 (bs[i].toNat : Int))
theorem Byt.later {w w' : World} {a : Option Addr} {bs : List UInt8} (h : Byt w a bs) (hb : Below w.heap.size w w') : Byt w' a bs := fun i hi => by
  obtain ⟨b, o, e, c⟩ := h i hi
  exact ⟨b, o, e, cell_later hb c⟩
theorem Byt.alloc {w : World} {a : Option Addr} {bs : List UInt8} (h : Byt w a bs) (o : Obj) : Byt (w.alloc o) a bs := h.later (below_alloc w o)
theorem Byt.nil (w : World) (a : Option Addr) : Byt w a [] := fun i hi => absurd hi (Nat.not_lt_zero _)
theorem byt_new (w : World) (bs : List UInt8) (t : TypeId) (z : Nat × Nat) (cs : Array Value) (h : cs.toList = bs.map fun c => .int .u8 (c.toNat : Int)) : Byt (w.alloc (.cells cs t z)) (some ⟨w.heap.size, 0, none⟩) bs := fun i hi =>
  ⟨w.heap.size, 0, rfl, by rw [Nat.zero_add, cell_new, ← Array.getElem?_toList, h]; simp [hi]⟩

/-- The texts of a slice. -/
def Strs (w : World) (p : Option Addr) (l : List (List UInt8)) : Prop := ∀ (i : Nat) (h : i < l.length), ∃ b o, p = some ⟨b, o, none⟩ ∧ w.cell? ⟨b, o + i, none⟩ = some (.string ⟨l[i].toArray⟩) ∧ l[i].length ≤ maxLen
theorem Strs.later {w w' : World} {p : Option Addr} {l : List (List UInt8)} (h : Strs w p l) (hb : Below w.heap.size w w') : Strs w' p l := fun i hi => by
  obtain ⟨b, o, e, c, m⟩ := h i hi
  exact ⟨b, o, e, cell_later hb c, m⟩
theorem strs_one (w : World) (t : TypeId) (x : List UInt8) (hx : x.length ≤ maxLen) : Strs (w.alloc (.cells #[.string ⟨x.toArray⟩] t)) (some ⟨w.heap.size, 0, none⟩) [x] := fun i hi => by
  match i, hi with
  | 0, _ => exact ⟨w.heap.size, 0, rfl, by rw [Nat.zero_add, cell_new]; rfl, hx⟩

theorem bulk_lits {H : Type} (k : IntKind) (zs : List Int) : Rows.uptoBulkAll (H := H) (lits k zs) = zs.length := by
  induction zs with
  | nil => rfl
  | cons z zs ih => simp only [lits, List.map_cons, Rows.uptoBulkAll, Rows.uptoBulk, List.length_cons] at ih ⊢; omega

section
variable {H : Type} {enc : TypeId × Value → H} {P : Program}

/-- AN ARGUMENT OF TYPE []byte. -/
theorem open_byt {t e : TypeId} (ht : P.underlying t = some (.slice e)) (he : P.underlying e = some (.int .u8)) (hc : P.cellsOf e = 1) {W : World} {b0 : Nat} {v : Value} {d0 : DataW H} {p : List MemPlace}
    (hv : Value.okWide P W .any b0 t v) (h0 : DataW.Trod enc P W 0 (fun _ => true) true t v d0 p) :
    ∃ (a : Option Addr) (bs : List UInt8) (cap : Nat), v = .slice a bs.length cap ∧ Byt W a bs ∧ bs.length ≤ maxLen ∧ bs.length ≤ cap ∧ cap ≤ maxLen ∧ bs.length + 1 ≤ Rows.uptoBulk d0 ∧ (a = none → cap = 0) := by
  obtain ⟨a0, len, cap, rfl⟩ := okWide_slice ht hv
  obtain ⟨fuel, hf⟩ := h0
  rcases open_ints ht he hc hf with ⟨hcs, hx⟩ | ⟨a, len', cap', zs, hcs, _, hl, hm, hz, hx, hcell, hwz⟩
  · simp [Value.cells] at hcs
    obtain ⟨rfl, rfl, rfl⟩ := hcs
    simp only [Prod.mk.injEq] at hx
    obtain ⟨rfl, rfl⟩ := hx
    exact ⟨none, [], 0, rfl, Byt.nil _ _, Nat.zero_le _, Nat.le_refl _, Nat.zero_le _, Nat.le_refl _, fun _ => rfl⟩
  · simp [Value.cells] at hcs
    obtain ⟨rfl, rfl, rfl⟩ := hcs
    simp only [Prod.mk.injEq] at hx
    obtain ⟨rfl, rfl⟩ := hx
    simp only [if_true] at hz
    have hlen : ((zs.take len).map fun n => UInt8.ofNat n.toNat).length = len := by simp; omega
    refine ⟨some a, (zs.take len).map fun n => UInt8.ofNat n.toNat, cap, by rw [hlen], ?_, by rw [hlen]; omega, by rw [hlen]; exact hl, hm, ?_, fun h => nomatch h⟩
    · intro i hi
      rw [hlen] at hi
      have hc0 := hcell i (by omega)
      have hw := hwz zs[i] (List.getElem_mem _)
      have hb := bounds_u8 hw
      obtain ⟨b, o, s⟩ := a
      obtain rfl : s = none := by simpa [Addr.add] using World.cell?_spot (hcell 0 (by omega))
      refine ⟨b, o, rfl, ?_⟩
      have e1 : (⟨b, o, none⟩ : Addr).add i = ⟨b, o + i, none⟩ := by unfold Addr.add; split <;> simp_all
      rw [e1] at hc0
      rw [hc0]
      have e2 : zs.getD i 0 = zs[i]'(by omega) := by simp [List.getD, show i < zs.length by omega]
      rw [e2]
      simp
      omega
    · rw [hlen]
      simp only [Rows.uptoBulk, bulk_lits]
      simp
      omega

/-- AN ARGUMENT OF TYPE []string. -/
theorem open_strs {t e : TypeId} (ht : P.underlying t = some (.slice e)) (he : P.underlying e = some .string) (hc : P.cellsOf e = 1) {W : World} {b0 : Nat} {v : Value} {d0 : DataW H} {p : List MemPlace}
    (hv : Value.okWide P W .any b0 t v) (h0 : DataW.Trod enc P W 0 (fun _ => true) true t v d0 p) :
    ∃ (a : Option Addr) (l : List (List UInt8)) (cap : Nat), v = .slice a l.length cap ∧ Strs W a l ∧ l.length ≤ maxLen := by
  obtain ⟨a0, len, cap, rfl⟩ := okWide_slice ht hv
  obtain ⟨fuel, hf⟩ := h0
  rcases open_strings ht he hc hf with ⟨hcs, hx⟩ | ⟨a, len', cap', zs, hcs, _, hl, hm, hz, hx, hcell, hwz⟩
  · simp [Value.cells] at hcs
    obtain ⟨rfl, rfl, rfl⟩ := hcs
    exact ⟨none, [], 0, rfl, fun i hi => absurd hi (Nat.not_lt_zero _), Nat.zero_le _⟩
  · simp [Value.cells] at hcs
    obtain ⟨rfl, rfl, rfl⟩ := hcs
    simp only [if_true] at hz
    have hlen : ((zs.take len).map fun s => s.data.toList).length = len := by simp; omega
    refine ⟨some a, (zs.take len).map fun s => s.data.toList, cap, by rw [hlen], ?_, by rw [hlen]; omega⟩
    intro i hi
    rw [hlen] at hi
    have hc0 := hcell i (by omega)
    have hw := hwz zs[i] (List.getElem_mem _)
    obtain ⟨b, o, s⟩ := a
    obtain rfl : s = none := by simpa [Addr.add] using World.cell?_spot (hcell 0 (by omega))
    have e1 : (⟨b, o, none⟩ : Addr).add i = ⟨b, o + i, none⟩ := by unfold Addr.add; split <;> simp_all
    rw [e1] at hc0
    have e2 : zs.getD i ByteArray.empty = zs[i]'(by omega) := by simp [List.getD, show i < zs.length by omega]
    rw [e2] at hc0
    refine ⟨b, o, rfl, ?_, ?_⟩
    · rw [hc0]; simp
    · simpa using hw
end
end Go.Proofs.Ytkdfkhebjhnbmaa
