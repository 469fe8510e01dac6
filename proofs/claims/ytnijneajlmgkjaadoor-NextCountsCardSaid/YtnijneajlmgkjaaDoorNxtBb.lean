/- Walks of package next: the greatest member; each's maker. -/
import Derived.Test.YtnijneajlmgkjaaDoorNxtB
set_option linter.unusedSimpArgs false
set_option linter.unusedVariables false
namespace Go.Proofs.YtnijneajlmgkjaaDoor
open Go.ChangeShapes Go.WideShapes Go.ChangeAt Go.RowKit Go.Base Go.Civ Go.Nxt

theorem TzTab.later {w w' : World} (h : TzTab w) (hb : Below w.heap.size w w') : TzTab w' := fun j hj => by
  have c := h j hj
  rw [hb.cell (World.block_lt_of_cell? w _ c)]; exact c
theorem TzTab.moved {p : Nat → Prop} {w w' : World} (h : TzTab w) (hb : Moved p w w') (hp : ¬ p 1) : TzTab w' := fun j hj => hb.cell (h j hj) hp

def lenTab : List Nat := (List.range 256).map fun i => if i = 0 then 0 else i.log2 + 1
theorem log2_div (n k : Nat) (h : 2 ^ k ≤ n) : (n / 2 ^ k).log2 + k = n.log2 := by
  have hp : 0 < 2 ^ k := Nat.two_pow_pos k
  have h0 : n ≠ 0 := by omega
  have h1 : n / 2 ^ k ≠ 0 := by
    have := (Nat.le_div_iff_mul_le hp).2 (show 1 * 2 ^ k ≤ n by omega)
    omega
  have a := (Nat.log2_eq_iff h1 (k := (n / 2 ^ k).log2)).1 rfl
  symm
  refine (Nat.log2_eq_iff h0).2 ⟨?_, ?_⟩
  · rw [Nat.pow_add]
    exact (Nat.le_div_iff_mul_le hp).1 a.1
  · rw [show (n / 2 ^ k).log2 + k + 1 = ((n / 2 ^ k).log2 + 1) + k by omega, Nat.pow_add]
    exact (Nat.div_lt_iff_lt_mul hp).1 a.2

theorem len_ways (n : Nat) (hn : n < 18446744073709551616) (h0 : n ≠ 0) :
    ∃ (a b c : Bool) (x : Nat), (decide ((4294967296 : Int) ≤ (n : Int))) = a ∧ (decide ((65536 : Int) ≤ (if a then (n : Int) / 4294967296 else n))) = b ∧
      (decide ((256 : Int) ≤ (if b then (if a then (n : Int) / 4294967296 else n) / 65536 else (if a then (n : Int) / 4294967296 else n)))) = c ∧
      (if c then (if b then (if a then (n : Int) / 4294967296 else n) / 65536 else (if a then (n : Int) / 4294967296 else n)) / 256 else (if b then (if a then (n : Int) / 4294967296 else n) / 65536 else (if a then (n : Int) / 4294967296 else n))) = (x : Int) ∧
      x < 256 ∧ x ≠ 0 ∧ n.log2 = x.log2 + (if a then 32 else 0) + (if b then 16 else 0) + (if c then 8 else 0) := by
  have st : ∀ (m k : Nat), m ≠ 0 → ∃ (b : Bool) (m' : Nat), decide (((2 ^ k : Nat) : Int) ≤ (m : Int)) = b ∧ (if b then (m : Int) / ((2 ^ k : Nat) : Int) else m) = (m' : Int) ∧ m' ≠ 0 ∧ m.log2 = m'.log2 + (if b then k else 0) ∧ m' = (if b then m / 2 ^ k else m) ∧ (b = false → m < 2 ^ k) := fun m k hm => by
    by_cases h : 2 ^ k ≤ m
    · refine ⟨true, m / 2 ^ k, by simp; exact_mod_cast h, by simp, ?_, by simp [log2_div m k h], by simp, by simp⟩
      have := (Nat.le_div_iff_mul_le (Nat.two_pow_pos k)).2 (show 1 * 2 ^ k ≤ m by omega)
      omega
    · exact ⟨false, m, by simp; have : m < 2 ^ k := by omega
                          exact_mod_cast this, by simp, hm, by simp, by simp, fun _ => by omega⟩
  obtain ⟨a, m1, ha, h1, n1, l1, e1, f1⟩ := st n 32 h0
  obtain ⟨b, m2, hb, h2, n2, l2, e2, f2⟩ := st m1 16 n1
  obtain ⟨c, m3, hc, h3, n3, l3, e3, f3⟩ := st m2 8 n2
  simp only [Nat.reducePow, show ((4294967296 : Nat) : Int) = 4294967296 from rfl, show ((65536 : Nat) : Int) = 65536 from rfl, show ((256 : Nat) : Int) = 256 from rfl] at ha h1 hb h2 hc h3 e1 e2 e3 f1 f2 f3
  refine ⟨a, b, c, m3, ha, by rw [h1]; exact hb, by rw [h1, h2]; exact hc, by rw [h1, h2]; exact h3, ?_, n3, by omega⟩
  cases a <;> cases b <;> cases c <;> simp at e1 e2 e3 f1 f2 f3 <;> omega
end Go.Proofs.YtnijneajlmgkjaaDoor
