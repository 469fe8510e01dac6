/- An argument that is a slice of structs whose fields are all ints, opened. No function of the program. -/
import Derived.Test.YtllkallodgbpmaaOpen
import Derived.Deep.Slices
import Derived.Deep.Fields
import Derived.Deep.Strs
import Derived.ChangeSame
import Derived.SizedLaws
set_option linter.unusedSimpArgs false
set_option linter.unusedVariables false
namespace Go.Proofs.Ytllkallodgbpmaa
open Go.ChangeShapes Go.WideShapes Go.ChangeAt Go.RowKit Go.Base Go.Deep

/-- Structs of m ints, one behind the other. -/
def IRows (w : World) (A : Option Addr) (m : Nat) (l : List (Nat → Int)) : Prop :=
  ∀ (i : Nat) (h : i < l.length), ∃ g o, A = some ⟨g, o, none⟩ ∧ ∀ j, j < m → w.cell? ⟨g, o + i * m + j, none⟩ = some (.int .i64 (l[i] j)) ∧ -9223372036854775808 ≤ l[i] j ∧ l[i] j ≤ 9223372036854775807
theorem IRows.later {w w' : World} {A : Option Addr} {m : Nat} {l : List (Nat → Int)} (h : IRows w A m l) (hb : Below w.heap.size w w') : IRows w' A m l := fun i hi => by
  obtain ⟨g, o, e, hc⟩ := h i hi
  exact ⟨g, o, e, fun j hj => ⟨cell_later hb (hc j hj).1, (hc j hj).2⟩⟩
theorem addr_off3 (b o j : Nat) : (⟨b, o, none⟩ : Addr).add j = ⟨b, o + j, none⟩ := by unfold Addr.add; split <;> simp_all
section
variable {H : Type} {enc : TypeId × Value → H} {P : Program}
theorem open_irows {t e ti : TypeId} {fs : Array Field} {m : Nat} (ht : P.underlying t = some (.slice e)) (he : P.underlying e = some (.struct fs)) (hC : P.cellsOf e = m) (hm0 : 0 < m) (hsz : fs.size = m)
    (hall : ((List.range m).all fun j => match fs[j]? with | some f => f.offset == j && f.type == ti | none => false) = true) (hi : P.underlying ti = some (.int .i64)) (c1 : P.cellsOf ti = 1)
    {W : World} {b0 : Nat} {v : Value} {d0 : DataW H} {p : List MemPlace}
    (hv : Value.okWide P W .any b0 t v) (h0 : DataW.Trod enc P W 0 (fun _ => true) true t v d0 p) :
    ∃ (a : Option Addr) (l : List (Nat → Int)) (cap : Nat), v = .slice a l.length cap ∧ IRows W a m l ∧ l.length ≤ maxLen := by
  obtain ⟨a0, len, cap, rfl⟩ := okWide_slice ht hv
  obtain ⟨fuel, hf⟩ := h0
  rcases open_slice ht hf with ⟨hcs, hx⟩ | ⟨a, len', cap', mm, n, D, Pl, hcs, _, hl1, hm, hmm, hx, hcell⟩
  · simp [Value.cells] at hcs
    obtain ⟨rfl, rfl, rfl⟩ := hcs
    exact ⟨none, [], 0, rfl, fun i hi => absurd hi (Nat.not_lt_zero _), Nat.zero_le _⟩
  · simp [Value.cells] at hcs
    obtain ⟨rfl, rfl, rfl⟩ := hcs
    simp only [if_true] at hmm
    have hspot : 0 < len → a.spot = none := fun h0 => by
      obtain ⟨cs', hc, _⟩ := hcell 0 (by omega)
      rw [hC] at hc
      obtain ⟨_, hcl, hat⟩ := World.cells?_some hc
      have h0' := hat 0 (by omega)
      rw [Nat.zero_mul] at h0'
      cases cs' with
      | nil => simp at hcl; omega
      | cons u r => exact World.cell?_spot h0'
    have each : ∀ i, i < len → ∃ x : Nat → Int, a.spot = none ∧ ∀ j, j < m → W.cell? ⟨a.block, a.off + i * m + j, none⟩ = some (.int .i64 (x j)) ∧ -9223372036854775808 ≤ x j ∧ x j ≤ 9223372036854775807 := fun i hil => by
      obtain ⟨cs', hc, ht'⟩ := hcell i (by omega)
      rw [hC] at hc
      obtain ⟨ys, n', hn', hy, hlen, hyl, hf⟩ := DataW.trod_struct he ht'
      obtain ⟨_, hcl, hat⟩ := World.cells?_some hc
      have hsp : a.spot = none := hspot (by omega)
      have one : ∀ j, j < m → ∃ z : Int, W.cell? ⟨a.block, a.off + i * m + j, none⟩ = some (.int .i64 z) ∧ -9223372036854775808 ≤ z ∧ z ≤ 9223372036854775807 := fun j hj => by
        have hjf : j < fs.size := by omega
        have h1 := List.all_eq_true.1 hall j (by simpa using hj)
        rw [Array.getElem?_eq_getElem hjf] at h1
        simp only [Bool.and_eq_true, beq_iff_eq] at h1
        have g := hf j fs[j] (Array.getElem?_eq_getElem hjf)
        rw [h1.1, h1.2, c1] at g
        obtain ⟨y, hyj⟩ : ∃ y, ys[j]? = some y := ⟨ys[j]'(by rw [hyl]; omega), List.getElem?_eq_getElem _⟩
        rw [hyj] at g
        obtain ⟨z, hz, _, hw⟩ := DataW.trod_int hi g
        have bd := bounds_i64 hw
        have k := hat j (by omega)
        have hlc : j < cs'.length := by omega
        have e3 : cs'[j]? = some (.int .i64 z) := by
          have := congrArg (fun l => l[0]?) hz
          simpa [List.getElem?_take, List.getElem?_drop] using this
        obtain ⟨b, o, s⟩ := a
        simp only at hsp
        subst hsp
        rw [addr_off3, addr_off3] at k
        refine ⟨z, ?_, bd.1, bd.2⟩
        rw [k]
        first | exact e3 | (rw [← e3]; simp [hlc])
      obtain ⟨x, hx⟩ := @choose_lt Int ⟨0⟩ m _ one
      exact ⟨x, hsp, hx⟩
    obtain ⟨f, hf⟩ := @choose_lt (Nat → Int) ⟨fun _ => 0⟩ len _ each
    refine ⟨some a, (List.range len).map f, cap, by simp, ?_, by simp; omega⟩
    intro i hil
    have hil' : i < len := by simpa using hil
    obtain ⟨hsp, hk⟩ := hf i hil'
    obtain ⟨b, o, s⟩ := a
    simp only at hsp
    subst hsp
    exact ⟨b, o, rfl, fun j hj => by simpa using hk j hj⟩
end
end Go.Proofs.Ytllkallodgbpmaa
