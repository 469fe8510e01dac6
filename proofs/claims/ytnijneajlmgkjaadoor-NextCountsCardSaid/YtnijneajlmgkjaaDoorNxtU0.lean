/- The days of a year, one by one. No walk. -/
import Derived.Test.YtnijneajlmgkjaaDoorNxtRe
set_option linter.unusedSimpArgs false
set_option linter.unusedVariables false
namespace Go.Proofs.YtnijneajlmgkjaaDoor
open Go.ChangeShapes Go.WideShapes Go.ChangeAt Go.RowKit Go.Base Go.Cro Go.Civ Go.Nxt

def yDay (s : Sp) (y : Int) (i : Nat) : Bool := (List.range 12).any fun kk => decide (cum y kk ≤ (i : Int)) && decide ((i : Int) < cum y (kk + 1)) && (mdays s (y * 12 + (kk : Int))).testBit ((i : Int) - cum y kk + 1).toNat
def yT (s : Sp) (y : Int) : Nat → Nat
  | 0 => 0
  | j + 1 => yT s y j + if yDay s y j then 1 else 0
theorem cum_uniq {y : Int} {a b : Nat} {i : Int} (h1 : cum y a ≤ i) (h2 : i < cum y (a + 1)) (h3 : cum y b ≤ i) (h4 : i < cum y (b + 1)) : a = b := by
  rcases Nat.lt_trichotomy a b with h | h | h
  · have := cum_mono y (a + 1) b (by omega); omega
  · exact h
  · have := cum_mono y (b + 1) a (by omega); omega
theorem yDay_at (s : Sp) (y : Int) {kk i : Nat} (hk : kk < 12) (h1 : cum y kk ≤ (i : Int)) (h2 : (i : Int) < cum y (kk + 1)) : yDay s y i = (mdays s (y * 12 + (kk : Int))).testBit ((i : Int) - cum y kk + 1).toNat := by
  unfold yDay
  rw [Bool.eq_iff_iff, List.any_eq_true]
  constructor
  · rintro ⟨b, hb, h⟩
    simp only [Bool.and_eq_true, decide_eq_true_eq] at h
    have := cum_uniq h.1.1 h.1.2 h1 h2
    subst this
    exact h.2
  · intro h
    exact ⟨kk, List.mem_range.2 hk, by simp only [Bool.and_eq_true, decide_eq_true_eq]; exact ⟨⟨h1, h2⟩, h⟩⟩
theorem yDay_out (s : Sp) (y : Int) {i : Nat} (h : cum y 12 ≤ (i : Int)) : yDay s y i = false := by
  cases hh : yDay s y i with
  | false => rfl
  | true =>
    exfalso
    unfold yDay at hh
    rw [List.any_eq_true] at hh
    obtain ⟨b, hb, h9⟩ := hh
    simp only [Bool.and_eq_true, decide_eq_true_eq] at h9
    have hb := List.mem_range.1 hb
    have := cum_mono y (b + 1) 12 (by omega)
    omega
theorem yT_month (s : Sp) (y : Int) {kk c : Nat} (hk : kk < 12) (hc : (c : Int) = cum y kk) (h0 : yT s y c = DB s (y * 12) kk) : ∀ v : Nat, (v : Int) ≤ len y ((kk : Int) + 1) → yT s y (c + v) = DB s (y * 12) kk + pc (mdays s (y * 12 + (kk : Int)) % 2 ^ (v + 1))
  | 0, _ => by
    have hz : (mdays s (y * 12 + (kk : Int))).testBit 0 = false := by
      cases h : (mdays s (y * 12 + (kk : Int))).testBit 0 with
      | false => rfl
      | true => have := ((mdays_in s _).2 0 h).1; omega
    have e := ups_mod_succ (mdays s (y * 12 + (kk : Int))) 0 (by omega)
    rw [hz, Nat.pow_zero, Nat.mod_one, ups_zero] at e
    have e2 : pc (mdays s (y * 12 + (kk : Int)) % 2 ^ (0 + 1)) = 0 := by unfold pc; rw [e]; rfl
    rw [Nat.add_zero, h0, e2]; rfl
  | v + 1, hv => by
    have hl := len_bd y ((kk : Int) + 1)
    have hcs : cum y (kk + 1) = cum y kk + len y ((kk : Int) + 1) := rfl
    have ih := yT_month s y hk hc h0 v (by omega)
    rw [show c + (v + 1) = (c + v) + 1 by omega]
    simp only [yT]
    rw [ih, yDay_at s y (i := c + v) hk (by omega) (by omega), show (((c + v : Nat) : Int) - cum y kk + 1).toNat = v + 1 by omega]
    have e := ups_mod_succ (mdays s (y * 12 + (kk : Int))) (v + 1) (by omega)
    have e2 : pc (mdays s (y * 12 + (kk : Int)) % 2 ^ (v + 1 + 1)) = pc (mdays s (y * 12 + (kk : Int)) % 2 ^ (v + 1)) + if (mdays s (y * 12 + (kk : Int))).testBit (v + 1) then 1 else 0 := by
      unfold pc
      rw [e, List.length_append]
      split <;> rfl
    rw [e2]
    omega
theorem yT_full (s : Sp) (y : Int) (h1 : 1 ≤ y) (h2 : y ≤ 9999) : ∀ kk : Nat, kk ≤ 12 → yT s y (cum y kk).toNat = DB s (y * 12) kk
  | 0, _ => by simp [cum, yT, DB]
  | kk + 1, hk => by
    have hb := cum_bd y kk
    have hl := len_bd y ((kk : Int) + 1)
    have ih := yT_full s y h1 h2 kk (by omega)
    have hcs : cum y (kk + 1) = cum y kk + len y ((kk : Int) + 1) := rfl
    have h := yT_month s y (c := (cum y kk).toNat) (by omega) (by omega) ih (len y ((kk : Int) + 1)).toNat (by omega)
    rw [show (cum y (kk + 1)).toNat = (cum y kk).toNat + (len y ((kk : Int) + 1)).toNat by omega, h]
    simp only [DB]
    have e1 : (y * 12 + (kk : Int)) / 12 = y := by omega
    have e2 : (y * 12 + (kk : Int)) % 12 + 1 = (kk : Int) + 1 := by omega
    have e : mdays s (y * 12 + (kk : Int)) % 2 ^ ((len y ((kk : Int) + 1)).toNat + 1) = mdays s (y * 12 + (kk : Int)) := by
      refine Nat.mod_eq_of_lt (Nat.lt_pow_two_of_testBit _ (fun i hi => ?_))
      cases h9 : (mdays s (y * 12 + (kk : Int))).testBit i with
      | false => rfl
      | true =>
        exfalso
        have := ((mdays_in s (y * 12 + (kk : Int))).2 i h9).2
        rw [e1, e2] at this
        omega
    rw [e]
theorem yT_end (s : Sp) (y : Int) (h1 : 1 ≤ y) (h2 : y ≤ 9999) : yT s y 366 = DB s (y * 12) 12 := by
  have hb := cum_bd y 12
  have h : ∀ d : Nat, yT s y ((cum y 12).toNat + d) = DB s (y * 12) 12 := fun d => by
    induction d with
    | zero => exact yT_full s y h1 h2 12 (by omega)
    | succ d ih =>
      rw [show (cum y 12).toNat + (d + 1) = ((cum y 12).toNat + d) + 1 by omega]
      simp only [yT]
      rw [ih, yDay_out s y (by omega)]
      rfl
  have h366 : cum y 12 ≤ 366 := by
    have h9 := ah_succ y
    unfold ah at h9
    omega
  have := h (366 - (cum y 12).toNat)
  rw [show (cum y 12).toNat + (366 - (cum y 12).toNat) = 366 by omega] at this
  exact this
theorem yT_le (s : Sp) (y : Int) : ∀ j, yT s y j ≤ j
  | 0 => Nat.le_refl _
  | j + 1 => by have := yT_le s y j; simp only [yT]; split <;> omega
end Go.Proofs.YtnijneajlmgkjaaDoor
