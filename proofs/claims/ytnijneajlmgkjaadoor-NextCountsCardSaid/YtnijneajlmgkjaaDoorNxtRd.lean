/- Walks of the reference: does a date's day match (reveilleref02.Day)? -/
import Derived.Test.YtnijneajlmgkjaaDoorNxtK
set_option linter.unusedSimpArgs false
set_option linter.unusedVariables false
namespace Go.Proofs.YtnijneajlmgkjaaDoor
open Go.ChangeShapes Go.WideShapes Go.ChangeAt Go.RowKit Go.Base Go.Cro Go.Civ Go.Nxt

theorem has_rem {b v : Int} (hb : U64 b) (h0 : 0 ≤ v) : decide (b / 2 ^ v.toNat % 2 = 1) = hasB b v := by
  obtain ⟨n, rfl⟩ : ∃ n : Nat, b = (n : Int) := ⟨b.toNat, by have := hb.1; omega⟩
  obtain ⟨k, rfl⟩ : ∃ k : Nat, v = (k : Int) := ⟨v.toNat, by omega⟩
  have hn : n < 18446744073709551616 := by have := hb.2; omega
  rw [hasB_test n k hn, Nat.testBit_eq_decide_div_mod_eq]
  have e : (n : Int) / 2 ^ ((k : Nat) : Int).toNat = ((n / 2 ^ k : Nat) : Int) := by rw [Int.toNat_natCast, Int.natCast_ediv, Int.natCast_pow]; rfl
  rw [e]
  by_cases h : n / 2 ^ k % 2 = 1
  · rw [decide_eq_true h]
    have : ((n / 2 ^ k : Nat) : Int) % 2 = 1 := by omega
    rw [this]; rfl
  · rw [decide_eq_false h]
    have : ((n / 2 ^ k : Nat) : Int) % 2 = 0 := by omega
    rw [this]; rfl

set_option maxHeartbeats 4000000 in
theorem refDay_any (s : Sp) (hs : SpOk s) (y m d h mi se wk : Int) (w : World) (hd : 1 ≤ d) (hd' : d ≤ 31) (hw : 0 ≤ wk) (hw' : wk ≤ 6) :
    Calls Tryd.prog 58 #[spV s, .agg #[.int .i64 y, .int .i64 m, .int .i64 d, .int .i64 h, .int .i64 mi, .int .i64 se, .int .i64 wk]] w fun e w' => e = .returned (.bool (dayB s d wk)) ∧ Below w.heap.size w w' := by
  have e1 := has_rem hs.da (v := d) (by omega)
  have e2 := has_rem hs.we (v := wk) hw
  have hDy : dayB s d wk = if s.ad || s.aw then decide (s.da / 2 ^ d.toNat % 2 = 1) && decide (s.we / 2 ^ wk.toNat % 2 = 1) else decide (s.da / 2 ^ d.toNat % 2 = 1) || decide (s.we / 2 ^ wk.toNat % 2 = 1) := by rw [e1, e2]; rfl
  obtain ⟨_, _, ⟨a1, a2⟩, _, ⟨b1, b2⟩⟩ := hs
  rw [hDy]
  clear hDy e1 e2
  obtain ⟨smi, sho, sda, smo, swe, ad, aw⟩ := s
  simp only at a1 a2 b1 b2
  simp only [spV]
  have q1 : (0 : Int) ≤ sda / 2 ^ d.toNat := Int.ediv_nonneg a1 (Int.le_of_lt (Int.pow_pos (by decide)))
  have q2 : (0 : Int) ≤ swe / 2 ^ wk.toNat := Int.ediv_nonneg b1 (Int.le_of_lt (Int.pow_pos (by decide)))
  cases ad <;> cases aw <;> by_cases hA : sda / 2 ^ d.toNat % 2 = 1 <;> by_cases hB : swe / 2 ^ wk.toNat % 2 = 1
  all_goals
    go_enter Tryd.func58, Tryd.ntmps58
    go_wp2
    go_quiet (fail)
    go_wp2
    go_ret
    refine ⟨?_, below_drewN ((below_alloc w _).alloc (below_alloc w _).size _) _⟩
    first | (simp only [hA, hB, decide_true, decide_false]; rfl) | (go_simp; done) | (simp [hA, hB]; done) | (go_simp; trace_state)
end Go.Proofs.YtnijneajlmgkjaaDoor
