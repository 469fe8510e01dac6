/- What Matches answers: whether the minute is a moment. -/
import Derived.Test.YtnijneajlmgkjaaDoorNxtS
set_option linter.unusedSimpArgs false
set_option linter.unusedVariables false
namespace Go.Proofs.YtnijneajlmgkjaaDoor
open Go.ChangeShapes Go.WideShapes Go.ChangeAt Go.RowKit Go.Base Go.Civ Go.Nxt Go.Cro

theorem matchB_mt {s : Sp} (hs : SpOk s) {H M : Nat} (hM : s.mi = M) (hH : s.ho = H) (uH : Under H 24) (uM : Under M 60) {t n y : Int} {k : Nat} {sec : Int} (h : At t n y k sec) :
    matchB s (sec % 3600 / 60) (sec / 3600) ((k : Int) + 1) (n + 719162 - ah y - cum y k + 1) (wd n) = true ↔ Mt s H M (t - t % 60) := by
  obtain ⟨d1, d2, w1, w2, h1, h2, m1, m2⟩ := at_date h
  obtain ⟨dd, ed⟩ : ∃ dd : Nat, n + 719162 - ah y - cum y k + 1 = dd := ⟨(n + 719162 - ah y - cum y k + 1).toNat, by omega⟩
  obtain ⟨hh, eh⟩ : ∃ hh : Nat, sec / 3600 = hh := ⟨(sec / 3600).toNat, by omega⟩
  obtain ⟨mi, em⟩ : ∃ mi : Nat, sec % 3600 / 60 = mi := ⟨(sec % 3600 / 60).toNat, by omega⟩
  obtain ⟨f1, f2, f3⟩ := At.first h ed
  have hday := h.day
  have hs0 := h.s0
  have hs1 := h.s1
  have hy0 := h.y0
  have hy1 := h.y1
  have hk := h.k1
  rw [ed, eh, em]
  have et : t - t % 60 = midA (y * 12 + ((k : Int) + 1) - 1) dd + (hh : Int) * 3600 + (mi : Int) * 60 + 0 := by rw [f1]; omega
  rw [et, mt_at uH uM (by omega) (by omega) f2 f3 (by omega) (by omega) (by omega) (by omega)]
  have e1 : (y * 12 + ((k : Int) + 1) - 1) / 12 = y := by omega
  have e2 : (y * 12 + ((k : Int) + 1) - 1) % 12 + 1 = (k : Int) + 1 := by omega
  have en : num y ((k : Int) + 1) dd = n := by
    have h9 := f1
    unfold midA at h9
    rw [e1, e2] at h9
    omega
  have hl : (dd : Int) ≤ len y ((k : Int) + 1) := by have h9 := f3; unfold ln at h9; rw [e1, e2] at h9; exact h9
  have hD : (mdays s (y * 12 + ((k : Int) + 1) - 1)).testBit dd = (hasB s.mo ((k : Int) + 1) && dayB s dd (wd n)) := by
    unfold mdays
    rw [e1, e2]
    by_cases hb : hasB s.mo ((k : Int) + 1) = true
    · rw [if_pos ⟨by omega, by omega, hb⟩, dset_test, hb]
      have c1 : decide (1 ≤ dd) = true := decide_eq_true f2
      have c2 : decide (dd ≤ (len y ((k : Int) + 1)).toNat) = true := decide_eq_true (by omega)
      rw [c1, c2]
      show (true && true && dayB s (dd : Int) (wd (num y ((k : Int) + 1) dd))) = _
      rw [en]; rfl
    · rw [if_neg (fun h => hb h.2.2)]
      have : hasB s.mo ((k : Int) + 1) = false := by cases h9 : hasB s.mo ((k : Int) + 1); rfl; exact absurd h9 hb
      rw [this]; simp
  rw [hD]
  have hH64 : H < 18446744073709551616 := by have := hs.ho.2; omega
  have hM64 : M < 18446744073709551616 := by have := hs.mi.2; omega
  unfold matchB
  rw [hM, hH, hasB_test _ _ hM64, hasB_test _ _ hH64]
  simp only [Bool.and_eq_true, true_and]
  constructor
  · rintro ⟨⟨⟨a, b⟩, c⟩, d⟩; exact ⟨⟨c, d⟩, b, a⟩
  · rintro ⟨⟨c, d⟩, b, a⟩; exact ⟨⟨⟨a, b⟩, c⟩, d⟩
/-- What Matches answers, of any second. -/
theorem matches_all (s : Sp) (hs : SpOk s) (H M : Nat) (hM : s.mi = M) (hH : s.ho = H) (uH : Under H 24) (uM : Under M 60) :
    ∃ g : Int → Bool, (∀ z w, Vars w → Calls Tryd.prog 11 #[spV s, .int .i64 z] w fun e w' => e = .returned (.bool (g z)) ∧ Below w.heap.size w w') ∧ ∀ z, g z = true ↔ Mt s H M (z - z % 60) := by
  have h : ∀ z : Int, ∃ b : Bool, (∀ w, Vars w → Calls Tryd.prog 11 #[spV s, .int .i64 z] w fun e w' => e = .returned (.bool b) ∧ Below w.heap.size w w') ∧ (b = true ↔ Mt s H M (z - z % 60)) := fun z => by
    by_cases hr : -62135596800 ≤ z ∧ z ≤ 253402300799
    · obtain ⟨n, y, k, sec, A⟩ := at_of z hr.1 hr.2
      exact ⟨_, fun w hv => matches_at s hs z n y k sec w hv.tab A, matchB_mt hs hM hH uH uM A⟩
    · refine ⟨false, fun w hv => matches_no s z w (by omega), ⟨fun h => (by cases h), fun h => ?_⟩⟩
      have := mt_bd uH uM h
      omega
  exact ⟨fun z => (h z).choose, fun z => (h z).choose_spec.1, fun z => (h z).choose_spec.2⟩
/-- The law's own spec, behind calls. -/
theorem sp_cells {smi sho sda smo swe : Int} {ad aw : Bool} {w V : World} (hV : Below (w.alloc (.cells (specC smi sho sda smo swe ad aw) 24 (0, 0))).heap.size (w.alloc (.cells (specC smi sho sda smo swe ad aw) 24 (0, 0))) V) :
    V.cell? ⟨w.heap.size, 0, none⟩ = some (.int .u64 smi) ∧ V.cell? ⟨w.heap.size, 1, none⟩ = some (.int .u64 sho) ∧ V.cell? ⟨w.heap.size, 2, none⟩ = some (.int .u64 sda) ∧ V.cell? ⟨w.heap.size, 3, none⟩ = some (.int .u64 smo) ∧ V.cell? ⟨w.heap.size, 4, none⟩ = some (.int .u64 swe) ∧ V.cell? ⟨w.heap.size, 5, none⟩ = some (.bool ad) ∧ V.cell? ⟨w.heap.size, 6, none⟩ = some (.bool aw) := by
  have hg0 := heap_new w (.cells (specC smi sho sda smo swe ad aw) 24 (0, 0))
  obtain ⟨q1, _⟩ := cells_of_heap hg0
  exact ⟨cell_later hV (q1 0), cell_later hV (q1 1), cell_later hV (q1 2), cell_later hV (q1 3), cell_later hV (q1 4), cell_later hV (q1 5), cell_later hV (q1 6)⟩
theorem tm_of (x : Int) : Int.tmod x 60 = if 0 ≤ x then x % 60 else -((-x) % 60) := by
  split
  · rw [Int.tmod_eq_emod_of_nonneg (by omega)]
  · have h : x = -(-x) := by omega
    rw [h, Int.neg_tmod, Int.tmod_eq_emod_of_nonneg (by omega)]; simp
theorem tm60 (x : Int) : Int.tmod (Int.tmod x 60 + 60) 60 = x % 60 := by
  rw [tm_of (Int.tmod x 60 + 60), tm_of x]
  split <;> split <;> omega
theorem tm_bd (x : Int) : -59 ≤ Int.tmod x 60 ∧ Int.tmod x 60 ≤ 59 := by rw [tm_of]; split <;> omega
theorem tm_zero {x : Int} (h : x % 60 = 0) : Int.tmod x 60 = 0 := by rw [tm_of]; split <;> omega
theorem tm_not {x : Int} (h : ¬ x % 60 = 0) : ¬ Int.tmod x 60 = 0 := by rw [tm_of]; split <;> omega
end Go.Proofs.YtnijneajlmgkjaaDoor
