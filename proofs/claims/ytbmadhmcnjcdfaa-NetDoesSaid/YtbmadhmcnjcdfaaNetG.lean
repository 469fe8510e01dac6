/- The library's Delete at packets: clear over elements of several cells. -/
import Derived.Test.YtbmadhmcnjcdfaaNetF
set_option linter.unusedSimpArgs false
set_option linter.unusedVariables false
namespace Go.Proofs.Ytbmadhmcnjcdfaa
open Go.ChangeShapes Go.WideShapes Go.ChangeAt Go.RowKit Go.Base Go.Net

section
variable {P : Program}
/-- clear over n elements of k cells, in a row of the call's own. -/
theorem run_clear_k (w : World) (t e ty : TypeId) (z : Value) (k : Nat) (ht : P.underlying t = some (.slice e)) (hv : ∀ w, (zeroValue e).run P w = .ok z w) (hz : z.cells.size = k) (h1 : ∀ u ∈ z.cells.toList, u.oneCell' = true) (hk : 0 < k)
    (g o n c : Nat) (cur : Array Value) (t' : TypeId) (hg : w.heap[g]? = some (.cells cur t' (0, 0))) (hfit : o + n * k ≤ cur.size) :
    ∃ cs : List Value, (Builtin.clear_ #[t] ty #[.slice (some ⟨g, o, none⟩) n c]).run P w = .ok (.tuple #[]) (w.setRow g (cur.toList.take o ++ cs ++ cur.toList.drop (o + n * k)).toArray) ∧ cs.length = n * k := by
  rcases Nat.eq_zero_or_pos n with h0 | h0
  · subst h0
    refine ⟨[], ?_, by simp⟩
    have e : (cur.toList.take o ++ [] ++ cur.toList.drop (o + 0 * k)).toArray = cur := by simp
    rw [e, setRow_self w g cur t' (0, 0) hg]
    simp [Builtin.clear_, run_underlying ht]
  · have hl : (Builtin.zeroCells z.cells n).toList.length = n * k := by rw [← hz]; simpa using size_zeroCells z.cells n
    have ho : ∀ v ∈ (Builtin.zeroCells z.cells n).toList, v.oneCell' = true := fun v hv => by
      unfold Builtin.zeroCells at hv
      simp at hv
      obtain ⟨j, hj, rfl⟩ := hv
      have hj2 : j % z.cells.size < z.cells.size := Nat.mod_lt _ (by omega)
      exact h1 _ (by simp [hj2])
    refine ⟨(Builtin.zeroCells z.cells n).toList, ?_, hl⟩
    have hst := run_storeCells_at P g o t' (Builtin.zeroCells z.cells n).toList 0 cur w hg (by rw [hl]; simpa using hfit) ho
    rw [hl] at hst
    simp only [Nat.add_zero] at hst
    obtain ⟨m, rfl⟩ : ∃ m, n = m + 1 := ⟨n - 1, by omega⟩
    simp [Builtin.clear_, run_underlying ht, hv, hst]
end
end Go.Proofs.Ytbmadhmcnjcdfaa
