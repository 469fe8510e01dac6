/- The variable with the fields' scopes. -/
import Derived.Test.YtnijneajlmgkjaaDoorCroB
set_option linter.unusedSimpArgs false
set_option linter.unusedVariables false
namespace Go.Proofs.YtnijneajlmgkjaaDoor
open Go.ChangeShapes Go.WideShapes Go.ChangeAt Go.RowKit Go.Base Go.Cro

theorem size_drewN (w : World) (n : Nat) : (w.drewN n).heap.size = w.heap.size := rfl

structure ScOk (s : Sc) : Prop where
  l0 : 0 ≤ s.least
  l1 : s.least ≤ 1
  m0 : 1 ≤ s.most
  m1 : s.most ≤ 59
  d1 : s.said ≤ 59
theorem scOk (k : Nat) : ScOk (scB k) := by
  unfold scB; split <;> exact ⟨by decide, by decide, by decide, by decide, by decide⟩

/-- The table of the fields' scopes lies in its variable. -/
def ScTab (w : World) : Prop := ∀ i : Nat, i < 15 → w.cell? ⟨0, i, none⟩ = some (.int .i64 (([0, 59, 59, 0, 23, 23, 1, 31, 31, 1, 12, 12, 0, 6, 7] : List Int).getD i 0))
theorem ScTab.later {w w' : World} (h : ScTab w) (hb : Below w.heap.size w w') : ScTab w' := fun k hk => by
  have c := h k hk
  rw [hb.cell (World.block_lt_of_cell? w _ c)]; exact c
end Go.Proofs.YtnijneajlmgkjaaDoor
