/- The types' facts of this program. -/
import Derived.Test.YtcbnankocjlobaaWavOps
set_option linter.unusedSimpArgs false
set_option linter.unusedVariables false
namespace Go.Proofs.Ytcbnankocjlobaa
open Go.ChangeShapes Go.WideShapes Go.ChangeAt Go.RowKit Go.Base Go.Deep

theorem runT : RunT Try.prog 39 37 3 9 :=
  ⟨⟨_, _, _, _, _, Try.underlying39, ⟨rfl, rfl, rfl, rfl, rfl⟩, ⟨rfl, rfl, rfl, rfl, rfl⟩⟩, ⟨_, _, _, Try.underlying37, ⟨rfl, rfl, rfl⟩, ⟨rfl, rfl, rfl⟩⟩, by kernel_rfl, by kernel_rfl, Try.underlying3, Try.underlying9, by kernel_rfl, by kernel_rfl⟩
theorem stepT : StepT Try.prog 41 39 3 :=
  ⟨⟨_, _, _, _, Try.underlying41, ⟨rfl, rfl, rfl, rfl⟩, ⟨rfl, rfl, rfl, rfl⟩⟩, by kernel_rfl⟩
theorem jobT : JobT Try.prog 27 24 25 80 9 3 22 4 :=
  ⟨⟨_, _, _, _, _, _, _, _, _, _, Try.underlying27, ⟨rfl, rfl, rfl, rfl, rfl, rfl, rfl, rfl, rfl, rfl⟩, ⟨rfl, rfl, rfl, rfl, rfl, rfl, rfl, rfl, rfl, rfl⟩⟩, ⟨_, _, _, _, _, _, _, Try.underlying24, ⟨rfl, rfl, rfl, rfl, rfl, rfl, rfl⟩, ⟨rfl, rfl, rfl, rfl, rfl, rfl, rfl⟩⟩, Try.underlying25, by kernel_rfl, by kernel_rfl, Try.underlying3, Try.underlying22, Try.underlying4, Try.underlying9, by kernel_rfl, by kernel_rfl, by kernel_rfl, by kernel_rfl, by kernel_rfl⟩
end Go.Proofs.Ytcbnankocjlobaa
