/- The law's look at the 29th of February. -/
import Derived.Test.YtnijneajlmgkjaaDoorNxtR
set_option linter.unusedSimpArgs false
set_option linter.unusedVariables false
namespace Go.Proofs.YtnijneajlmgkjaaDoor
open Go.ChangeShapes Go.WideShapes Go.ChangeAt Go.RowKit Go.Base Go.Civ Go.Nxt Go.Cro
def leapS : Sp := ⟨1, 1, 536870912, 4, 127, false, true⟩
theorem leap_ok : SpOk leapS := ⟨⟨by decide, by decide⟩, ⟨by decide, by decide⟩, ⟨by decide, by decide⟩, ⟨by decide, by decide⟩, ⟨by decide, by decide⟩⟩
theorem leap_may : mayB leapS = true := by decide +kernel
theorem leap_up : (momL true leapS 1 1 24290 1 1709251200 0 1).head? = some 1835395200 := by decide +kernel
theorem leap_down : (momL false leapS 1 1 24289 29 1709164800 23 59).head? = some 1709164800 := by decide +kernel
theorem leap_count : countR leapS 1 1 1970 0 1 0 0 0 54 2024 2 1 0 0 0 = 14 := by decide +kernel
theorem leap_days : daysR leapS 2024 = 1 := by decide +kernel
end Go.Proofs.YtnijneajlmgkjaaDoor
