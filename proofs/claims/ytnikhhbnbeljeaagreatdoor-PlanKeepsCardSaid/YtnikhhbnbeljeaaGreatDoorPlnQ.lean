/- Package plan: the job that the laws' lives asks for; it may be. -/
import Derived.Test.YtnikhhbnbeljeaaGreatDoorPlnD
set_option linter.unusedSimpArgs false
set_option linter.unusedVariables false
namespace Go.Proofs.YtnikhhbnbeljeaaGreatDoor.PL
open Go.ChangeShapes Go.WideShapes Go.ChangeAt Go.RowKit Go.Base Go.Lab Go.Civ Go.Wire

def spA : Sp := ⟨1, 8, 4294967294, 8190, 127, true, true⟩
theorem spA_ok : SpOk spA := ⟨⟨by decide, by decide⟩, ⟨by decide, by decide⟩, ⟨by decide, by decide⟩, ⟨by decide, by decide⟩, ⟨by decide, by decide⟩⟩
theorem spA_f0 : fieldT spA 0 = [48] := by
  have h : gotN 1 0 60 = [0] := by decide +kernel
  have hs : fieldT spA 0 = oneT 1 false (Go.Cro.scB 0) := by
    show oneT 1 ((1 : Int) == allB (Go.Cro.scB 0)) (Go.Cro.scB 0) = _
    rw [show ((1 : Int) == allB (Go.Cro.scB 0)) = false by decide +kernel]
  rw [hs]
  show listT 1 0 59 = _
  unfold listT
  rw [h]
  simp only [List.map_cons, List.map_nil]
  rw [dec1 (u := 0) (by decide)]
  decide +kernel
theorem spA_f1 : fieldT spA 1 = [51] := by
  have h : gotN 8 0 24 = [3] := by decide +kernel
  have hs : fieldT spA 1 = oneT 8 false (Go.Cro.scB 1) := by
    show oneT 8 ((8 : Int) == allB (Go.Cro.scB 1)) (Go.Cro.scB 1) = _
    rw [show ((8 : Int) == allB (Go.Cro.scB 1)) = false by decide +kernel]
  rw [hs]
  show listT 8 0 23 = _
  unfold listT
  rw [h]
  simp only [List.map_cons, List.map_nil]
  rw [dec1 (u := 3) (by decide)]
  decide +kernel
theorem spA_f2 : fieldT spA 2 = [42] := by
  show oneT 4294967294 true (Go.Cro.scB 2) = _
  unfold oneT
  rw [show ((4294967294 : Int) == allB (Go.Cro.scB 2)) = true by decide +kernel]
  rfl
theorem spA_f3 : fieldT spA 3 = [42] := by
  show oneT 8190 ((8190 : Int) == allB (Go.Cro.scB 3)) (Go.Cro.scB 3) = _
  unfold oneT
  rw [show ((8190 : Int) == allB (Go.Cro.scB 3)) = true by decide +kernel]
  rfl
theorem spA_f4 : fieldT spA 4 = [42] := by
  show oneT 127 true (Go.Cro.scB 4) = _
  unfold oneT
  rw [show ((127 : Int) == allB (Go.Cro.scB 4)) = true by decide +kernel]
  rfl
theorem spA_t : printT spA = [48, 32, 51, 32, 42, 32, 42, 32, 42] := by
  unfold printT
  have : ((List.range 5).any fun k => fieldT spA k == []) = false := by
    simp only [List.range, List.range.loop, List.any_cons, List.any_nil, spA_f0, spA_f1, spA_f2, spA_f3, spA_f4]; decide
  rw [show mayB spA = true by decide +kernel, this, spA_f0, spA_f1, spA_f2, spA_f3, spA_f4]
  decide +kernel
/-- The job of the laws' lives. -/
def jobA (jit wav : Int) : Jb := ⟨[97], spA, none, [], 0, jit, wav, 100, 0, 3600, 1, 0⟩
theorem jobA_ok (jit wav : Int) (h1 : I64 jit) (h2 : I64 wav) (w : World) : (jobA jit wav).Ok w :=
  { nm := by show 1 ≤ maxLen; unfold maxLen; omega
    sp := spA_ok
    cl := fun i hi => by simp [jobA] at hi
    cm := by show 0 ≤ maxLen; omega
    jit := h1
    wav := h2
    fai := (show I64 100 from ⟨by decide, by decide⟩)
    par := (show I64 0 from ⟨by decide, by decide⟩)
    dea := (show I64 3600 from ⟨by decide, by decide⟩)
    mis := (show I64 1 from ⟨by decide, by decide⟩)
    bnd := (show I64 0 from ⟨by decide, by decide⟩) }
theorem jobA_may (jit wav : Int) (h1 : 0 ≤ jit ∧ jit < 3600) (h2 : 0 ≤ wav ∧ wav ≤ 65536) : mayJ (jobA jit wav) = true := by
  have hs : specB spA = true := by unfold specB; rw [spA_t]; decide
  unfold mayJ
  simp only [jobA, hs]
  rw [show wordB [97] = true by decide +kernel, show selB [] = true by unfold selB; simp]
  rw [show wthB jit 0 86400 = true from wthB_iff.2 (by omega), show wthB 3600 (max 60 (jit + 1)) 604800 = true from wthB_iff.2 (by omega), show wthB wav 0 65536 = true from wthB_iff.2 (by omega)]
  show (true && true && true && true && true && true && wthB 0 0 65536 && wthB 100 0 100 && (if (1 : Int) = 3 then wthB 0 1 100 else wthB 1 1 2 && ((0 : Int) == 0))) = true
  rfl
end Go.Proofs.YtnikhhbnbeljeaaGreatDoor.PL
