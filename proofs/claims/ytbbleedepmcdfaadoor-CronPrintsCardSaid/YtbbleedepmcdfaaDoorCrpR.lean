/- Walk of the reference's own bits of a spec. -/
import Derived.Test.YtbbleedepmcdfaaDoorCroQ
set_option linter.unusedSimpArgs false
set_option linter.unusedVariables false
namespace Go.Proofs.YtbbleedepmcdfaaDoor
open Go.ChangeShapes Go.WideShapes Go.ChangeAt Go.RowKit Go.Base Go.Cro Go.Civ

set_option maxHeartbeats 4000000 in
theorem refBits_any (s : Sp) (w : World) :
    Calls Tryd.prog 30 #[spV s] w fun e w' => e = .returned (.agg #[.int .u64 s.mi, .int .u64 s.ho, .int .u64 s.da, .int .u64 s.mo, .int .u64 s.we]) ∧ Below w.heap.size w w' := by
  obtain ⟨mi, ho, da, mo, we, ad, aw⟩ := s
  go_enter Tryd.func30, Tryd.ntmps30
  go_wp2
  exact bodyPost_ret (v := .agg #[.int .u64 mi, .int .u64 ho, .int .u64 da, .int .u64 mo, .int .u64 we]) (by simp [results, Tryd.results30, go_sem]) rfl ⟨rfl, by first | go_grown | exact (below_alloc w _).alloc (by simp) _⟩
end Go.Proofs.YtbbleedepmcdfaaDoor
