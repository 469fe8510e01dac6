/- Walks of package cron: whether a time matches. -/
import Derived.Test.YtnijneajlmgkjaaDoorCroB
import Derived.Test.YtnijneajlmgkjaaDoorCvc
set_option linter.unusedSimpArgs false
set_option linter.unusedVariables false
namespace Go.Proofs.YtnijneajlmgkjaaDoor
open Go.ChangeShapes Go.WideShapes Go.ChangeAt Go.RowKit Go.Base Go.Cro Go.Civ

/-- Is the bit v set? -/
def hasB (b v : Int) : Bool := bits .and .u64 (b / 2 ^ v.toNat) 1 == 1
theorem has_any (b v : Int) (w : World) (h0 : 0 ≤ v) (h1 : v ≤ 63) (hb : 0 ≤ b) (hb' : b ≤ 18446744073709551615) :
    Calls Tryd.prog 26 #[.int .u64 b, .int .i64 v] w fun e w' => e = .returned (.bool (hasB b v)) ∧ w' = w := by
  have H : Hid (hasB b v = (bits .and .u64 (b / 2 ^ v.toNat) 1 == 1)) := Lib.hid rfl
  go_enter Tryd.func26, Tryd.ntmps26
  go_wp2
  go_ret
  exact ⟨ret_bool H.out.symm, rfl⟩

structure Sp where
  mi : Int
  ho : Int
  da : Int
  mo : Int
  we : Int
  ad : Bool
  aw : Bool
abbrev spV (s : Sp) : Value := .agg #[.int .u64 s.mi, .int .u64 s.ho, .int .u64 s.da, .int .u64 s.mo, .int .u64 s.we, .bool s.ad, .bool s.aw]
def U64 (n : Int) : Prop := 0 ≤ n ∧ n ≤ 18446744073709551615
structure SpOk (s : Sp) : Prop where
  mi : U64 s.mi
  ho : U64 s.ho
  da : U64 s.da
  mo : U64 s.mo
  we : U64 s.we
/-- Is the day one of the spec's? -/
def dayB (s : Sp) (d wk : Int) : Bool := if s.ad || s.aw then hasB s.da d && hasB s.we wk else hasB s.da d || hasB s.we wk

set_option maxHeartbeats 1000000 in
theorem day_any (s : Sp) (hs : SpOk s) (y m d h mi se wk : Int) (w : World) (hd : 1 ≤ d) (hd' : d ≤ 31) (hw : 0 ≤ wk) (hw' : wk ≤ 6) :
    Calls Tryd.prog 27 #[spV s, .agg #[.int .i64 y, .int .i64 m, .int .i64 d, .int .i64 h, .int .i64 mi, .int .i64 se, .int .i64 wk]] w fun e w' => e = .returned (.bool (dayB s d wk)) ∧ Below w.heap.size w w' := by
  obtain ⟨smi, sho, sda, smo, swe, ad, aw⟩ := s
  obtain ⟨_, _, ⟨a1, a2⟩, _, ⟨b1, b2⟩⟩ := hs
  simp only at a1 a2 b1 b2
  simp only [spV]
  have H1 := Lib.hid (fun w => has_any sda d w (by omega) (by omega) a1 a2)
  have H2 := Lib.hid (fun w => has_any swe wk w (by omega) (by omega) b1 b2)
  clear a1 a2 b1 b2
  have H : Hid (dayB ⟨smi, sho, sda, smo, swe, ad, aw⟩ d wk = if ad || aw then hasB sda d && hasB swe wk else hasB sda d || hasB swe wk) := Lib.hid rfl
  rw [H.out]
  cases h1 : hasB sda d <;> cases h2 : hasB swe wk <;> cases ad <;> cases aw
  all_goals
    rw [h1] at H1
    rw [h2] at H2
    clear h1 h2
    go_enter Tryd.func27, Tryd.ntmps27
    go_wp2_with fail
    go_quiet ((first | (with_reducible exact Calls.quiet_of_same (H1.out _)) | (with_reducible exact Calls.quiet_of_same (H2.out _))))
    go_wp2_with fail
    go_ret
    exact ⟨rfl, below_drewN (((below_alloc w _).alloc (by simp) _)) _⟩
end Go.Proofs.YtnijneajlmgkjaaDoor
