/- The law CronParses: the program's parse and the reference's say the same. -/
import Derived.Test.YtbbleedepmcdfaaDoorCrpM
import Derived.Test.YtbbleedepmcdfaaDoorCroX
set_option linter.unusedSimpArgs false
set_option linter.unusedVariables false
namespace Go.Proofs.YtbbleedepmcdfaaDoor
open Go.ChangeShapes Go.WideShapes Go.ChangeAt Go.RowKit Go.Base Go.Cro Go.Civ

theorem parse_both (l : Bytes) (hl : l.length ≤ maxLen) : ∃ (b0 b1 b2 b3 b4 : Int) (t2 t4 : Bool) (e p : Int),
    (∀ w, ScTab w → Calls Tryd.prog 10 #[.string ⟨l.toArray⟩] w fun z w' => z = .returned (.tuple #[.agg #[.int .u64 b0, .int .u64 b1, .int .u64 b2, .int .u64 b3, .int .u64 b4, .bool t2, .bool t4], .int .i64 e, .int .i64 p]) ∧ Below w.heap.size w w') ∧
    (∀ w, Calls Tryd.prog 11 #[.string ⟨l.toArray⟩] w fun z w' => z = .returned (.tuple #[.agg #[.int .u64 b0, .int .u64 b1, .int .u64 b2, .int .u64 b3, .int .u64 b4, .bool t2, .bool t4], .int .i64 e, .int .i64 p]) ∧ Below w.heap.size w w') := by
  have hA := fun w h => parse_any l hl w h
  have hB := fun w => refParse_any l hl w
  cases h : parseB l with
  | error x =>
    obtain ⟨e, p⟩ := x
    exact ⟨_, _, _, _, _, _, _, e, p, fun w hs => (hA w hs).mono fun z w' hp => ⟨hp.1.1 e p h, hp.2⟩, fun w => (hB w).mono fun z w' hp => ⟨hp.1.1 e p h, hp.2⟩⟩
  | ok ms => exact ⟨_, _, _, _, _, _, _, 0, 0, fun w hs => (hA w hs).mono fun z w' hp => ⟨hp.1.2 ms h, hp.2⟩, fun w => (hB w).mono fun z w' hp => ⟨hp.1.2 ms h, hp.2⟩⟩

set_option maxRecDepth 100000 in
set_option maxHeartbeats 4000000 in
theorem law_parses (l : Bytes) (hl : l.length ≤ maxLen) (w : World) (hT : Tabs w) :
    Calls Tryd.prog 3 #[.string ⟨l.toArray⟩] w fun e w' => e = .returned (.bool true) ∧ Below w.heap.size w w' := by
  obtain ⟨b0, b1, b2, b3, b4, t2, t4, e, p, hA, hB⟩ := parse_both l hl
  have HA := Lib.hid hA
  have HB := Lib.hid hB
  have HT := Lib.hid hT
  have HL := Lib.hid (fun w h => lives_any w h)
  clear hA hB hT
  go_enter Tryd.func3, Tryd.ntmps3
  go_wp2_with (first | (go_at_call 10; refine (HA.out _ HT.out.1).mono ?_; rintro z W1 ⟨rfl, hb⟩; have HB1 := Lib.hid hb; clear hb) | (go_at_call 11; refine (HB.out _).mono ?_; rintro z W2 ⟨rfl, hb⟩; have R1 := Lib.hid (row_below hb (by simp) (heap_new W1 (.cells #[.int .u64 b0, .int .u64 b1, .int .u64 b2, .int .u64 b3, .int .u64 b4, .bool t2, .bool t4] 24))); have z2 : W1.heap.size < W2.heap.size := (by have := hb.size; simp at this; omega); have B2 := Lib.hid (((HB1.out.alloc HB1.out.size (.cells #[.int .u64 b0, .int .u64 b1, .int .u64 b2, .int .u64 b3, .int .u64 b4, .bool t2, .bool t4] 24)).trans (hb.mono (by have := HB1.out.size; simp; omega))).alloc (by have := HB1.out.size; omega) (.cells #[.int .u64 b0, .int .u64 b1, .int .u64 b2, .int .u64 b3, .int .u64 b4, .bool t2, .bool t4] 24)); clear hb) | (go_at_call 12; refine (HL.out _ (HT.out.later B2.out)).mono ?_; rintro z W3 ⟨rfl, hb⟩; have HB3 := Lib.hid (B2.out.trans (hb.mono B2.out.size)); obtain ⟨c1, f1⟩ := cells_of_heap (row_below hb (by simp; omega) (heap_old _ z2 R1.out)); obtain ⟨c2, f2⟩ := cells_of_heap (row_below hb (by simp) (heap_new W2 _)); clear hb))
  all_goals (go_ret; exact ⟨rfl, HB3.out⟩)
end Go.Proofs.YtbbleedepmcdfaaDoor
