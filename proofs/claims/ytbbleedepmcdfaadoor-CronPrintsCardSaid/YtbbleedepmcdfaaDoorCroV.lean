/- Walk of the laws' lives: what must come of every program. -/
import Derived.Test.YtbbleedepmcdfaaDoorCroU
set_option linter.unusedSimpArgs false
set_option linter.unusedVariables false
namespace Go.Proofs.YtbbleedepmcdfaaDoor
open Go.ChangeShapes Go.WideShapes Go.ChangeAt Go.RowKit Go.Base Go.Cro Go.Civ

def livS : Sp := ⟨35185445863425, 261632, 4294967294, 8190, 62, true, false⟩
theorem liv_ok : SpOk livS := ⟨⟨by decide, by decide⟩, ⟨by decide, by decide⟩, ⟨by decide, by decide⟩, ⟨by decide, by decide⟩, ⟨by decide, by decide⟩⟩
theorem liv_p1 : parseB [42, 47, 49, 53, 32, 57, 45, 49, 55, 32, 42, 32, 42, 32, 109, 111, 110, 45, 102, 114, 105] = .ok [(35185445863425, true), (261632, false), (4294967294, true), (8190, true), (62, false)] := by kernel_rfl
theorem liv_p2 : parseB [42, 32, 42, 32, 51, 50, 32, 42, 32, 42] = .error (21, 2) := by kernel_rfl
theorem liv_a1 : At 1709286300 19783 2024 2 35100 := ⟨by decide, by decide, by decide, by decide, by decide, by decide, by decide, by decide, by decide +kernel, by decide +kernel⟩
theorem liv_a2 : At 1709286600 19783 2024 2 35400 := ⟨by decide, by decide, by decide, by decide, by decide, by decide, by decide, by decide, by decide +kernel, by decide +kernel⟩
theorem liv_m1 : matchB livS (35100 % 3600 / 60) (35100 / 3600) (((2 : Nat) : Int) + 1) (19783 + 719162 - ah 2024 - cum 2024 2 + 1) (wd 19783) = true := by decide +kernel
theorem liv_m2 : matchB livS (35400 % 3600 / 60) (35400 / 3600) (((2 : Nat) : Int) + 1) (19783 + 719162 - ah 2024 - cum 2024 2 + 1) (wd 19783) = false := by decide +kernel
theorem liv_may : mayB livS = true := by decide +kernel
theorem dec1 {u : Nat} (h : u < 10) : Lib.decDigits u = [UInt8.ofNat (48 + u)] := by unfold Lib.decDigits; rw [dif_pos h]
theorem dec2 {u : Nat} (h : ¬ u < 10) (h2 : u < 100) : Lib.decDigits u = [UInt8.ofNat (48 + u / 10), UInt8.ofNat (48 + u % 10)] := by
  unfold Lib.decDigits; rw [dif_neg h, dec1 (by omega)]; rfl
theorem liv_f0 : fieldT livS 0 = [48, 44, 49, 53, 44, 51, 48, 44, 52, 53] := by
  have h : gotN 35185445863425 0 60 = [0, 15, 30, 45] := by decide +kernel
  have hs : fieldT livS 0 = oneT 35185445863425 false (scB 0) := by
    show oneT 35185445863425 ((35185445863425 : Int) == allB (scB 0)) (scB 0) = _
    rw [show ((35185445863425 : Int) == allB (scB 0)) = false by decide +kernel]
  rw [hs]
  show listT 35185445863425 0 59 = _
  unfold listT
  rw [h]
  simp only [List.map_cons, List.map_nil]
  rw [dec1 (u := 0) (by decide), dec2 (u := 15) (by decide) (by decide), dec2 (u := 30) (by decide) (by decide), dec2 (u := 45) (by decide) (by decide)]
  decide +kernel
theorem liv_f1 : fieldT livS 1 = [57, 44, 49, 48, 44, 49, 49, 44, 49, 50, 44, 49, 51, 44, 49, 52, 44, 49, 53, 44, 49, 54, 44, 49, 55] := by
  have h : gotN 261632 0 24 = [9, 10, 11, 12, 13, 14, 15, 16, 17] := by decide +kernel
  have hs : fieldT livS 1 = oneT 261632 false (scB 1) := by
    show oneT 261632 ((261632 : Int) == allB (scB 1)) (scB 1) = _
    rw [show ((261632 : Int) == allB (scB 1)) = false by decide +kernel]
  rw [hs]
  show listT 261632 0 23 = _
  unfold listT
  rw [h]
  simp only [List.map_cons, List.map_nil]
  rw [dec1 (u := 9) (by decide), dec2 (u := 10) (by decide) (by decide), dec2 (u := 11) (by decide) (by decide), dec2 (u := 12) (by decide) (by decide), dec2 (u := 13) (by decide) (by decide), dec2 (u := 14) (by decide) (by decide), dec2 (u := 15) (by decide) (by decide), dec2 (u := 16) (by decide) (by decide), dec2 (u := 17) (by decide) (by decide)]
  decide +kernel
theorem liv_f2 : fieldT livS 2 = [42] := by
  show oneT 4294967294 true (scB 2) = _
  unfold oneT
  rw [show ((4294967294 : Int) == allB (scB 2)) = true by decide +kernel]
  rfl
theorem liv_f3 : fieldT livS 3 = [42] := by
  show oneT 8190 ((8190 : Int) == allB (scB 3)) (scB 3) = _
  unfold oneT
  rw [show ((8190 : Int) == allB (scB 3)) = true by decide +kernel]
  rfl
theorem liv_f4 : fieldT livS 4 = [49, 44, 50, 44, 51, 44, 52, 44, 53] := by
  have h : gotN 62 0 7 = [1, 2, 3, 4, 5] := by decide +kernel
  show oneT 62 false (scB 4) = _
  show listT 62 0 6 = _
  unfold listT
  rw [h]
  simp only [List.map_cons, List.map_nil]
  rw [dec1 (u := 1) (by decide), dec1 (u := 2) (by decide), dec1 (u := 3) (by decide), dec1 (u := 4) (by decide), dec1 (u := 5) (by decide)]
  decide +kernel
theorem liv_t : printT livS = [48, 44, 49, 53, 44, 51, 48, 44, 52, 53, 32, 57, 44, 49, 48, 44, 49, 49, 44, 49, 50, 44, 49, 51, 44, 49, 52, 44, 49, 53, 44, 49, 54, 44, 49, 55, 32, 42, 32, 42, 32, 49, 44, 50, 44, 51, 44, 52, 44, 53] := by
  unfold printT
  have : ((List.range 5).any fun k => fieldT livS k == []) = false := by
    simp only [List.range, List.range.loop, List.any_cons, List.any_nil, liv_f0, liv_f1, liv_f2, liv_f3, liv_f4]; decide
  rw [liv_may, this, liv_f0, liv_f1, liv_f2, liv_f3, liv_f4]
  decide +kernel

/-- The two tables. -/
def Tabs (w : World) : Prop := ScTab w ∧ Tab w
theorem Tabs.later {w w' : World} (h : Tabs w) (hb : Below w.heap.size w w') : Tabs w' := ⟨h.1.later hb, h.2.later hb⟩
theorem parse_ok {l : Bytes} {ms : List (Int × Bool)} (h : parseB l = .ok ms) (hl : l.length ≤ maxLen) (w : World) (hT : ScTab w) :
    Calls Tryd.prog 10 #[.string ⟨l.toArray⟩] w fun e W' => e = .returned (.tuple #[specV ms, .int .i64 0, .int .i64 0]) ∧ Below w.heap.size w W' :=
  (parse_any l hl w hT).mono fun e W' hp => ⟨hp.1.2 ms h, hp.2⟩
theorem parse_err {l : Bytes} {e' : Int} {p : Nat} (h : parseB l = .error (e', p)) (hl : l.length ≤ maxLen) (w : World) (hT : ScTab w) :
    Calls Tryd.prog 10 #[.string ⟨l.toArray⟩] w fun e W' => e = .returned (.tuple #[specV [], .int .i64 e', .int .i64 (p : Nat)]) ∧ Below w.heap.size w W' :=
  (parse_any l hl w hT).mono fun e W' hp => ⟨hp.1.1 e' p h, hp.2⟩

set_option maxHeartbeats 3200000 in
set_option maxRecDepth 100000 in
theorem lives_any (w : World) (hT : Tabs w) : Calls Tryd.prog 12 #[] w fun e w' => e = .returned (.bool true) ∧ Below w.heap.size w w' := by
  have HT := Lib.hid hT
  have H1 : Hid (∀ w, ScTab w → Calls Tryd.prog 10 #[.string ⟨#[42, 47, 49, 53, 32, 57, 45, 49, 55, 32, 42, 32, 42, 32, 109, 111, 110, 45, 102, 114, 105]⟩] w fun e W' => e = .returned (.tuple #[.agg #[.int .u64 35185445863425, .int .u64 261632, .int .u64 4294967294, .int .u64 8190, .int .u64 62, .bool true, .bool false], .int .i64 0, .int .i64 0]) ∧ Below w.heap.size w W') := Lib.hid (fun w h => parse_ok liv_p1 (by decide) w h)
  have H2 : Hid (∀ w, ScTab w → Calls Tryd.prog 10 #[.string ⟨#[42, 32, 42, 32, 51, 50, 32, 42, 32, 42]⟩] w fun e W' => e = .returned (.tuple #[.agg #[.int .u64 0, .int .u64 0, .int .u64 0, .int .u64 0, .int .u64 0, .bool false, .bool false], .int .i64 21, .int .i64 2]) ∧ Below w.heap.size w W') := Lib.hid (fun w h => parse_err liv_p2 (by decide) w h)
  have H3 : Hid (∀ w, Tabs w → Calls Tryd.prog 20 #[.agg #[.int .u64 35185445863425, .int .u64 261632, .int .u64 4294967294, .int .u64 8190, .int .u64 62, .bool true, .bool false], .int .i64 1709286300] w fun e w' => e = .returned (.bool true) ∧ Below w.heap.size w w') := Lib.hid (fun w h => by have := matches_at livS liv_ok 1709286300 19783 2024 2 35100 w h.2 liv_a1; rw [liv_m1] at this; exact this)
  have H4 : Hid (∀ w, Tabs w → Calls Tryd.prog 20 #[.agg #[.int .u64 35185445863425, .int .u64 261632, .int .u64 4294967294, .int .u64 8190, .int .u64 62, .bool true, .bool false], .int .i64 1709286600] w fun e w' => e = .returned (.bool false) ∧ Below w.heap.size w w') := Lib.hid (fun w h => by have := matches_at livS liv_ok 1709286600 19783 2024 2 35400 w h.2 liv_a2; rw [liv_m2] at this; exact this)
  have H5 : Hid (∀ w, Tabs w → Calls Tryd.prog 15 #[.agg #[.int .u64 35185445863425, .int .u64 261632, .int .u64 4294967294, .int .u64 8190, .int .u64 62, .bool true, .bool false]] w fun e w' => e = .returned (.bool true) ∧ Below w.heap.size w w') := Lib.hid (fun w h => by have := may_any livS w h.1; rw [liv_may] at this; exact this)
  have H6 : Hid (∀ w, Tabs w → Calls Tryd.prog 13 #[.agg #[.int .u64 35185445863425, .int .u64 261632, .int .u64 4294967294, .int .u64 8190, .int .u64 62, .bool true, .bool false]] w fun e w' => e = .returned (.string ⟨#[48, 44, 49, 53, 44, 51, 48, 44, 52, 53, 32, 57, 44, 49, 48, 44, 49, 49, 44, 49, 50, 44, 49, 51, 44, 49, 52, 44, 49, 53, 44, 49, 54, 44, 49, 55, 32, 42, 32, 42, 32, 49, 44, 50, 44, 51, 44, 52, 44, 53]⟩) ∧ Below w.heap.size w w') := Lib.hid (fun w h => by have := print_any livS liv_ok w h.1; rw [liv_t] at this; exact this)
  clear hT
  go_enter Tryd.func12, Tryd.ntmps12
  go_wp2_with fail
  refine (H1.out _ HT.out.1).mono ?_
  rintro e w1 ⟨rfl, hb1⟩
  have HB1 := Lib.hid hb1
  have z1 := hb1.size
  clear hb1
  go_wp2_with fail
  have hb1' := HB1.out.alloc z1 (.cells #[.int .u64 35185445863425, .int .u64 261632, .int .u64 4294967294, .int .u64 8190, .int .u64 62, .bool true, .bool false] 24)
  refine (H2.out _ (HT.out.later hb1').1).mono ?_
  rintro e w2 ⟨rfl, hb2⟩
  have z2 := hb2.size
  simp only [World.size_alloc] at z2
  have r2 := row_below hb2 (by simp) (heap_new w1 (.cells #[.int .u64 35185445863425, .int .u64 261632, .int .u64 4294967294, .int .u64 8190, .int .u64 62, .bool true, .bool false] 24))
  have HB2 := Lib.hid (hb1'.trans (hb2.mono (by simp; omega)))
  obtain ⟨c2, _⟩ := cells_of_heap (heap_old (.cells #[.int .u64 0, .int .u64 0, .int .u64 0, .int .u64 0, .int .u64 0, .bool false, .bool false] 24) (by omega) r2)
  have R2 := Lib.hid r2
  clear hb1' hb2 r2
  go_wp2_with fail
  have hb3 := HB2.out.alloc (by omega) (.cells #[.int .u64 0, .int .u64 0, .int .u64 0, .int .u64 0, .int .u64 0, .bool false, .bool false] 24)
  have R3 := Lib.hid (heap_old (.cells #[.int .u64 0, .int .u64 0, .int .u64 0, .int .u64 0, .int .u64 0, .bool false, .bool false] 24) (by omega) R2.out)
  have zz : (w2.alloc (.cells #[.int .u64 0, .int .u64 0, .int .u64 0, .int .u64 0, .int .u64 0, .bool false, .bool false] 24)).heap.size = w2.heap.size + 1 := by simp
  clear c2
  generalize w2.alloc (.cells #[.int .u64 0, .int .u64 0, .int .u64 0, .int .u64 0, .int .u64 0, .bool false, .bool false] 24) = W3 at *
  have HB3 := Lib.hid hb3
  clear hb3
  refine (H3.out _ (HT.out.later HB3.out)).mono ?_
  rintro e W4 ⟨rfl, hb⟩
  have zz4 := hb.size
  have R4 := Lib.hid (row_below hb (by omega) R3.out)
  have HB4 := Lib.hid (HB3.out.trans (hb.mono HB3.out.size))
  obtain ⟨c4, _⟩ := cells_of_heap R4.out
  clear hb
  go_wp2_with fail
  refine (H4.out _ (HT.out.later HB4.out)).mono ?_
  rintro e W5 ⟨rfl, hb⟩
  have zz5 := hb.size
  have R5 := Lib.hid (row_below hb (by omega) R4.out)
  have HB5 := Lib.hid (HB4.out.trans (hb.mono HB4.out.size))
  obtain ⟨c5, _⟩ := cells_of_heap R5.out
  clear hb
  go_wp2_with fail
  refine (H5.out _ (HT.out.later HB5.out)).mono ?_
  rintro e W6 ⟨rfl, hb⟩
  have zz6 := hb.size
  have R6 := Lib.hid (row_below hb (by omega) R5.out)
  have HB6 := Lib.hid (HB5.out.trans (hb.mono HB5.out.size))
  obtain ⟨c6, _⟩ := cells_of_heap R6.out
  clear hb
  go_wp2_with fail
  refine (H6.out _ (HT.out.later HB6.out)).mono ?_
  rintro e W7 ⟨rfl, hb⟩
  have zz7 := hb.size
  have R7 := Lib.hid (row_below hb (by omega) R6.out)
  have HB7 := Lib.hid (HB6.out.trans (hb.mono HB6.out.size))
  obtain ⟨c7, _⟩ := cells_of_heap R7.out
  clear hb
  go_wp2_with fail
  go_ret
  exact ⟨rfl, HB7.out⟩
end Go.Proofs.YtbbleedepmcdfaaDoor
