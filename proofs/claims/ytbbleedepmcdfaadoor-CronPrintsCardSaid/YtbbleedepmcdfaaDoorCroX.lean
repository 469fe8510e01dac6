/- Walk of the law CronNames. -/
import Derived.Test.YtbbleedepmcdfaaDoorTabs
set_option linter.unusedSimpArgs false
set_option linter.unusedVariables false
namespace Go.Proofs.YtbbleedepmcdfaaDoor
open Go.ChangeShapes Go.WideShapes Go.ChangeAt Go.RowKit Go.Base Go.Cro Go.Civ

/-- A number of one or two digits. -/
def digB (n : Nat) : Bytes := if n < 10 then [UInt8.ofNat (48 + n)] else [UInt8.ofNat (48 + n / 10), UInt8.ofNat (48 + n % 10)]

theorem dig_one : ∀ k : Nat, k < 10 → (⟨#[48, 49, 50, 51, 52, 53, 54, 55, 56, 57]⟩ : ByteArray).extract k (k + 1) = ⟨[UInt8.ofNat (48 + k)].toArray⟩ := by decide +kernel
theorem bytes_append (a b : Bytes) : ((⟨a.toArray⟩ : ByteArray) ++ (⟨b.toArray⟩ : ByteArray)) = ⟨(a ++ b).toArray⟩ := by apply ByteArray.ext; simp
theorem digB_len (n : Nat) : (digB n).length ≤ 2 := by unfold digB; split <;> simp

set_option maxHeartbeats 1000000 in
theorem digits_any (n : Nat) (h : n < 100) (w : World) :
    Calls Tryd.prog 19 #[.int .i64 n] w fun e w' => e = .returned (.string ⟨(digB n).toArray⟩) ∧ Below w.heap.size w w' := by
  by_cases h10 : 9 < n
  · have hn : (9 : Int) < n ∧ (n : Int) < 100 := by omega
    have q1 : (0 : Int) ≤ (n : Int) / 10 ∧ (n : Int) / 10 ≤ 9 ∧ 0 ≤ (n : Int) % 10 ∧ (n : Int) % 10 ≤ 9 := by omega
    have H : Hid (((⟨#[48, 49, 50, 51, 52, 53, 54, 55, 56, 57]⟩ : ByteArray).extract (n / 10) (n / 10 + 1) ++ (⟨#[48, 49, 50, 51, 52, 53, 54, 55, 56, 57]⟩ : ByteArray).extract (n % 10) (n % 10 + 1)) = ⟨(digB n).toArray⟩) := Lib.hid (by
      rw [dig_one _ (by omega), dig_one _ (by omega), bytes_append]
      unfold digB; rw [if_neg (by omega)]; rfl)
    go_enter Tryd.func19, Tryd.ntmps19
    go_wp2_with fail
    go_quiet (fail)
    go_wp2
    go_ret
    exact ⟨by rw [← H.out]; rfl, below_drewN (Below.refl _ _) _⟩
  · have hn : (n : Int) ≤ 9 := by omega
    have H : Hid ((⟨#[48, 49, 50, 51, 52, 53, 54, 55, 56, 57]⟩ : ByteArray).extract n (n + 1) = ⟨(digB n).toArray⟩) := Lib.hid (by
      rw [dig_one _ (by omega)]
      unfold digB; rw [if_pos (by omega)])
    go_enter Tryd.func19, Tryd.ntmps19
    go_wp2
    go_ret
    exact ⟨by rw [← H.out]; rfl, Below.refl _ _⟩

def okOf (l : Bytes) : Option (List (Int × Bool)) := match parseB l with
  | .ok ms => some ms
  | .error _ => none
theorem okOf_ok {l : Bytes} {ms : List (Int × Bool)} (h : okOf l = some ms) : parseB l = .ok ms := by
  unfold okOf at h
  split at h
  · rename_i ms' hm; cases h; exact hm
  · cases h
def nmA (m d : Nat) : Bytes := [48, 32, 48, 32, 42, 32] ++ months.getD m [] ++ [32] ++ weekdays.getD d []
def nmB (m d : Nat) : Bytes := [48, 32, 48, 32, 42, 32] ++ digB (m + 1) ++ [32] ++ digB d
def nmMs (m d : Nat) : List (Int × Bool) := [(1, false), (1, false), (4294967294, true), (IntKind.u64.wrap (2 ^ (m + 1)), false), (IntKind.u64.wrap (2 ^ d), false)]
theorem nmA_ok : ∀ m : Nat, m < 12 → ∀ d : Nat, d < 7 → okOf (nmA m d) = some (nmMs m d) := by decide +kernel
theorem nmB_ok : ∀ m : Nat, m < 12 → ∀ d : Nat, d < 7 → okOf (nmB m d) = some (nmMs m d) := by decide +kernel
theorem mth_ext : ∀ m : Nat, m < 12 → (⟨#[106, 97, 110, 102, 101, 98, 109, 97, 114, 97, 112, 114, 109, 97, 121, 106, 117, 110, 106, 117, 108, 97, 117, 103, 115, 101, 112, 111, 99, 116, 110, 111, 118, 100, 101, 99]⟩ : ByteArray).extract (3 * m) (3 * m + 3) = ⟨(months.getD m []).toArray⟩ := by decide +kernel
theorem wkd_ext : ∀ d : Nat, d < 7 → (⟨#[115, 117, 110, 109, 111, 110, 116, 117, 101, 119, 101, 100, 116, 104, 117, 102, 114, 105, 115, 97, 116]⟩ : ByteArray).extract (3 * d) (3 * d + 3) = ⟨(weekdays.getD d []).toArray⟩ := by decide +kernel
theorem nm_len : ∀ m : Nat, m < 12 → ∀ d : Nat, d < 7 → (nmA m d).length ≤ 20 ∧ (nmB m d).length ≤ 20 ∧ (months.getD m []).length = 3 ∧ (weekdays.getD d []).length = 3 := by decide +kernel

/-- What the last test of CronNames reads. -/
abbrev NmS (g h : Nat) (V : Array Value) (w' : World) : Prop := (∀ i, w'.cell? ⟨g, i, none⟩ = V[i]?) ∧ (∀ i, w'.cell? ⟨h, i, none⟩ = V[i]?)

set_option maxHeartbeats 3200000 in
set_option maxRecDepth 100000 in
theorem names_in (m d : Nat) (hm : m < 12) (hd : d < 7) (w : World) (hT : Tabs w) :
    Calls Tryd.prog 9 #[.int .i64 (m + 1 : Nat), .int .i64 d] w fun e w' => e = .returned (.bool true) ∧ Below w.heap.size w w' := by
  have HT := Lib.hid hT
  have hm1 : (0 : Int) ≤ (m : Int) ∧ (m : Int) ≤ 11 := by omega
  have hd1 : (d : Int) ≤ 6 := by omega
  obtain ⟨ln1, ln2, ln3, ln4⟩ := nm_len m hm d hd
  have HA : Hid (((⟨#[48, 32, 48, 32, 42, 32]⟩ : ByteArray) ++ (⟨#[106, 97, 110, 102, 101, 98, 109, 97, 114, 97, 112, 114, 109, 97, 121, 106, 117, 110, 106, 117, 108, 97, 117, 103, 115, 101, 112, 111, 99, 116, 110, 111, 118, 100, 101, 99]⟩ : ByteArray).extract (3 * (m + 1) - 3) (3 * (m + 1)) ++ (⟨#[32]⟩ : ByteArray) ++ (⟨#[115, 117, 110, 109, 111, 110, 116, 117, 101, 119, 101, 100, 116, 104, 117, 102, 114, 105, 115, 97, 116]⟩ : ByteArray).extract (3 * d) (3 * d + 3)) = ⟨(nmA m d).toArray⟩) := Lib.hid (by
    rw [wkd_ext d hd, show 3 * (m + 1) - 3 = 3 * m by omega, show 3 * (m + 1) = 3 * m + 3 by omega, mth_ext m hm]
    rw [show (⟨#[48, 32, 48, 32, 42, 32]⟩ : ByteArray) = ⟨[48, 32, 48, 32, 42, 32].toArray⟩ from rfl, show (⟨#[32]⟩ : ByteArray) = ⟨[32].toArray⟩ from rfl, bytes_append, bytes_append, bytes_append]
    rfl)
  have HB : Hid (((⟨#[48, 32, 48, 32, 42, 32]⟩ : ByteArray) ++ (⟨(digB (m + 1)).toArray⟩ : ByteArray) ++ (⟨#[32]⟩ : ByteArray) ++ (⟨(digB d).toArray⟩ : ByteArray)) = ⟨(nmB m d).toArray⟩) := Lib.hid (by
    rw [show (⟨#[48, 32, 48, 32, 42, 32]⟩ : ByteArray) = ⟨[48, 32, 48, 32, 42, 32].toArray⟩ from rfl, show (⟨#[32]⟩ : ByteArray) = ⟨[32].toArray⟩ from rfl, bytes_append, bytes_append, bytes_append]
    rfl)
  have H1 : Hid (∀ w, ScTab w → Calls Tryd.prog 10 #[.string ⟨(nmA m d).toArray⟩] w fun e W' => e = .returned (.tuple #[.agg #[.int .u64 1, .int .u64 1, .int .u64 4294967294, .int .u64 (IntKind.u64.wrap (2 ^ (m + 1))), .int .u64 (IntKind.u64.wrap (2 ^ d)), .bool true, .bool false], .int .i64 0, .int .i64 0]) ∧ Below w.heap.size w W') := Lib.hid (fun w h => parse_ok (okOf_ok (nmA_ok m hm d hd)) (by unfold maxLen; omega) w h)
  have H2 : Hid (∀ w, ScTab w → Calls Tryd.prog 10 #[.string ⟨(nmB m d).toArray⟩] w fun e W' => e = .returned (.tuple #[.agg #[.int .u64 1, .int .u64 1, .int .u64 4294967294, .int .u64 (IntKind.u64.wrap (2 ^ (m + 1))), .int .u64 (IntKind.u64.wrap (2 ^ d)), .bool true, .bool false], .int .i64 0, .int .i64 0]) ∧ Below w.heap.size w W') := Lib.hid (fun w h => parse_ok (okOf_ok (nmB_ok m hm d hd)) (by unfold maxLen; omega) w h)
  have H3 : Hid (∀ w, Calls Tryd.prog 19 #[.int .i64 ((m : Int) + 1)] w fun e w' => e = .returned (.string ⟨(digB (m + 1)).toArray⟩) ∧ Below w.heap.size w w') := Lib.hid (fun w => digits_any (m + 1) (by omega) w)
  have H4 := Lib.hid (fun w => digits_any d (by omega) w)
  have HL := Lib.hid (fun w h => lives_any w h)
  have hmx : Tryd.prog.follows .mixedOrders = true := by kernel_rfl
  have l1 := digB_len (m + 1)
  have l2 := digB_len d
  clear hT ln1 ln2 ln3 ln4
  go_enter Tryd.func9, Tryd.ntmps9
  go_wp2_with fail
  rw [HA.out]
  refine (H1.out _ HT.out.1).mono ?_
  rintro e w1 ⟨rfl, hb1⟩
  have z1 := hb1.size
  have hb1' := hb1.alloc z1 (.cells #[.int .u64 1, .int .u64 1, .int .u64 4294967294, .int .u64 (IntKind.u64.wrap (2 ^ (m + 1))), .int .u64 (IntKind.u64.wrap (2 ^ d)), .bool true, .bool false] 24)
  have r1 := heap_new w1 (.cells #[.int .u64 1, .int .u64 1, .int .u64 4294967294, .int .u64 (IntKind.u64.wrap (2 ^ (m + 1))), .int .u64 (IntKind.u64.wrap (2 ^ d)), .bool true, .bool false] 24)
  have zz : (w1.alloc (.cells #[.int .u64 1, .int .u64 1, .int .u64 4294967294, .int .u64 (IntKind.u64.wrap (2 ^ (m + 1))), .int .u64 (IntKind.u64.wrap (2 ^ d)), .bool true, .bool false] 24)).heap.size = w1.heap.size + 1 := by simp
  go_wp2_with fail
  generalize w1.alloc (.cells #[.int .u64 1, .int .u64 1, .int .u64 4294967294, .int .u64 (IntKind.u64.wrap (2 ^ (m + 1))), .int .u64 (IntKind.u64.wrap (2 ^ d)), .bool true, .bool false] 24) = W1 at *
  have HB1 := Lib.hid hb1'
  have R1 := Lib.hid r1
  clear hb1 hb1' r1
  refine (H3.out _).mono ?_
  rintro e W2 ⟨rfl, hb⟩
  have z2 := hb.size
  have R2 := Lib.hid (row_below hb (by omega) R1.out)
  have HB2 := Lib.hid (HB1.out.trans (hb.mono HB1.out.size))
  clear hb
  go_wp2_with fail
  refine (H4.out _).mono ?_
  rintro e W3 ⟨rfl, hb⟩
  have z3 := hb.size
  have R3 := Lib.hid (row_below hb (by omega) R2.out)
  have HB3 := Lib.hid (HB2.out.trans (hb.mono HB2.out.size))
  clear hb
  go_wp2_with fail
  rw [HB.out]
  refine (H2.out _ (HT.out.later HB3.out).1).mono ?_
  rintro e W4 ⟨rfl, hb⟩
  have z4 := hb.size
  have R4 := Lib.hid (row_below hb (by omega) R3.out)
  have HB4 := Lib.hid (HB3.out.trans (hb.mono HB3.out.size))
  clear hb
  have hb5 := HB4.out.alloc (by omega) (.cells #[.int .u64 1, .int .u64 1, .int .u64 4294967294, .int .u64 (IntKind.u64.wrap (2 ^ (m + 1))), .int .u64 (IntKind.u64.wrap (2 ^ d)), .bool true, .bool false] 24)
  have r5 := heap_old (.cells #[.int .u64 1, .int .u64 1, .int .u64 4294967294, .int .u64 (IntKind.u64.wrap (2 ^ (m + 1))), .int .u64 (IntKind.u64.wrap (2 ^ d)), .bool true, .bool false] 24) (by omega) R4.out
  have r5' := heap_new W4 (.cells #[.int .u64 1, .int .u64 1, .int .u64 4294967294, .int .u64 (IntKind.u64.wrap (2 ^ (m + 1))), .int .u64 (IntKind.u64.wrap (2 ^ d)), .bool true, .bool false] 24)
  have z5 : (W4.alloc (.cells #[.int .u64 1, .int .u64 1, .int .u64 4294967294, .int .u64 (IntKind.u64.wrap (2 ^ (m + 1))), .int .u64 (IntKind.u64.wrap (2 ^ d)), .bool true, .bool false] 24)).heap.size = W4.heap.size + 1 := by simp
  go_wp2_with fail
  generalize W4.alloc (.cells #[.int .u64 1, .int .u64 1, .int .u64 4294967294, .int .u64 (IntKind.u64.wrap (2 ^ (m + 1))), .int .u64 (IntKind.u64.wrap (2 ^ d)), .bool true, .bool false] 24) = W5 at *
  have HB5 := Lib.hid hb5
  have R5 := Lib.hid r5
  have R5' := Lib.hid r5'
  clear hb5 r5 r5'
  refine wp_region_held_drew (S := NmS w1.heap.size W4.heap.size #[.int .u64 1, .int .u64 1, .int .u64 4294967294, .int .u64 (IntKind.u64.wrap (2 ^ (m + 1))), .int .u64 (IntKind.u64.wrap (2 ^ d)), .bool true, .bool false]) hmx ⟨(cells_of_heap R5.out).1, (cells_of_heap R5'.out).1⟩ (fun hHeld => ?_)
  refine wpAnyH_ready (rs := [0]) (by kernel_rfl) (by simp) ?_
  refine AllReadyH.cons rfl (fun K hK => ?_) AllReadyH.nil
  go_simp
  go_at_call 12
  refine Calls.mono (HL.out _ (HT.out.later HB5.out.drew)) ?_
  rintro e W6 ⟨rfl, hb⟩
  go_wp2_with fail
  have HB6 := Lib.hid (HB5.out.drew.trans (hb.mono HB5.out.drew.size))
  refine hK.out _ _ ⟨(cells_of_heap (row_below hb (by show _ < W5.heap.size; omega) R5.out)).1, (cells_of_heap (row_below hb (by show _ < W5.heap.size; omega) R5'.out)).1⟩ (fun hHeld2 => ?_)
  clear hK K hb hHeld
  have hHeld := hHeld2
  clear hHeld2
  try simp only [Act.put, List.setIfInBounds_toArray, List.set_cons_zero, List.set_cons_succ, List.getElem_toArray, List.getElem_cons_succ, List.getElem_cons_zero]
  refine wpAnyH_take (i := 1) (v := ?v1) rfl (by kernel_rfl) (by kernel_rfl) (by kernel_rfl) (fun _ _ _ h => h) (Or.inl ⟨by rfl, ?hy1⟩) hHeld ?rest1
  case hy1 => (intro w' hSw; unfold NmS at hSw; go_simp; try with_reducible rfl)
  try simp only [Act.put, List.setIfInBounds_toArray, List.set_cons_zero, List.set_cons_succ, List.getElem_toArray, List.getElem_cons_succ, List.getElem_cons_zero]
  refine wpAnyH_take (i := 2) (v := ?v2) rfl (by kernel_rfl) (by kernel_rfl) (by kernel_rfl) (fun _ _ _ h => h) (Or.inl ⟨by rfl, ?hy2⟩) hHeld ?rest2
  case hy2 => (intro w' hSw; unfold NmS at hSw; go_simp; try with_reducible rfl)
  try simp only [Act.put, List.setIfInBounds_toArray, List.set_cons_zero, List.set_cons_succ, List.getElem_toArray, List.getElem_cons_succ, List.getElem_cons_zero]
  refine wpAnyH_take (i := 3) (v := ?v3) rfl (by kernel_rfl) (by kernel_rfl) (by kernel_rfl) (fun _ _ _ h => h) (Or.inl ⟨by rfl, ?hy3⟩) hHeld ?rest3
  case hy3 => (intro w' hSw; unfold NmS at hSw; go_simp; try with_reducible rfl)
  try simp only [Act.put, List.setIfInBounds_toArray, List.set_cons_zero, List.set_cons_succ, List.getElem_toArray, List.getElem_cons_succ, List.getElem_cons_zero]
  refine wpAnyH_take (i := 4) (v := ?v4) rfl (by kernel_rfl) (by kernel_rfl) (by kernel_rfl) (fun _ _ _ h => h) (Or.inl ⟨by rfl, ?hy4⟩) hHeld ?rest4
  case hy4 => (intro w' hSw; unfold NmS at hSw; go_simp; try with_reducible rfl)
  try simp only [Act.put, List.setIfInBounds_toArray, List.set_cons_zero, List.set_cons_succ, List.getElem_toArray, List.getElem_cons_succ, List.getElem_cons_zero]
  refine wpAnyH_take (i := 5) (v := ?v5) rfl (by kernel_rfl) (by kernel_rfl) (by kernel_rfl) (fun _ _ _ h => h) (Or.inl ⟨by rfl, ?hy5⟩) hHeld ?rest5
  case hy5 => (intro w' hSw; unfold NmS at hSw; go_simp; try with_reducible rfl)
  try simp only [Act.put, List.setIfInBounds_toArray, List.set_cons_zero, List.set_cons_succ, List.getElem_toArray, List.getElem_cons_succ, List.getElem_cons_zero]
  refine wpAnyH_take (i := 6) (v := ?v6) rfl (by kernel_rfl) (by kernel_rfl) (by kernel_rfl) (fun _ _ _ h => h) (Or.inl ⟨by rfl, ?hy6⟩) hHeld ?rest6
  case hy6 => (intro w' hSw; unfold NmS at hSw; go_simp; try with_reducible rfl)
  try simp only [Act.put, List.setIfInBounds_toArray, List.set_cons_zero, List.set_cons_succ, List.getElem_toArray, List.getElem_cons_succ, List.getElem_cons_zero]
  refine wpAnyH_take (i := 7) (v := ?v7) rfl (by kernel_rfl) (by kernel_rfl) (by kernel_rfl) (fun _ _ _ h => h) (Or.inl ⟨by rfl, ?hy7⟩) hHeld ?rest7
  case hy7 => (intro w' hSw; unfold NmS at hSw; go_simp; try with_reducible rfl)
  try simp only [Act.put, List.setIfInBounds_toArray, List.set_cons_zero, List.set_cons_succ, List.getElem_toArray, List.getElem_cons_succ, List.getElem_cons_zero]
  refine wpAnyH_take (i := 8) (v := ?v8) rfl (by kernel_rfl) (by kernel_rfl) (by kernel_rfl) (fun _ _ _ h => h) (Or.inl ⟨by rfl, ?hy8⟩) hHeld ?rest8
  case hy8 => (intro w' hSw; unfold NmS at hSw; go_simp; try with_reducible rfl)
  try simp only [Act.put, List.setIfInBounds_toArray, List.set_cons_zero, List.set_cons_succ, List.getElem_toArray, List.getElem_cons_succ, List.getElem_cons_zero]
  refine wpAnyH_take (i := 9) (v := ?v9) rfl (by kernel_rfl) (by kernel_rfl) (by kernel_rfl) (fun _ _ _ h => h) (Or.inl ⟨by rfl, ?hy9⟩) hHeld ?rest9
  case hy9 => (intro w' hSw; unfold NmS at hSw; go_simp; try with_reducible rfl)
  try simp only [Act.put, List.setIfInBounds_toArray, List.set_cons_zero, List.set_cons_succ, List.getElem_toArray, List.getElem_cons_succ, List.getElem_cons_zero]
  refine wpAnyH_take (i := 10) (v := ?v10) rfl (by kernel_rfl) (by kernel_rfl) (by kernel_rfl) (fun _ _ _ h => h) (Or.inl ⟨by rfl, ?hy10⟩) hHeld ?rest10
  case hy10 => (intro w' hSw; unfold NmS at hSw; go_simp; try with_reducible rfl)
  try simp only [Act.put, List.setIfInBounds_toArray, List.set_cons_zero, List.set_cons_succ, List.getElem_toArray, List.getElem_cons_succ, List.getElem_cons_zero]
  refine wpAnyH_take (i := 11) (v := ?v11) rfl (by kernel_rfl) (by kernel_rfl) (by kernel_rfl) (fun _ _ _ h => h) (Or.inl ⟨by rfl, ?hy11⟩) hHeld ?rest11
  case hy11 => (intro w' hSw; unfold NmS at hSw; go_simp; try with_reducible rfl)
  try simp only [Act.put, List.setIfInBounds_toArray, List.set_cons_zero, List.set_cons_succ, List.getElem_toArray, List.getElem_cons_succ, List.getElem_cons_zero]
  refine wpAnyH_take (i := 12) (v := ?v12) rfl (by kernel_rfl) (by kernel_rfl) (by kernel_rfl) (fun _ _ _ h => h) (Or.inl ⟨by rfl, ?hy12⟩) hHeld ?rest12
  case hy12 => (intro w' hSw; unfold NmS at hSw; go_simp; try with_reducible rfl)
  try simp only [Act.put, List.setIfInBounds_toArray, List.set_cons_zero, List.set_cons_succ, List.getElem_toArray, List.getElem_cons_succ, List.getElem_cons_zero]
  refine wpAnyH_take (i := 13) (v := ?v13) rfl (by kernel_rfl) (by kernel_rfl) (by kernel_rfl) (fun _ _ _ h => h) (Or.inl ⟨by rfl, ?hy13⟩) hHeld ?rest13
  case hy13 => (intro w' hSw; unfold NmS at hSw; go_simp; try with_reducible rfl)
  try simp only [Act.put, List.setIfInBounds_toArray, List.set_cons_zero, List.set_cons_succ, List.getElem_toArray, List.getElem_cons_succ, List.getElem_cons_zero]
  refine wpAnyH_take (i := 14) (v := ?v14) rfl (by kernel_rfl) (by kernel_rfl) (by kernel_rfl) (fun _ _ _ h => h) (Or.inl ⟨by rfl, ?hy14⟩) hHeld ?rest14
  case hy14 => (intro w' hSw; unfold NmS at hSw; go_simp; try with_reducible rfl)
  try simp only [Act.put, List.setIfInBounds_toArray, List.set_cons_zero, List.set_cons_succ, List.getElem_toArray, List.getElem_cons_succ, List.getElem_cons_zero]
  refine wpAnyH_take (i := 15) (v := ?v15) rfl (by kernel_rfl) (by kernel_rfl) (by kernel_rfl) (fun _ _ _ h => h) (Or.inl ⟨by rfl, ?hy15⟩) hHeld ?rest15
  case hy15 => (intro w' hSw; unfold NmS at hSw; go_simp; try with_reducible rfl)
  try simp only [Act.put, List.setIfInBounds_toArray, List.set_cons_zero, List.set_cons_succ, List.getElem_toArray, List.getElem_cons_succ, List.getElem_cons_zero]
  refine wpAnyH_take (i := 16) (v := ?v16) rfl (by kernel_rfl) (by kernel_rfl) (by kernel_rfl) (fun _ _ _ h => h) (Or.inl ⟨by rfl, ?hy16⟩) hHeld ?rest16
  case hy16 => (intro w' hSw; unfold NmS at hSw; go_simp; try with_reducible rfl)
  try simp only [Act.put, List.setIfInBounds_toArray, List.set_cons_zero, List.set_cons_succ, List.getElem_toArray, List.getElem_cons_succ, List.getElem_cons_zero]
  refine wpAnyH_take (i := 17) (v := ?v17) rfl (by kernel_rfl) (by kernel_rfl) (by kernel_rfl) (fun _ _ _ h => h) (Or.inl ⟨by rfl, ?hy17⟩) hHeld ?rest17
  case hy17 => (intro w' hSw; unfold NmS at hSw; go_simp; try with_reducible rfl)
  try simp only [Act.put, List.setIfInBounds_toArray, List.set_cons_zero, List.set_cons_succ, List.getElem_toArray, List.getElem_cons_succ, List.getElem_cons_zero]
  refine wpAnyH_take (i := 18) (v := ?v18) rfl (by kernel_rfl) (by kernel_rfl) (by kernel_rfl) (fun _ _ _ h => h) (Or.inl ⟨by rfl, ?hy18⟩) hHeld ?rest18
  case hy18 => (intro w' hSw; unfold NmS at hSw; go_simp; try with_reducible rfl)
  try simp only [Act.put, List.setIfInBounds_toArray, List.set_cons_zero, List.set_cons_succ, List.getElem_toArray, List.getElem_cons_succ, List.getElem_cons_zero]
  refine wpAnyH_take (i := 19) (v := ?v19) rfl (by kernel_rfl) (by kernel_rfl) (by kernel_rfl) (fun _ _ _ h => h) (Or.inl ⟨by rfl, ?hy19⟩) hHeld ?rest19
  case hy19 => (intro w' hSw; unfold NmS at hSw; go_simp; try with_reducible rfl)
  try simp only [Act.put, List.setIfInBounds_toArray, List.set_cons_zero, List.set_cons_succ, List.getElem_toArray, List.getElem_cons_succ, List.getElem_cons_zero]
  refine wpAnyH_take (i := 20) (v := ?v20) rfl (by kernel_rfl) (by kernel_rfl) (by kernel_rfl) (fun _ _ _ h => h) (Or.inl ⟨by rfl, ?hy20⟩) hHeld ?rest20
  case hy20 => (intro w' hSw; unfold NmS at hSw; go_simp; try with_reducible rfl)
  try simp only [Act.put, List.setIfInBounds_toArray, List.set_cons_zero, List.set_cons_succ, List.getElem_toArray, List.getElem_cons_succ, List.getElem_cons_zero]
  refine wpAnyH_take (i := 21) (v := ?v21) rfl (by kernel_rfl) (by kernel_rfl) (by kernel_rfl) (fun _ _ _ h => h) (Or.inl ⟨by rfl, ?hy21⟩) hHeld ?rest21
  case hy21 => (intro w' hSw; unfold NmS at hSw; go_simp; try with_reducible rfl)
  try simp only [Act.put, List.setIfInBounds_toArray, List.set_cons_zero, List.set_cons_succ, List.getElem_toArray, List.getElem_cons_succ, List.getElem_cons_zero]
  refine wpAnyH_take (i := 22) (v := ?v22) rfl (by kernel_rfl) (by kernel_rfl) (by kernel_rfl) (fun _ _ _ h => h) (Or.inl ⟨by rfl, ?hy22⟩) hHeld ?rest22
  case hy22 => (intro w' hSw; unfold NmS at hSw; go_simp; try with_reducible rfl)
  try simp only [Act.put, List.setIfInBounds_toArray, List.set_cons_zero, List.set_cons_succ, List.getElem_toArray, List.getElem_cons_succ, List.getElem_cons_zero]
  refine wpAnyH_take (i := 23) (v := ?v23) rfl (by kernel_rfl) (by kernel_rfl) (by kernel_rfl) (fun _ _ _ h => h) (Or.inl ⟨by rfl, ?hy23⟩) hHeld ?rest23
  case hy23 => (intro w' hSw; unfold NmS at hSw; go_simp; try with_reducible rfl)
  try simp only [Act.put, List.setIfInBounds_toArray, List.set_cons_zero, List.set_cons_succ, List.getElem_toArray, List.getElem_cons_succ, List.getElem_cons_zero]
  refine wpAnyH_take (i := 24) (v := ?v24) rfl (by kernel_rfl) (by kernel_rfl) (by kernel_rfl) (fun _ _ _ h => h) (Or.inl ⟨by rfl, ?hy24⟩) hHeld ?rest24
  case hy24 => (intro w' hSw; unfold NmS at hSw; go_simp; try with_reducible rfl)
  try simp only [Act.put, List.setIfInBounds_toArray, List.set_cons_zero, List.set_cons_succ, List.getElem_toArray, List.getElem_cons_succ, List.getElem_cons_zero]
  refine wpAnyH_take (i := 25) (v := ?v25) rfl (by kernel_rfl) (by kernel_rfl) (by kernel_rfl) (fun _ _ _ h => h) (Or.inl ⟨by rfl, ?hy25⟩) hHeld ?rest25
  case hy25 => (intro w' hSw; unfold NmS at hSw; go_simp; try with_reducible rfl)
  try simp only [Act.put, List.setIfInBounds_toArray, List.set_cons_zero, List.set_cons_succ, List.getElem_toArray, List.getElem_cons_succ, List.getElem_cons_zero]
  refine wpAnyH_take (i := 26) (v := ?v26) rfl (by kernel_rfl) (by kernel_rfl) (by kernel_rfl) (fun _ _ _ h => h) (Or.inl ⟨by rfl, ?hy26⟩) hHeld ?rest26
  case hy26 => (intro w' hSw; unfold NmS at hSw; go_simp; try with_reducible rfl)
  try simp only [Act.put, List.setIfInBounds_toArray, List.set_cons_zero, List.set_cons_succ, List.getElem_toArray, List.getElem_cons_succ, List.getElem_cons_zero]
  refine wpAnyH_take (i := 27) (v := ?v27) rfl (by kernel_rfl) (by kernel_rfl) (by kernel_rfl) (fun _ _ _ h => h) (Or.inl ⟨by rfl, ?hy27⟩) hHeld ?rest27
  case hy27 => (intro w' hSw; unfold NmS at hSw; go_simp; try with_reducible rfl)
  try simp only [Act.put, List.setIfInBounds_toArray, List.set_cons_zero, List.set_cons_succ, List.getElem_toArray, List.getElem_cons_succ, List.getElem_cons_zero]
  refine wpAnyH_take (i := 28) (v := ?v28) rfl (by kernel_rfl) (by kernel_rfl) (by kernel_rfl) (fun _ _ _ h => h) (Or.inl ⟨by rfl, ?hy28⟩) hHeld ?rest28
  case hy28 => (intro w' hSw; unfold NmS at hSw; go_simp; try with_reducible rfl)
  try simp only [Act.put, List.setIfInBounds_toArray, List.set_cons_zero, List.set_cons_succ, List.getElem_toArray, List.getElem_cons_succ, List.getElem_cons_zero]
  refine wpAnyH_done (by kernel_rfl) ?_ _
  clear hHeld
  go_wp2_with fail
  go_ret
  exact ⟨rfl, HB6.out⟩

set_option maxHeartbeats 3200000 in
set_option maxRecDepth 100000 in
theorem names_out (month day : Int) (h : month < 1 ∨ 12 < month ∨ day < 0 ∨ 6 < day) (w : World) (hT : Tabs w) :
    Calls Tryd.prog 9 #[.int .i64 month, .int .i64 day] w fun e w' => e = .returned (.bool true) ∧ Below w.heap.size w w' := by
  have HT := Lib.hid hT
  have HL := Lib.hid (fun w h => lives_any w h)
  clear hT
  rcases h with h | h | h | h
  all_goals
    go_enter Tryd.func9, Tryd.ntmps9
    go_wp2_with ((go_at_call 12; refine (HL.out _ HT.out).mono ?_; rintro e w1 ⟨rfl, hb⟩))
    all_goals (go_ret; exact ⟨rfl, hb⟩)
theorem law_names (month day : Int) (w : World) (hT : Tabs w) :
    Calls Tryd.prog 9 #[.int .i64 month, .int .i64 day] w fun e w' => e = .returned (.bool true) ∧ Below w.heap.size w w' := by
  by_cases h : month < 1 ∨ 12 < month ∨ day < 0 ∨ 6 < day
  · exact names_out month day h w hT
  · have := names_in (month - 1).toNat day.toNat (by omega) (by omega) w hT
    rw [show (((month - 1).toNat + 1 : Nat) : Int) = month by omega, show ((day.toNat : Nat) : Int) = day by omega] at this
    exact this
end Go.Proofs.YtbbleedepmcdfaaDoor
