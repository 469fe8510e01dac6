/- Walk of package cron: the parse of a text, what lies ahead of it. -/
import Derived.Test.YtbbleedepmcdfaaDoorCroK
set_option linter.unusedSimpArgs false
set_option linter.unusedVariables false
namespace Go.Proofs.YtbbleedepmcdfaaDoor
open Go.ChangeShapes Go.WideShapes Go.ChangeAt Go.RowKit Go.Base Go.Cro Go.Shelf
attribute [local go_sem] Oper.semAt_some

/-- The fields that have come: their marks, or the fault and its place. -/
def foldP : List Bytes → List (Int × Bool) → Except (Int × Nat) (List (Int × Bool))
  | [], ms => .ok ms
  | x :: r, ms => if ms.length = 5 then .error (20, 5) else
    match fieldB ms.length x with
    | .error e => .error (e, ms.length)
    | .ok m => foldP r (ms ++ [m])
theorem foldP_append : ∀ (a r : List Bytes) (ms : List (Int × Bool)), foldP (a ++ r) ms = match foldP a ms with
    | .error e => .error e
    | .ok ms' => foldP r ms'
  | [], r, ms => rfl
  | x :: a, r, ms => by
    simp only [List.cons_append, foldP]
    split
    · rfl
    · cases fieldB ms.length x with
      | error e => rfl
      | ok m => exact foldP_append a r _
theorem parseFrom_fold : ∀ (l : List Bytes) (ms : List (Int × Bool)), parseFrom l ms.length ms = match foldP l ms with
    | .error e => .error e
    | .ok ms' => if ms'.length < 5 then .error (20, ms'.length) else .ok ms'
  | [], ms => by simp only [parseFrom, foldP]
  | x :: r, ms => by
    simp only [parseFrom, foldP]
    by_cases h : ms.length = 5
    · rw [if_pos h, if_pos h]
    · rw [if_neg h, if_neg h]
      cases fieldB ms.length x with
      | error e => rfl
      | ok m =>
        simp only
        have := parseFrom_fold r (ms ++ [m])
        rw [List.length_append] at this
        exact this
def fsOf (pre : List Part) : List Bytes := (pre.map (·.1)).filter (· ≠ [])

/-- The table of the fields' scopes lies in its variable. -/
def ScTab (w : World) : Prop := ∀ i : Nat, i < 15 → w.cell? ⟨0, i, none⟩ = some (.int .i64 (([0, 59, 59, 0, 23, 23, 1, 31, 31, 1, 12, 12, 0, 6, 7] : List Int).getD i 0))
theorem ScTab.later {w w' : World} (h : ScTab w) (hb : Below w.heap.size w w') : ScTab w' := fun k hk => by
  have c := h k hk
  rw [hb.cell (World.block_lt_of_cell? w _ c)]; exact c

/-- What Parse hands back. -/
def ParsePost (l : Bytes) (e : Ending) : Prop := (∀ e' p, parseB l = .error (e', p) → e = .returned (.tuple #[specV [], .int .i64 e', .int .i64 (p : Nat)])) ∧
  (∀ ms, parseB l = .ok ms → e = .returned (.tuple #[specV ms, .int .i64 0, .int .i64 0]))

set_option maxHeartbeats 1000000 in
theorem parse_long (l : Bytes) (w : World) (hl : l.length ≤ maxLen) (h : 256 < l.length) :
    Calls Tryd.prog 10 #[.string ⟨l.toArray⟩] w fun e W' => ParsePost l e ∧ Below w.heap.size w W' := by
  have HP : Hid (parseB l = .error (3, 0)) := Lib.hid (by unfold parseB; rw [if_pos h])
  have hs : (256 : Int) < ((⟨l.toArray⟩ : ByteArray).size : Int) := by simp [ByteArray.size]; omega
  have hs2 : ((⟨l.toArray⟩ : ByteArray).size : Int) ≤ 9223372036854775807 := by unfold maxLen at hl; simp [ByteArray.size]; omega
  have hs3 : (256 : Int) < (l.length : Int) := by omega
  clear hl h
  go_enter Tryd.func10, Tryd.ntmps10
  go_wp2_with fail
  refine bodyPost_ret (v := .tuple #[.agg #[.int .u64 0, .int .u64 0, .int .u64 0, .int .u64 0, .int .u64 0, .bool false, .bool false], .int .i64 3, .int .i64 0]) (by simp [results, Tryd.results10, go_sem]) rfl ⟨⟨?_, ?_⟩, by go_grown⟩
  · intro e' p he; rw [HP.out] at he; cases he; rfl
  · intro ms hm; rw [HP.out] at hm; cases hm
end Go.Proofs.YtbbleedepmcdfaaDoor
