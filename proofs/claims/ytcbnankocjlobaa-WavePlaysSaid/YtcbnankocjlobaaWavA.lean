/- Package wave: steps; function values that ask of a step; isAll. -/
import Derived.Test.YtcbnankocjlobaaOpen
import Derived.Test.YtcbnankocjlobaaMoved
import Derived.WalkSmall
import Derived.Deep.MidRow
set_option linter.unusedSimpArgs false
set_option linter.unusedVariables false
namespace Go.Proofs.Ytcbnankocjlobaa
open Go.ChangeShapes Go.WideShapes Go.ChangeAt Go.RowKit Go.Base

def I64 (n : Int) : Prop := -9223372036854775808 ≤ n ∧ n ≤ 9223372036854775807
/-- A step. -/
structure Stp where
  job : List UInt8
  occ : Int
  host : Int
  ver : Int
  at_ : Int
  un : Int
  wv : Int
  st : Int
  out : Int
  rs : Int
instance : Inhabited Stp := ⟨⟨[], 0, 0, 0, 0, 0, 0, 0, 0, 0⟩⟩
def stC (s : Stp) : List Value := [.string ⟨s.job.toArray⟩, .int .i64 s.occ, .int .i64 s.host, .int .i64 s.ver, .int .i64 s.at_, .int .i64 s.un, .int .i64 s.wv, .int .i64 s.st, .int .i64 s.out, .int .i64 s.rs]
/-- The steps of a slice. -/
def Stps (w : World) (A : Option Addr) (l : List Stp) : Prop := ∀ (i : Nat) (h : i < l.length), ∃ b o, A = some ⟨b, o, none⟩ ∧ w.rangeAt b (o + i * 10) (stC l[i])
theorem Stps.later {w w' : World} {A : Option Addr} {l : List Stp} (h : Stps w A l) (hb : Below w.heap.size w w') : Stps w' A l := fun i hi => by
  obtain ⟨b, o, e, hr⟩ := h i hi
  exact ⟨b, o, e, fun j v hv => cell_later hb (hr j v hv)⟩
theorem st_cells {w : World} {b o : Nat} {s : Stp} (h : w.rangeAt b o (stC s)) : w.cell? ⟨b, o, none⟩ = some (.string ⟨s.job.toArray⟩) ∧ w.cell? ⟨b, o + 1, none⟩ = some (.int .i64 s.occ) ∧ w.cell? ⟨b, o + 2, none⟩ = some (.int .i64 s.host) ∧ w.cell? ⟨b, o + 3, none⟩ = some (.int .i64 s.ver) ∧ w.cell? ⟨b, o + 4, none⟩ = some (.int .i64 s.at_) ∧ w.cell? ⟨b, o + 5, none⟩ = some (.int .i64 s.un) ∧ w.cell? ⟨b, o + 6, none⟩ = some (.int .i64 s.wv) ∧ w.cell? ⟨b, o + 7, none⟩ = some (.int .i64 s.st) ∧ w.cell? ⟨b, o + 8, none⟩ = some (.int .i64 s.out) ∧ w.cell? ⟨b, o + 9, none⟩ = some (.int .i64 s.rs) :=
  ⟨h 0 _ rfl, h 1 _ rfl, h 2 _ rfl, h 3 _ rfl, h 4 _ rfl, h 5 _ rfl, h 6 _ rfl, h 7 _ rfl, h 8 _ rfl, h 9 _ rfl⟩
/-- What is asked of a step. -/
def leftB (s : Stp) : Bool := s.st == 1 || s.st == 2
def goodB (s : Stp) : Bool := s.st == 3 && s.out == 1
def failB (s : Stp) : Bool := s.st == 3 && s.out != 1
/-- A function value that asks. -/
inductive Fnv where
  | left
  | good
  | fail
  | st (b : Nat) (k : Int)
  | wv (b : Nat) (k : Int)
instance : Inhabited Fnv := ⟨.left⟩
def Fnv.val : Fnv → Value
  | .left => .func (.func 27) #[] #[]
  | .good => .func (.func 24) #[] #[]
  | .fail => .func (.func 25) #[] #[]
  | .st b _ => .func (.func 33) #[] #[.pointer (some ⟨b, 0, none⟩)]
  | .wv b _ => .func (.func 34) #[] #[.pointer (some ⟨b, 0, none⟩)]
def Fnv.ev : Fnv → Stp → Bool
  | .left, s => leftB s
  | .good, s => goodB s
  | .fail, s => failB s
  | .st _ k, s => s.st == k
  | .wv _ k, s => s.wv == k
def Fnv.In (w : World) : Fnv → Prop
  | .st b k => w.cell? ⟨b, 0, none⟩ = some (.int .i64 k)
  | .wv b k => w.cell? ⟨b, 0, none⟩ = some (.int .i64 k)
  | _ => True
theorem Fnv.In.later {w w' : World} {f : Fnv} (h : f.In w) (hb : Below w.heap.size w w') : f.In w' := by
  cases f <;> first | trivial | exact cell_later hb h
theorem in_fail (w : World) : Fnv.In w .fail := trivial
/-- The function values of a slice. -/
def Fns (w : World) (A : Option Addr) (l : List Fnv) : Prop := ∀ (i : Nat) (h : i < l.length), ∃ b o, A = some ⟨b, o, none⟩ ∧ w.cell? ⟨b, o + i, none⟩ = some l[i].val ∧ l[i].In w
theorem Fns.later {w w' : World} {A : Option Addr} {l : List Fnv} (h : Fns w A l) (hb : Below w.heap.size w w') : Fns w' A l := fun i hi => by
  obtain ⟨b, o, e, hc, hin⟩ := h i hi
  exact ⟨b, o, e, cell_later hb hc, hin.later hb⟩
theorem Fns.nil (w : World) (A : Option Addr) : Fns w A [] := fun i hi => absurd hi (Nat.not_lt_zero _)
def allF (l : List Fnv) (s : Stp) : Bool := l.all (fun f => f.ev s)

theorem left_any (s : Stp) (w : World) : Calls Try.prog 27 #[.agg (stC s).toArray] w fun e w' => e = .returned (.bool (leftB s)) ∧ Below w.heap.size w w' := by
  obtain ⟨job, occ, host, ver, at_, un, wv, st, out, rs⟩ := s
  simp only [stC, leftB]
  cases h : (st == 1)
  · go_enter Try.func27, Try.ntmps27
    go_wp2
    go_ret
    exact ⟨rfl, below_alloc _ _⟩
  · go_enter Try.func27, Try.ntmps27
    go_wp2
    go_ret
    exact ⟨rfl, below_alloc _ _⟩
theorem good_any (s : Stp) (w : World) : Calls Try.prog 24 #[.agg (stC s).toArray] w fun e w' => e = .returned (.bool (goodB s)) ∧ Below w.heap.size w w' := by
  obtain ⟨job, occ, host, ver, at_, un, wv, st, out, rs⟩ := s
  simp only [stC, goodB]
  cases h : (st == 3)
  · go_enter Try.func24, Try.ntmps24
    go_wp2
    go_ret
    exact ⟨rfl, below_alloc _ _⟩
  · go_enter Try.func24, Try.ntmps24
    go_wp2
    go_ret
    exact ⟨rfl, below_alloc _ _⟩
theorem failed_any (s : Stp) (w : World) : Calls Try.prog 25 #[.agg (stC s).toArray] w fun e w' => e = .returned (.bool (failB s)) ∧ Below w.heap.size w w' := by
  obtain ⟨job, occ, host, ver, at_, un, wv, st, out, rs⟩ := s
  simp only [stC, failB]
  cases h : (st == 3)
  · go_enter Try.func25, Try.ntmps25
    go_wp2
    go_ret
    exact ⟨rfl, below_alloc _ _⟩
  · go_enter Try.func25, Try.ntmps25
    go_wp2
    go_ret
    exact ⟨rfl, below_alloc _ _⟩
theorem is1_any (s : Stp) (b : Nat) (k : Int) (w : World) (hb : w.cell? ⟨b, 0, none⟩ = some (.int .i64 k)) :
    Calls Try.prog 33 #[.agg (stC s).toArray, .pointer (some ⟨b, 0, none⟩)] w fun e w' => e = .returned (.bool (s.st == k)) ∧ Below w.heap.size w w' := by
  have hbl : b < w.heap.size := World.block_lt_of_cell? w _ hb
  obtain ⟨job, occ, host, ver, at_, un, wv, st, out, rs⟩ := s
  simp only [stC]
  go_enter Try.func33, Try.ntmps33
  go_wp2
  go_ret
  exact ⟨rfl, below_alloc _ _⟩
theorem isOf1_any (s : Stp) (b : Nat) (k : Int) (w : World) (hb : w.cell? ⟨b, 0, none⟩ = some (.int .i64 k)) :
    Calls Try.prog 34 #[.agg (stC s).toArray, .pointer (some ⟨b, 0, none⟩)] w fun e w' => e = .returned (.bool (s.wv == k)) ∧ Below w.heap.size w w' := by
  have hbl : b < w.heap.size := World.block_lt_of_cell? w _ hb
  obtain ⟨job, occ, host, ver, at_, un, wv, st, out, rs⟩ := s
  simp only [stC]
  go_enter Try.func34, Try.ntmps34
  go_wp2
  go_ret
  exact ⟨rfl, below_alloc _ _⟩
/-- is, isOf: the function value, its block new. -/
theorem is_any (k : Int) (w : World) : Calls Try.prog 21 #[.int .i64 k] w fun e w' => e = .returned (.func (.func 33) #[] #[.pointer (some ⟨w.heap.size, 0, none⟩)]) ∧ (Fnv.st w.heap.size k).In w' ∧ Below w.heap.size w w' := by
  go_enter Try.func21, Try.ntmps21
  go_wp2
  go_ret
  exact ⟨rfl, by show World.cell? _ _ = _; rw [cell_new]; rfl, below_alloc _ _⟩
theorem isOf_any (k : Int) (w : World) : Calls Try.prog 29 #[.int .i64 k] w fun e w' => e = .returned (.func (.func 34) #[] #[.pointer (some ⟨w.heap.size, 0, none⟩)]) ∧ (Fnv.wv w.heap.size k).In w' ∧ Below w.heap.size w w' := by
  go_enter Try.func29, Try.ntmps29
  go_wp2
  go_ret
  exact ⟨rfl, by show World.cell? _ _ = _; rw [cell_new]; rfl, below_alloc _ _⟩
end Go.Proofs.Ytcbnankocjlobaa
