/- Walks of package job: within, maySpec, maySelect, May; the reference's May. -/
import Derived.Test.YtnikhhbnbeljeaaGreatDoorCroU
import Derived.Test.YtnikhhbnbeljeaaGreatDoorLabJ
import Derived.WalkSmall
import Derived.WalkLawsBesides
set_option linter.unusedSimpArgs false
set_option linter.unusedVariables false
namespace Go.Proofs.YtnikhhbnbeljeaaGreatDoor.PL
open Go.ChangeShapes Go.WideShapes Go.ChangeAt Go.RowKit Go.Base Go.Lab Go.Civ

/-- A job. -/
structure Jb where
  name : Bytes
  sp : Sp
  sa : Option Addr
  sel : List LB.Cl
  sc : Nat
  jit : Int
  wav : Int
  fai : Int
  par : Int
  dea : Int
  mis : Int
  bnd : Int
def jobC (j : Jb) : Array Value := #[.string ⟨j.name.toArray⟩, .int .u64 j.sp.mi, .int .u64 j.sp.ho, .int .u64 j.sp.da, .int .u64 j.sp.mo, .int .u64 j.sp.we, .bool j.sp.ad, .bool j.sp.aw, .slice j.sa j.sel.length j.sc, .int .i64 j.jit, .int .i64 j.wav, .int .i64 j.fai, .int .i64 j.par, .int .i64 j.dea, .int .i64 j.mis, .int .i64 j.bnd]
def jobV (j : Jb) : Value := .agg (jobC j)
def I64 (n : Int) : Prop := -9223372036854775808 ≤ n ∧ n ≤ 9223372036854775807
/-- What a job's parts are, and that its selector lies in the world. -/
structure Jb.Ok (j : Jb) (w : World) : Prop where
  nm : j.name.length ≤ maxLen
  sp : SpOk j.sp
  cl : LB.Cls w j.sa j.sel
  cm : j.sel.length ≤ maxLen
  jit : I64 j.jit
  wav : I64 j.wav
  fai : I64 j.fai
  par : I64 j.par
  dea : I64 j.dea
  mis : I64 j.mis
  bnd : I64 j.bnd
theorem Jb.Ok.later {j : Jb} {w w' : World} (h : j.Ok w) (hb : Below w.heap.size w w') : j.Ok w' :=
  { h with cl := h.cl.later hb }
def wthB (n a b : Int) : Bool := decide (a ≤ n) && decide (n ≤ b)
theorem wthB_iff {n a b : Int} : wthB n a b = true ↔ a ≤ n ∧ n ≤ b := by unfold wthB; simp
theorem wthB_no {n a b : Int} : wthB n a b = false ↔ ¬ (a ≤ n ∧ n ≤ b) := by rw [← wthB_iff]; simp
theorem within_any (n a b : Int) (w : World) :
    Calls Tryz.prog 54 #[.int .i64 n, .int .i64 a, .int .i64 b] w fun e w' => e = .returned (.bool (wthB n a b)) ∧ w = w' := by
  by_cases h : a ≤ n
  · go_enter Tryz.func54, Tryz.ntmps54
    go_wp2
    go_ret
    exact ⟨ret_bool (by unfold wthB; simp [h] <;> omega), rfl⟩
  · go_enter Tryz.func54, Tryz.ntmps54
    go_wp2
    go_ret
    exact ⟨ret_bool (by unfold wthB; simp [h] <;> omega), rfl⟩
theorem refWithin_any (n a b : Int) (w : World) :
    Calls Tryz.prog 56 #[.int .i64 n, .int .i64 a, .int .i64 b] w fun e w' => e = .returned (.bool (wthB n a b)) ∧ w = w' := by
  by_cases h : a ≤ n
  · go_enter Tryz.func56, Tryz.ntmps56
    go_wp2
    go_ret
    exact ⟨ret_bool (by unfold wthB; simp [h] <;> omega), rfl⟩
  · go_enter Tryz.func56, Tryz.ntmps56
    go_wp2
    go_ret
    exact ⟨ret_bool (by unfold wthB; simp [h] <;> omega), rfl⟩
def specB (s : Sp) : Bool := wthB (printT s).length 1 256
def selB (cs : List LB.Cl) : Bool := decide (cs.length = 0) || wthB (LB.printB cs).length 1 512
set_option maxHeartbeats 1000000 in
theorem maySpec_any (s : Sp) (hs : SpOk s) (w : World) (hT : ScTab w) :
    Calls Tryz.prog 52 #[spV s] w fun e w' => e = .returned (.bool (specB s)) ∧ Below w.heap.size w w' := by
  have HP := Lib.hid (fun w => print_any s hs w)
  have HT := Lib.hid hT
  have HB : Hid (specB s = wthB (printT s).length 1 256) := Lib.hid rfl
  rw [HB.out]
  clear HB hT hs
  generalize printT s = t at *
  obtain ⟨mi, ho, da, mo, we, ad, aw⟩ := s
  go_enter Tryz.func52, Tryz.ntmps52
  go_wp2_with (first | (go_at_call 44; refine (HP.out _ (HT.out.later (below_alloc _ _))).mono ?_; rintro e w1 ⟨rfl, hb⟩; have HB1 := Lib.hid ((below_alloc w _).trans (hb.mono (by simp))); clear hb) | (go_at_call 54; refine (within_any _ _ _ _).mono ?_; rintro e w' ⟨rfl, rfl⟩))
  go_ret
  exact ⟨rfl, HB1.out⟩
set_option maxHeartbeats 1000000 in
theorem maySelect_any (A : Option Addr) (cs : List LB.Cl) (c : Nat) (w : World) (hC : LB.Cls w A cs) (hm : cs.length ≤ maxLen) :
    Calls Tryz.prog 53 #[.slice A cs.length c] w fun e w' => e = .returned (.bool (selB cs)) ∧ Below w.heap.size w w' := by
  have HP := Lib.hid (LB.print_any A cs c w hC hm)
  by_cases h0 : cs.length = 0
  · have HB : Hid (selB cs = true) := Lib.hid (by unfold selB; simp [h0])
    rw [HB.out, h0]
    clear HP h0 HB
    go_enter Tryz.func53, Tryz.ntmps53
    go_wp2
    go_ret
    exact ⟨rfl, Below.refl _ _⟩
  · have HB : Hid (selB cs = wthB (LB.printB cs).length 1 512) := Lib.hid (by unfold selB; simp [h0])
    have h1 : ((cs.length : Int) == 0) = false := by simpa using h0
    rw [HB.out]
    clear HB h0 hC
    generalize LB.printB cs = t at *
    generalize cs.length = n at *
    go_enter Tryz.func53, Tryz.ntmps53
    go_wp2_with (first | (go_at_call 63; refine HP.out.mono ?_; rintro e w1 ⟨rfl, hb⟩; have HB1 := Lib.hid hb; clear hb) | (go_at_call 54; refine (within_any _ _ _ _).mono ?_; rintro e w' ⟨rfl, rfl⟩))
    go_ret
    exact ⟨rfl, HB1.out⟩
end Go.Proofs.YtnikhhbnbeljeaaGreatDoor.PL
