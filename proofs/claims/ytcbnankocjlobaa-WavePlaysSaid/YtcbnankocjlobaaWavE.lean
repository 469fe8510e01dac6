/- Package wave: tooMany, isRoom. -/
import Derived.Test.YtcbnankocjlobaaWavD
set_option linter.unusedSimpArgs false
set_option linter.unusedVariables false
namespace Go.Proofs.Ytcbnankocjlobaa
open Go.ChangeShapes Go.WideShapes Go.ChangeAt Go.RowKit Go.Base Go.Maps

/-- A job's cells: of these the layer reads two. -/
structure JA (C : Array Value) (fai par : Int) : Prop where
  size : C.size = 16
  f : C[11]? = some (.int .i64 fai)
  p : C[12]? = some (.int .i64 par)
  one : C.toList.all (·.oneCell') = true
  ff : I64 fai
  pp : I64 par
theorem szJb : (Try.prog.info? 27).map (·.size) = some 16 := by kernel_rfl
def clF (fai : Int) : Int := min (max fai (-1)) 100
/-- Did more fail than may? -/
def badN (fai : Int) (f n : Nat) : Bool := decide (clF fai * (n : Int) < 100 * (f : Int))
def roomB (par on : Int) : Bool := decide (par ≤ 0) || decide (on < par)
theorem clF_bd (fai : Int) : -1 ≤ clF fai ∧ clF fai ≤ 100 := by unfold clF; omega
theorem tooMany_any (C : Array Value) (fai par : Int) (hJ : JA C fai par) (f n : Nat) (hf : f ≤ 2199023255552) (hn : n ≤ 2199023255552) (w : World) :
    Calls Try.prog 28 #[.agg C, .int .i64 (f : Int), .int .i64 (n : Int)] w fun e w' => e = .returned (.bool (badN fai f n)) ∧ Below w.heap.size w w' := by
  have c11 : (w.alloc (.cells C 27)).cell? ⟨w.heap.size, 11, none⟩ = some (.int .i64 fai) := by rw [cell_new]; exact hJ.f
  have HV : Hid (badN fai f n = decide (clF fai * (n : Int) < 100 * (f : Int))) := Lib.hid rfl
  obtain ⟨h1, h2⟩ := hJ.ff
  have hw : wrap64 (clF fai * (n : Int)) = clF fai * (n : Int) := (by
    have hcl := clF_bd fai
    have h3 := Int.mul_le_mul_of_nonneg_right hcl.1 (show (0 : Int) ≤ (n : Int) by omega)
    have h4 := Int.mul_le_mul_of_nonneg_right hcl.2 (show (0 : Int) ≤ (n : Int) by omega)
    unfold wrap64; omega)
  rcases (by omega : fai < -1 ∨ (-1 ≤ fai ∧ fai ≤ 100) ∨ 100 < fai) with h | ⟨h, h'⟩ | h
  · have HC : Hid (clF fai = -1) := Lib.hid (by unfold clF; omega)
    rw [HC.out, Int.neg_one_mul] at hw
    have hi : (if fai < -1 then -1 else fai) = -1 := if_pos h
    clear hJ
    go_enter Try.func28, Try.ntmps28
    go_wp2
    go_ret
    exact ⟨ret_bool (by rw [HV.out, HC.out, Int.neg_one_mul]), below_alloc _ _⟩
  · have HC : Hid (clF fai = fai) := Lib.hid (by unfold clF; omega)
    rw [HC.out] at hw
    have hi : (if fai < -1 then -1 else fai) = fai := if_neg (by omega)
    have h3 : ¬ 100 < fai := by omega
    clear hJ
    go_enter Try.func28, Try.ntmps28
    go_wp2
    go_ret
    exact ⟨ret_bool (by rw [HV.out, HC.out]), below_alloc _ _⟩
  · have HC : Hid (clF fai = 100) := Lib.hid (by unfold clF; omega)
    rw [HC.out] at hw
    have hi : (if fai < -1 then -1 else fai) = fai := if_neg (by omega)
    clear hJ
    go_enter Try.func28, Try.ntmps28
    go_wp2
    go_ret
    exact ⟨ret_bool (by rw [HV.out, HC.out]; exact decide_eq_decide.2 (by omega)), below_alloc _ _⟩
theorem isRoom_any (C : Array Value) (fai par : Int) (hJ : JA C fai par) (on : Int) (w : World) :
    Calls Try.prog 22 #[.agg C, .int .i64 on] w fun e w' => e = .returned (.bool (roomB par on)) ∧ Below w.heap.size w w' := by
  have c12 : (w.alloc (.cells C 27)).cell? ⟨w.heap.size, 12, none⟩ = some (.int .i64 par) := by rw [cell_new]; exact hJ.p
  by_cases h : par ≤ 0
  · clear hJ
    go_enter Try.func22, Try.ntmps22
    go_wp2
    go_ret
    exact ⟨ret_bool (by unfold roomB; simp [h]), below_alloc _ _⟩
  · clear hJ
    go_enter Try.func22, Try.ntmps22
    go_wp2
    go_ret
    exact ⟨ret_bool (by unfold roomB; rw [decide_eq_false (by omega : ¬ par ≤ 0)]; rfl), below_alloc _ _⟩
end Go.Proofs.Ytcbnankocjlobaa
