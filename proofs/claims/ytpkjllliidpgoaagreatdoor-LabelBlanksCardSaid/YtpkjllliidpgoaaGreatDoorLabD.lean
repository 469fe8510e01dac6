/- Walks of package label: the order of keys. -/
import Derived.Test.YtpkjllliidpgoaaGreatDoorLabC
import Derived.Test.YtpkjllliidpgoaaGreatDoorLabE
set_option linter.unusedSimpArgs false
set_option linter.unusedVariables false
namespace Go.Proofs.YtpkjllliidpgoaaGreatDoor
open Go.ChangeShapes Go.WideShapes Go.ChangeAt Go.RowKit Go.Base Go.Lab

theorem isNaN_any (s : ByteArray) (w : World) :
    Calls Tryz.prog 44 #[.string s] w fun e w' => e = .returned (.bool false) ∧ w = w' := by
  go_enter Tryz.func44, Tryz.ntmps44
  go_wp2
  go_ret
  exact ⟨rfl, rfl⟩
def cmpB (a b : Bytes) : Int := if Op.bytesLess a b then -1 else if a == b then 0 else 1
set_option maxHeartbeats 1000000 in
theorem compare_any (a b : Bytes) (w : World) :
    Calls Tryz.prog 26 #[strV a, strV b] w fun e w' => e = .returned (.int .i64 (cmpB a b)) ∧ w = w' := by
  have HC : Hid (cmpB a b = if Op.bytesLess a b then -1 else if a == b then 0 else 1) := Lib.hid rfl
  cases h1 : Op.bytesLess a b
  · cases h2 : (a == b)
    · have HR : Hid (cmpB a b = 1) := Lib.hid (by rw [HC.out, h1, h2]; rfl)
      go_enter Tryz.func26, Tryz.ntmps26
      go_wp2_with (go_at_call 44; refine (isNaN_any _ _).mono ?_; rintro e w1 ⟨rfl, rfl⟩)
      go_ret
      exact ⟨by rw [HR.out]; rfl, rfl⟩
    · have HR : Hid (cmpB a b = 0) := Lib.hid (by rw [HC.out, h1, h2]; rfl)
      go_enter Tryz.func26, Tryz.ntmps26
      go_wp2_with (go_at_call 44; refine (isNaN_any _ _).mono ?_; rintro e w1 ⟨rfl, rfl⟩)
      go_ret
      exact ⟨by rw [HR.out]; rfl, rfl⟩
  · have HR : Hid (cmpB a b = -1) := Lib.hid (by rw [HC.out, h1]; rfl)
    go_enter Tryz.func26, Tryz.ntmps26
    go_wp2_with (go_at_call 44; refine (isNaN_any _ _).mono ?_; rintro e w1 ⟨rfl, rfl⟩)
    go_ret
    exact ⟨by rw [HR.out]; rfl, rfl⟩
theorem cmp_lb (x y : Lb) : cmpB x.key y.key = cmpLb x y := rfl
set_option maxHeartbeats 1000000 in
theorem closure_any (x y : Lb) (W : World) : Calls Tryz.prog 25 #[.agg #[strV x.key, strV x.val], .agg #[strV y.key, strV y.val]] W fun e w' => e = .returned (.int .i64 (cmpLb x y)) ∧ w' = (W.alloc (.cells #[strV x.key, strV x.val] 46)).alloc (.cells #[strV y.key, strV y.val] 46) := by
  have HC := Lib.hid (fun w => compare_any x.key y.key w)
  rw [cmp_lb] at HC
  generalize cmpLb x y = r at *
  obtain ⟨xk, xv⟩ := x
  obtain ⟨yk, yv⟩ := y
  go_enter Tryz.func25, Tryz.ntmps25
  go_wp2_with (go_at_call 26; refine (HC.out _).mono ?_; rintro e w1 ⟨rfl, rfl⟩)
  go_ret
  exact ⟨rfl, rfl⟩
end Go.Proofs.YtpkjllliidpgoaaGreatDoor
