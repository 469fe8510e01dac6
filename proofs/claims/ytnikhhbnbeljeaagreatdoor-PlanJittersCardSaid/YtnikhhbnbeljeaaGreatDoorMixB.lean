/- Walks of package mix and of its answers by definition: mixes. -/
import Derived.Test.YtnikhhbnbeljeaaGreatDoorMixA
import Derived.Test.YtnikhhbnbeljeaaGreatDoorBase
import Derived.Test.YtnikhhbnbeljeaaGreatDoorRows
import Derived.PlainAid
import Derived.Laws.BitsAllLaws
import Derived.WalkKit
import Derived.Handy
import Derived.ProofKit
import Derived.OpenShut
import Derived.Deep.DeepHandedRow
import Derived.Lib.Hide
import Derived.Laws.Tables
import Derived.Carry
import Derived.Deep.QuietTactic
import Derived.BigQuiet
import Derived.Outline
import Derived.Laws.ShiftsVar
import Derived.WalkSmall
import Derived.WalkSpells
import Derived.Lib.Strings
import Derived.Shelf.Bits.Mul64
set_option linter.unusedSimpArgs false
set_option linter.unusedVariables false
namespace Go.Proofs.YtnikhhbnbeljeaaGreatDoor.MI
open Go.ChangeShapes Go.WideShapes Go.ChangeAt Go.RowKit Go.Base Go.Mx


theorem nat_div (x k : Nat) : ((x : Int) / (k : Int)) = ((x / k : Nat) : Int) := by omega
theorem times64 (a b : Nat) : IntKind.u64.wrap ((a : Int) * (b : Int)) = ((a * b % 18446744073709551616 : Nat) : Int) := by rw [IntKind.wrap_u64]; omega
theorem plus64 (a b : Nat) : IntKind.u64.wrap ((a : Int) + (b : Int)) = (((a + b) % 18446744073709551616 : Nat) : Int) := by rw [IntKind.wrap_u64]; omega

theorem unf30_eq (x : Nat) (hx : x < 18446744073709551616) : bits BinOp.xor IntKind.u64 (bits BinOp.xor IntKind.u64 (x : Int) ((x : Int) / 1073741824)) ((x : Int) / 1152921504606846976) = (unf30 x : Nat) := by
  have h1 := xorShift_u64 x 1073741824 hx
  have h2 := bits_xor_u64_nat (x ^^^ x / 1073741824) (x / 1152921504606846976) (xor_lt64 hx (div_lt64 30 hx)) (div_lt64 60 hx)
  have h3 := nat_div x 1152921504606846976
  rw [← h3] at h2
  exact (congrArg (fun z => bits BinOp.xor IntKind.u64 z ((x : Int) / 1152921504606846976)) h1).trans h2
theorem fold30_any (x : Nat) (w : World) (hx : x < 18446744073709551616) :
    Calls Tryz.prog 245 #[.int .u64 x, .int .i64 30] w fun e w' => e = .returned (.int .u64 (fold 30 x : Nat)) ∧ w = w' := by
  go_enter Tryz.func245, Tryz.ntmps245
  go_wp2
  go_ret
  exact ⟨ret_int (xorShift_u64 x 1073741824 hx), rfl⟩
theorem unf27_eq (x : Nat) (hx : x < 18446744073709551616) : bits BinOp.xor IntKind.u64 (bits BinOp.xor IntKind.u64 (x : Int) ((x : Int) / 134217728)) ((x : Int) / 18014398509481984) = (unf27 x : Nat) := by
  have h1 := xorShift_u64 x 134217728 hx
  have h2 := bits_xor_u64_nat (x ^^^ x / 134217728) (x / 18014398509481984) (xor_lt64 hx (div_lt64 27 hx)) (div_lt64 54 hx)
  have h3 := nat_div x 18014398509481984
  rw [← h3] at h2
  exact (congrArg (fun z => bits BinOp.xor IntKind.u64 z ((x : Int) / 18014398509481984)) h1).trans h2
theorem fold27_any (x : Nat) (w : World) (hx : x < 18446744073709551616) :
    Calls Tryz.prog 245 #[.int .u64 x, .int .i64 27] w fun e w' => e = .returned (.int .u64 (fold 27 x : Nat)) ∧ w = w' := by
  go_enter Tryz.func245, Tryz.ntmps245
  go_wp2
  go_ret
  exact ⟨ret_int (xorShift_u64 x 134217728 hx), rfl⟩
theorem unf31_eq (x : Nat) (hx : x < 18446744073709551616) : bits BinOp.xor IntKind.u64 (bits BinOp.xor IntKind.u64 (x : Int) ((x : Int) / 2147483648)) ((x : Int) / 4611686018427387904) = (unf31 x : Nat) := by
  have h1 := xorShift_u64 x 2147483648 hx
  have h2 := bits_xor_u64_nat (x ^^^ x / 2147483648) (x / 4611686018427387904) (xor_lt64 hx (div_lt64 31 hx)) (div_lt64 62 hx)
  have h3 := nat_div x 4611686018427387904
  rw [← h3] at h2
  exact (congrArg (fun z => bits BinOp.xor IntKind.u64 z ((x : Int) / 4611686018427387904)) h1).trans h2
theorem fold31_any (x : Nat) (w : World) (hx : x < 18446744073709551616) :
    Calls Tryz.prog 245 #[.int .u64 x, .int .i64 31] w fun e w' => e = .returned (.int .u64 (fold 31 x : Nat)) ∧ w = w' := by
  go_enter Tryz.func245, Tryz.ntmps245
  go_wp2
  go_ret
  exact ⟨ret_int (xorShift_u64 x 2147483648 hx), rfl⟩
theorem timesA (a : Nat) : IntKind.u64.wrap ((a : Int) * 13787848793156543929) = ((a * 13787848793156543929 % 18446744073709551616 : Nat) : Int) := times64 a 13787848793156543929
theorem timesB (a : Nat) : IntKind.u64.wrap ((a : Int) * 10723151780598845931) = ((a * 10723151780598845931 % 18446744073709551616 : Nat) : Int) := times64 a 10723151780598845931
theorem timesC (a : Nat) : IntKind.u64.wrap ((a : Int) * 3573116690164977347) = ((a * 3573116690164977347 % 18446744073709551616 : Nat) : Int) := times64 a 3573116690164977347
theorem timesD (a : Nat) : IntKind.u64.wrap ((a : Int) * 10871156337175269513) = ((a * 10871156337175269513 % 18446744073709551616 : Nat) : Int) := times64 a 10871156337175269513
theorem xor30 (x : Nat) (hx : x < 18446744073709551616) : bits BinOp.xor IntKind.u64 (x : Int) ((x : Int) / 1073741824) = ((fold 30 x : Nat) : Int) := xorShift_u64 x 1073741824 hx
theorem xor27 (x : Nat) (hx : x < 18446744073709551616) : bits BinOp.xor IntKind.u64 (x : Int) ((x : Int) / 134217728) = ((fold 27 x : Nat) : Int) := xorShift_u64 x 134217728 hx
theorem xor31 (x : Nat) (hx : x < 18446744073709551616) : bits BinOp.xor IntKind.u64 (x : Int) ((x : Int) / 2147483648) = ((fold 31 x : Nat) : Int) := xorShift_u64 x 2147483648 hx
theorem plusG (a : Nat) : IntKind.u64.wrap ((a : Int) + 11400714819323198485) = (((a + 11400714819323198485) % 18446744073709551616 : Nat) : Int) := plus64 a 11400714819323198485

theorem mix_any (x : Nat) (w : World) (hx : x < 18446744073709551616) :
    Calls Tryz.prog 200 #[.int .u64 x] w fun e w' => e = .returned (.int .u64 (mix x : Nat)) ∧ w = w' := by
  have l1 := mod_lt64 (fold 30 x * 13787848793156543929)
  have l2 := mod_lt64 (fold 27 (fold 30 x * 13787848793156543929 % 18446744073709551616) * 10723151780598845931)
  go_enter Tryz.func200, Tryz.ntmps200
  go_wp2_with (first | (go_at_call 245; with_reducible refine (fold30_any x _ hx).mono ?_; rintro e w' ⟨rfl, rfl⟩) | (go_at_call 245; rw [timesA]; with_reducible refine (fold27_any _ _ l1).mono ?_; rintro e w' ⟨rfl, rfl⟩) | (go_at_call 245; rw [timesB]; with_reducible refine (fold31_any _ _ l2).mono ?_; rintro e w' ⟨rfl, rfl⟩))
  go_ret
  exact ⟨rfl, rfl⟩
theorem refMix_any (x : Nat) (w : World) (hx : x < 18446744073709551616) :
    Calls Tryz.prog 146 #[.int .u64 x] w fun e w' => e = .returned (.int .u64 (mix x : Nat)) ∧ w = w' := by
  go_enter Tryz.func146, Tryz.ntmps146
  go_wp2
  go_ret
  refine ⟨ret_int ?_, rfl⟩
  rw [xor30 x hx, timesA, xor27 _ (mod_lt64 _), timesB, xor31 _ (mod_lt64 _)]
  rfl
theorem stir_any (h n : Nat) (w : World) (hh : h < 18446744073709551616) (hn : n < 18446744073709551616) :
    Calls Tryz.prog 144 #[.int .u64 h, .int .u64 n] w fun e w' => e = .returned (.int .u64 (stir h n : Nat)) ∧ w = w' := by
  have hx := xor_lt64 hh hn
  have ex := bits_xor_u64_nat h n hh hn
  go_enter Tryz.func144, Tryz.ntmps144
  go_wp2_with (go_at_call 200; with_reducible refine (mix_any _ _ hx).mono ?_; rintro e w' ⟨rfl, rfl⟩)
  go_ret
  exact ⟨ret_int (plusG _), rfl⟩
set_option maxHeartbeats 1000000 in
theorem mul64_any (x y : Nat) (hx : x < 18446744073709551616) (hy : y < 18446744073709551616) (w : World) :
    Calls Tryz.prog 143 #[.int .u64 x, .int .u64 y] w fun e w' => e = .returned (.tuple #[.int .u64 ((x * y / 18446744073709551616 : Nat) : Int), .int .u64 ((x * y % 18446744073709551616 : Nat) : Int)]) ∧ w = w' := by
  obtain ⟨bd, bt, bw, hhi⟩ := Lib.mul64_hi x y hx hy
  have ba := Lib.half_mul_le (a := x / 4294967296) (b := y / 4294967296) (by omega) (by omega)
  have bb := Lib.half_mul_le (a := x / 4294967296) (b := y % 4294967296) (by omega) (by omega)
  have bc := Lib.half_mul_le (a := x % 4294967296) (b := y / 4294967296) (by omega) (by omega)
  have ba' : x / 4294967296 * (y / 4294967296) < 18446744073709551616 := by omega
  have bb' : x / 4294967296 * (y % 4294967296) < 18446744073709551616 := by omega
  have bc' : x % 4294967296 * (y / 4294967296) < 18446744073709551616 := by omega
  have bh1 : x / 4294967296 * (y / 4294967296) + (x / 4294967296 * (y % 4294967296) + x % 4294967296 * (y % 4294967296) / 4294967296) / 4294967296 < 18446744073709551616 := by omega
  have bh : x / 4294967296 * (y / 4294967296) + (x / 4294967296 * (y % 4294967296) + x % 4294967296 * (y % 4294967296) / 4294967296) / 4294967296 + ((x / 4294967296 * (y % 4294967296) + x % 4294967296 * (y % 4294967296) / 4294967296) % 4294967296 + x % 4294967296 * (y / 4294967296)) / 4294967296 < 18446744073709551616 := by omega
  go_enter Tryz.func143, Tryz.ntmps143
  go_wp2
  simp only [Mul64.maskN x hx, Mul64.maskN y hy, Mul64.divN, Mul64.mulN, Mul64.addN, Mul64.wrapN _ bd, Mul64.wrapN _ bb', Mul64.wrapN _ bt, Mul64.maskN _ bt, Mul64.wrapN _ bc', Mul64.wrapN _ bw, Mul64.wrapN _ ba', Mul64.wrapN _ bh1, Mul64.wrapN _ bh, Mul64.wrapM (x * y)]
  rw [hhi]
  go_ret2
  exact ⟨rfl, rfl⟩

end Go.Proofs.YtnikhhbnbeljeaaGreatDoor.MI
