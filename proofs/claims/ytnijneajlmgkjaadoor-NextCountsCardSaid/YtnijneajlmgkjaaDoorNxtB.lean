/- Walks of package next: the library's bits, what is below a member, both ways' functions; each: its maker. -/
import Derived.Test.YtnijneajlmgkjaaDoorNxtA
import Derived.Test.YtnijneajlmgkjaaDoorCvc
import Derived.Test.YtnijneajlmgkjaaDoorRangeO
import Derived.Shelf.Spec.TrailingZeros
import Derived.Laws.ShiftsVar
import Derived.WalkSmall
import Derived.WalkSpells
set_option linter.unusedSimpArgs false
set_option linter.unusedVariables false
namespace Go.Proofs.YtnijneajlmgkjaaDoor
open Go.ChangeShapes Go.WideShapes Go.ChangeAt Go.RowKit Go.Base Go.Civ Go.Nxt

/-- The library's table. -/
def TzTab (w : World) : Prop := TabAt 1 Lib.deBruijn64tab w

theorem tz_core (x k idx : Nat) (w : World) (hx0 : ((x : Int) == 0) = false)
    (key : IntKind.u64.wrap (bits BinOp.and IntKind.u64 (x : Int) (IntKind.u64.wrap (-(x : Int))) * 285870213051353865) / 288230376151711744 = (idx : Int))
    (hi : idx < 64) (hcell : w.cell? ⟨1, idx, none⟩ = some (.int .u8 k)) (hk : k < 64) :
    Calls Tryd.prog 44 #[.int .u64 x] w fun e w' => e = .returned (.int .i64 k) ∧ w' = w := by
  go_enter Tryd.func44, Tryd.ntmps44
  go_wp2_with (simp only [key])
  go_ret
  exact ⟨rfl, rfl⟩
theorem tz_any (x : Nat) (hx : x < 18446744073709551616) (h0 : x ≠ 0) (w : World) (hT : TzTab w) :
    Calls Tryd.prog 44 #[.int .u64 x] w fun e w' => e = .returned (.int .i64 (Lib.ctz 64 x)) ∧ w' = w := by
  obtain ⟨hlow, hk⟩ := Lib.lowest_bit 64 x h0 hx
  obtain ⟨hi, htab⟩ := Lib.deBruijn64_at _ hk
  have hc := hT _ hi
  rw [htab] at hc
  exact tz_core x _ _ w (by simp; omega) (tz64_key x _ hx h0 hlow) hi hc hk

theorem below_nat (n v : Nat) (hn : n < 18446744073709551616) (hv : v ≤ 63) :
    bits .and .u64 (n : Int) (IntKind.u64.wrap (IntKind.u64.wrap (2 ^ v) - 1)) = ((n % 2 ^ v : Nat) : Int) := by
  have hp : (2 : Nat) ^ v ≤ 2 ^ 63 := Nat.pow_le_pow_right (by decide) hv
  have h1 : 1 ≤ (2 : Nat) ^ v := Nat.one_le_two_pow
  have e : IntKind.u64.wrap (IntKind.u64.wrap (2 ^ v) - 1) = ((2 ^ v - 1 : Nat) : Int) := by
    rw [IntKind.wrap_u64, IntKind.wrap_u64]
    have : ((2 : Int) ^ v) = ((2 ^ v : Nat) : Int) := by simp
    rw [this]; omega
  rw [e, u64_and_nat n _ hn (by omega), Nat.and_two_pow_sub_one_eq_mod]

theorem nxtBelow_any (n v : Nat) (hn : n < 18446744073709551616) (hv : v ≤ 63) (w : World) :
    Calls Tryd.prog 46 #[.int .u64 n, .int .i64 v] w fun e w' => e = .returned (.int .u64 ((n % 2 ^ v : Nat) : Int)) ∧ w' = w := by
  have H := Lib.hid (below_nat n v hn hv)
  go_enter Tryd.func46, Tryd.ntmps46
  go_wp2
  go_ret
  exact ⟨ret_int H.out, rfl⟩

theorem fwSince_any (n v : Nat) (hn : n < 18446744073709551616) (hv : v ≤ 63) (w : World) :
    Calls Tryd.prog 45 #[.int .u64 n, .int .i64 v] w fun e w' => e = .returned (.int .u64 (since true n v : Nat)) ∧ w' = w := by
  have hm : n % 2 ^ v < 18446744073709551616 := Nat.lt_of_le_of_lt (Nat.mod_le _ _) hn
  have H : Hid (bits .andNot .u64 (n : Int) ((n % 2 ^ v : Nat) : Int) = (since true n v : Nat)) := Lib.hid (by rw [u64_andNot_nat n _ hn hm]; rfl)
  have HB := Lib.hid (nxtBelow_any n v hn hv w)
  generalize n % 2 ^ v = m at *
  go_enter Tryd.func45, Tryd.ntmps45
  go_wp2_with (go_at_call 46; refine HB.out.mono ?_; rintro e w' ⟨rfl, rfl⟩)
  go_ret
  exact ⟨ret_int H.out, rfl⟩

theorem bwSince_any (n v : Nat) (hn : n < 18446744073709551616) (hv : v ≤ 62) (w : World) :
    Calls Tryd.prog 64 #[.int .u64 n, .int .i64 v] w fun e w' => e = .returned (.int .u64 (since false n v : Nat)) ∧ w' = w := by
  have HB := Lib.hid (nxtBelow_any n (v + 1) hn (by omega) w)
  have e1 : (((v + 1 : Nat) : Int)) = (v : Int) + 1 := by omega
  rw [e1] at HB
  have H : Hid (((n % 2 ^ (v + 1) : Nat) : Int) = (since false n v : Nat)) := Lib.hid rfl
  generalize n % 2 ^ (v + 1) = m at *
  go_enter Tryd.func64, Tryd.ntmps64
  go_wp2_with (go_at_call 46; refine HB.out.mono ?_; rintro e w' ⟨rfl, rfl⟩)
  go_ret
  exact ⟨ret_int H.out, rfl⟩
end Go.Proofs.YtnijneajlmgkjaaDoor
