/- Walks of package next: the greatest member; each's maker. -/
import Derived.Test.YtnijneajlmgkjaaDoorNxtBb
set_option linter.unusedSimpArgs false
set_option linter.unusedVariables false
namespace Go.Proofs.YtnijneajlmgkjaaDoor
open Go.ChangeShapes Go.WideShapes Go.ChangeAt Go.RowKit Go.Base Go.Civ Go.Nxt

def lenLit : ByteArray := ⟨#[0, 1, 2, 2, 3, 3, 3, 3, 4, 4, 4, 4, 4, 4, 4, 4, 5, 5, 5, 5, 5, 5, 5, 5, 5, 5, 5, 5, 5, 5, 5, 5, 6, 6, 6, 6, 6, 6, 6, 6, 6, 6, 6, 6, 6, 6, 6, 6, 6, 6, 6, 6, 6, 6, 6, 6, 6, 6, 6, 6, 6, 6, 6, 6, 7, 7, 7, 7, 7, 7, 7, 7, 7, 7, 7, 7, 7, 7, 7, 7, 7, 7, 7, 7, 7, 7, 7, 7, 7, 7, 7, 7, 7, 7, 7, 7, 7, 7, 7, 7, 7, 7, 7, 7, 7, 7, 7, 7, 7, 7, 7, 7, 7, 7, 7, 7, 7, 7, 7, 7, 7, 7, 7, 7, 7, 7, 7, 7, 8, 8, 8, 8, 8, 8, 8, 8, 8, 8, 8, 8, 8, 8, 8, 8, 8, 8, 8, 8, 8, 8, 8, 8, 8, 8, 8, 8, 8, 8, 8, 8, 8, 8, 8, 8, 8, 8, 8, 8, 8, 8, 8, 8, 8, 8, 8, 8, 8, 8, 8, 8, 8, 8, 8, 8, 8, 8, 8, 8, 8, 8, 8, 8, 8, 8, 8, 8, 8, 8, 8, 8, 8, 8, 8, 8, 8, 8, 8, 8, 8, 8, 8, 8, 8, 8, 8, 8, 8, 8, 8, 8, 8, 8, 8, 8, 8, 8, 8, 8, 8, 8, 8, 8, 8, 8, 8, 8, 8, 8, 8, 8, 8, 8, 8, 8, 8, 8, 8, 8, 8, 8, 8, 8, 8, 8, 8, 8]⟩
set_option maxRecDepth 100000 in
theorem lenLit_at : ∀ k, k < 256 → k ≠ 0 → (lenLit.data.getD k 0).toNat = k.log2 + 1 := by decide +kernel
theorem ba_getD (b : ByteArray) (i : Nat) (h : i < b.size) : (b[i]).toNat = (b.data.getD i 0).toNat := by
  show (b.data[i]).toNat = _
  rw [Array.getD, dif_pos (show i < b.data.size from h)]
  rfl
theorem lenLit_is (x i : Nat) (h : i < lenLit.size) (x256 : x < 256) (e : i = x) (h0 : x ≠ 0) : (lenLit[i]).toNat = x.log2 + 1 := by
  subst e
  exact (ba_getD lenLit i h).trans (lenLit_at i x256 h0)

set_option maxHeartbeats 1000000 in
set_option maxRecDepth 100000 in
theorem len64_any (n : Nat) (hn : n < 18446744073709551616) (h0 : n ≠ 0) (w : World) :
    Calls Tryd.prog 63 #[.int .u64 n] w fun e w' => e = .returned (.int .i64 ((n.log2 : Int) + 1)) ∧ w' = w := by
  obtain ⟨a, b, c, x, ha, hb, hc, hx, x256, x0, hl⟩ := len_ways n hn h0
  have hx8 : IntKind.u8.wrap (x : Int) = (x : Int) := by rw [IntKind.wrap_u8']; omega
  cases a <;> cases b <;> cases c <;> simp only [Bool.false_eq_true, if_true, if_false] at ha hb hc hx hl
  all_goals
    have HL := Lib.hid hl
    have HX := Lib.hid hx
    have H8 := Lib.hid hx8
    clear hl h0 hx hx8
    go_enter Tryd.func63, Tryd.ntmps63
    go_wp2
    go_ret
    refine ⟨ret_int ?_, rfl⟩
    have hx := HX.out
    have h9 := HL.out
    have l8 := (Nat.log2_lt x0).2 (show x < 2 ^ 8 by omega)
    have key : ∀ (i : Nat) (h : i < lenLit.size), i = x → ((lenLit[i]).toNat : Int) = (x.log2 : Int) + 1 := fun i h e => by rw [lenLit_is x i h x256 e x0]; omega
    generalize x.log2 = g at *
    first | refine (congrArg (fun q : Int => wrap64 (wrap64 q)) (key _ _ ?_)).trans ?_ | refine (congrArg (fun q : Int => wrap64 (8 + wrap64 q)) (key _ _ ?_)).trans ?_ | refine (congrArg (fun q : Int => wrap64 (16 + wrap64 q)) (key _ _ ?_)).trans ?_ | refine (congrArg (fun q : Int => wrap64 (24 + wrap64 q)) (key _ _ ?_)).trans ?_ | refine (congrArg (fun q : Int => wrap64 (32 + wrap64 q)) (key _ _ ?_)).trans ?_ | refine (congrArg (fun q : Int => wrap64 (40 + wrap64 q)) (key _ _ ?_)).trans ?_ | refine (congrArg (fun q : Int => wrap64 (48 + wrap64 q)) (key _ _ ?_)).trans ?_ | refine (congrArg (fun q : Int => wrap64 (56 + wrap64 q)) (key _ _ ?_)).trans ?_
    · omega
    · simp only [wrap64]
      omega

theorem bwNext_any (n : Nat) (hn : n < 18446744073709551616) (h0 : n ≠ 0) (w : World) :
    Calls Tryd.prog 62 #[.int .u64 n] w fun e w' => e = .returned (.int .i64 n.log2) ∧ w' = w := by
  have HB := Lib.hid (len64_any n hn h0 w)
  have hl := (Nat.log2_lt h0).2 (show n < 2 ^ 64 from hn)
  generalize n.log2 = g at *
  go_enter Tryd.func62, Tryd.ntmps62
  go_wp2_with (go_at_call 63; refine HB.out.mono ?_; rintro e w' ⟨rfl, rfl⟩)
  go_ret
  exact ⟨ret_int (by omega), rfl⟩
end Go.Proofs.YtnijneajlmgkjaaDoor
