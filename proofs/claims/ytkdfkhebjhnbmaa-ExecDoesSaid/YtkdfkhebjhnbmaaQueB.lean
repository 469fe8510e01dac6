/- Package queue: how a row of timers lies in the world; its first one, how many; which one is ahead. -/
import Derived.Test.YtkdfkhebjhnbmaaQueA
import Derived.Test.YtkdfkhebjhnbmaaAppendK
import Derived.Test.YtkdfkhebjhnbmaaOpen
import Derived.Test.YtkdfkhebjhnbmaaProg
import Derived.BigRegion
import Derived.BigQuiet
import Derived.Deep.QuietTactic
import Derived.Deep.RegionHeld3
import Derived.WalkSmall
import Derived.OrdersHeld
set_option linter.unusedSimpArgs false
set_option linter.unusedVariables false
namespace Go.Proofs.Ytkdfkhebjhnbmaa
open Go.ChangeShapes Go.WideShapes Go.ChangeAt Go.RowKit Go.Base Go.Que

/-- The cells of timers. -/
def Tms (xs : List Value) (n : Nat) (f : Nat → Tm) : Prop := ∀ k, k < n → xs[k * 3]? = some (.int .i64 (f k).at_) ∧ xs[k * 3 + 1]? = some (.int .i64 (f k).id) ∧ xs[k * 3 + 2]? = some (.int .i64 (f k).turn)
/-- What lies behind the first cell of a block, and the block's type. -/
structure Rest where
  cells : List Value
  ty : TypeId
/-- The first cell of block b is a slice of the timers f 0 .. f (n - 1). -/
structure RowX (w : World) (b : Nat) (R : Rest) (A : Option Addr) (n c : Nat) (f : Nat → Tm) : Prop where
  self : w.heap[b]? = some (.cells (Value.slice A n c :: R.cells).toArray R.ty (0, 0))
  own : ∃ xs, w.ownsRow 0 82 3 (.slice A n c) n xs ∧ Tms xs n f
  ty : R.ty ≠ 82
  few : n ≤ 65536
theorem RowX.cell {w : World} {b : Nat} {R : Rest} {A : Option Addr} {n c : Nat} {f : Nat → Tm} (h : RowX w b R A n c f) : w.cell? ⟨b, 0, none⟩ = some (.slice A n c) := cell_of_row w b 0 _ _ _ h.self
theorem RowX.free {w : World} {b : Nat} {R : Rest} {A : Option Addr} {n c : Nat} {f : Nat → Tm} (h : RowX w b R A n c f) (o : Nat) : w.frozen? ⟨b, o, none⟩ = false := (cells_of_heap h.self).2 o
theorem RowX.other {w : World} {b : Nat} {R : Rest} {A : Option Addr} {n c : Nat} {f : Nat → Tm} (h : RowX w b R A n c f) : ∃ cs t z, w.heap[b]? = some (.cells cs t z) ∧ t ≠ 82 := ⟨_, _, _, h.self, h.ty⟩
theorem RowX.cap {w : World} {b : Nat} {R : Rest} {A : Option Addr} {n c : Nat} {f : Nat → Tm} (h : RowX w b R A n c f) : n ≤ c ∧ c ≤ maxLen := by
  obtain ⟨xs, ho, _⟩ := h.own
  rcases ho.2 with ⟨h0, h1⟩ | ⟨g, cap, cur, h0, _, _, hn, hm, _⟩
  · injection h0 with _ h2 h3; subst h1; subst h3; exact ⟨Nat.le_refl _, Nat.zero_le _⟩
  · injection h0 with _ _ h3; subst h3; exact ⟨hn, hm⟩
section
variable {w w' : World} {b : Nat} {R : Rest} {A : Option Addr} {n c : Nat} {f : Nat → Tm}
theorem RowX.at_ (h : RowX w b R A n c f) {k : Nat} (hk : k < n) : ∃ g, A = some ⟨g, 0, none⟩ ∧ w.cell? ⟨g, k * 3, none⟩ = some (.int .i64 (f k).at_) ∧ w.cell? ⟨g, k * 3 + 1, none⟩ = some (.int .i64 (f k).id) ∧ w.cell? ⟨g, k * 3 + 2, none⟩ = some (.int .i64 (f k).turn) := by
  obtain ⟨xs, ho, ht⟩ := h.own
  obtain ⟨g, rfl, h0⟩ := own_cell ho rfl (k * 3) (by omega)
  obtain ⟨g1, e1, h1⟩ := own_cell ho rfl (k * 3 + 1) (by omega)
  obtain ⟨g2, e2, h2⟩ := own_cell ho rfl (k * 3 + 2) (by omega)
  injection e1 with e1; injection e1 with e1; subst e1
  injection e2 with e2; injection e2 with e2; subst e2
  obtain ⟨t0, t1, t2⟩ := ht k hk
  exact ⟨g, rfl, h0.trans t0, h1.trans t1, h2.trans t2⟩
theorem RowX.moved {p : Nat → Prop} (h : RowX w b R A n c f) (hm : Moved p w w') (hb : ¬ p b) (hA : ∀ k, (Value.slice A n c).ownBlock = some k → ¬ p k) : RowX w' b R A n c f := by
  obtain ⟨xs, ho, ht⟩ := h.own
  exact ⟨hm.heap h.self hb, ⟨xs, own_moved ho hm hA, ht⟩, h.ty, h.few⟩
theorem RowX.later (h : RowX w b R A n c f) (hb : Below w.heap.size w w') : RowX w' b R A n c f :=
  h.moved (p := fun _ => False) (Below.movedNew hb) (fun h => h) (fun _ _ h => h)
theorem rlen_any (h : RowX w b R A n c f) : Calls Try.prog 31 #[.pointer (some ⟨b, 0, none⟩)] w fun e w' => e = .returned (.int .i64 (n : Int)) ∧ w = w' := by
  have h1 := h.cell
  go_enter Try.func31, Try.ntmps31
  go_wp2
  go_ret
  exact ⟨rfl, rfl⟩
def cmpI (x y : Int) : Int := if x < y then -1 else if y < x then 1 else 0
theorem nan_any (x : Int) (w : World) : Calls Try.prog 68 #[.int .i64 x] w fun e w' => e = .returned (.bool false) ∧ w = w' := by
  go_enter Try.func68, Try.ntmps68
  go_wp2
  go_ret
  exact ⟨rfl, rfl⟩
theorem compare_any (x y : Int) (w : World) : Calls Try.prog 64 #[.int .i64 x, .int .i64 y] w fun e w' => e = .returned (.int .i64 (cmpI x y)) ∧ w = w' := by
  have hN := fun z V => nan_any z V
  go_enter Try.func64, Try.ntmps64
  by_cases h1 : x < y
  · go_wp2_with (go_at_call 68; refine Calls.mono (nan_any _ _) ?_; rintro e w1 ⟨rfl, rfl⟩)
    go_ret
    exact ⟨ret_int (by unfold cmpI; rw [if_pos h1]), rfl⟩
  · by_cases h2 : y < x
    · go_wp2_with (go_at_call 68; refine Calls.mono (nan_any _ _) ?_; rintro e w1 ⟨rfl, rfl⟩)
      go_ret
      exact ⟨ret_int (by unfold cmpI; rw [if_neg (by omega), if_pos h2]), rfl⟩
    · go_wp2_with (go_at_call 68; refine Calls.mono (nan_any _ _) ?_; rintro e w1 ⟨rfl, rfl⟩)
      go_ret
      exact ⟨ret_int (by unfold cmpI; rw [if_neg (by omega), if_neg (by omega)]), rfl⟩
theorem or_two (g : Nat) (x y : Int) (cc : Nat) (w : World) (h0 : w.cell? ⟨g, 0, none⟩ = some (.int .i64 x)) (h1 : w.cell? ⟨g, 1, none⟩ = some (.int .i64 y)) :
    Calls Try.prog 63 #[.slice (some ⟨g, 0, none⟩) 2 cc] w fun e w' => e = .returned (.int .i64 (if x = 0 then y else x)) ∧ w = w' := by
  go_enter Try.func63, Try.ntmps63
  go_wp2
  go_loop [5, 8] (fun v i => ∃ k : Nat, k ≤ 2 ∧ i = .int .i64 (k : Int) ∧ Hid ((1 ≤ k → x = 0) ∧ (2 ≤ k → y = 0))) (fun _ i => 2 - (intOf i).toNat)
  case atStart => exact ⟨0, by omega, rfl, Lib.hid ⟨fun h => by omega, fun h => by omega⟩⟩
  case round =>
    obtain ⟨k, hk, rfl, H⟩ := hrel
    rcases (by omega : k = 0 ∨ k = 1 ∨ k = 2) with rfl | rfl | rfl
    · by_cases hx : x = 0
      · have hx' : (x != 0) = false := by subst hx; rfl
        go_wp2
        go_round
        case rel => exact ⟨1, by omega, by go_num, Lib.hid ⟨fun _ => hx, fun h => by omega⟩⟩
        case measure => simp [intOf]
      · have hx' : (x != 0) = true := by simpa using hx
        go_wp2
        go_ret
        exact ⟨rfl, rfl⟩
    · have hx := H.out.1 (by omega)
      by_cases hy : y = 0
      · have hy' : (y != 0) = false := by subst hy; rfl
        go_wp2
        go_round
        case rel => exact ⟨2, by omega, by go_num, Lib.hid ⟨fun _ => hx, fun _ => hy⟩⟩
        case measure => simp [intOf]
      · have hy' : (y != 0) = true := by simpa using hy
        go_wp2
        go_ret
        exact ⟨rfl, rfl⟩
    · have hx := H.out.1 (by omega)
      have hy := H.out.2 (by omega)
      go_wp2
      go_ret
      exact ⟨rfl, rfl⟩
end
end Go.Proofs.Ytkdfkhebjhnbmaa
