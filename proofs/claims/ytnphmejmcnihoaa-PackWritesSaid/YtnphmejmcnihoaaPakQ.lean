/- Walks of the answers by definition of package pack: what is packed. -/
import Derived.Test.YtnphmejmcnihoaaPakO
import Derived.Lib.AppendStr
set_option linter.unusedSimpArgs false
set_option linter.unusedVariables false
namespace Go.Proofs.Ytnphmejmcnihoaa
open Go.ChangeShapes Go.WideShapes Go.ChangeAt Go.RowKit Go.Base Go.Pk

def RNumRel (n0 : Nat) (w : World) (n v : Value) (wr : World) : Prop :=
  ∃ (pre : List UInt8) (m : Nat) (A : Option Addr) (c : Nat), n = .int .u64 (m : Int) ∧ v = .slice A pre.length c ∧ numB n0 = pre ++ numB m ∧ m < 18446744073709551616 ∧ wr.ownsRow w.heap.size 5 1 (.slice A pre.length c) pre.length (pre.map u8v) ∧ Below w.heap.size w wr
/-- A slice of the call's own that holds ys. -/
def FreshPost (w : World) (ys : List UInt8) (e : Ending) (w' : World) : Prop :=
  ∃ A n c, e = .returned (.slice A n c) ∧ n = ys.length ∧ w'.ownsRow w.heap.size 5 1 (.slice A n c) n (ys.map u8v) ∧ Below w.heap.size w w'
set_option maxHeartbeats 4000000 in
set_option maxRecDepth 20000 in
theorem refNumber_any (n : Nat) (w : World) (hn : n < 18446744073709551616) :
    Calls Try.prog 13 #[.int .u64 n] w (FreshPost w (numB n)) := by
  have HT := Lib.hid (numB_ten hn)
  obtain ⟨i0, hi0, hz0, hz1, hz2⟩ := info_parts u8_info
  go_enter Try.func13, Try.ntmps13
  go_wp2
  go_loopw [0, 3] (fun m v wr => RNumRel n w m v wr) (fun m _ _ => (intOf m).toNat)
  case atStart => exact ⟨[], n, none, 0, rfl, rfl, rfl, hn, World.ownsRow_nil _ _ _ _, Below.refl _ _⟩
  case round =>
    obtain ⟨pre, m, A, c, rfl, rfl, he, hm, hown, hB⟩ := hrel
    have hl9 : pre.length + 1 ≤ 10 := by
      have h1 := HT.out; rw [he, List.length_append] at h1
      have h2 := numB_pos m; omega
    have HE := Lib.hid he
    have HO := Lib.hid hown
    have HW := Lib.hid hB
    have hl0 : (0 : Int) ≤ (pre.length : Int) := by omega
    clear he hown hB
    by_cases hlt : 128 ≤ m
    · have hlt' : (127 : Int) < (m : Int) := by omega
      have h3 : ((UInt8.ofNat (m % 128 + 128) : UInt8).toNat : Int) = ((m : Int) % 128 + 128) := by have := ofNat_nat (n := (m % 128 + 128)) (by omega); omega
      have HY1 : Hid (Byt (wr.alloc (.cells #[.int .u8 ((m : Int) % 128 + 128)] 5)) (some ⟨wr.heap.size, 0, none⟩) [UInt8.ofNat (m % 128 + 128)]) := Lib.hid (byt_of_heap (heap_new wr _) (by show [Value.int .u8 ((m : Int) % 128 + 128)] = [Value.int .u8 (((UInt8.ofNat (m % 128 + 128) : UInt8).toNat : Nat) : Int)]; rw [h3]))
      clear h3
      go_wp2_with (at_builtin; refine wpList_append_byt _ (by rfl) (.tmp 6) (.tmp 11) 26 (by rfl) 5 i0 Try.underlying26 hi0 hz0 hz1 hz2 w.heap.size (.slice A pre.length c) pre (by rfl) (HO.out.alloc _) (some ⟨wr.heap.size, 0, none⟩) 1 [UInt8.ofNat (m % 128 + 128)] (by rfl) HY1.out (by simp only [List.length_singleton]; omega) (Nat.le_trans HW.out.size (by simp)) ?_; intro A1 c1 w1 hown hgrow hat; have HO1 := Lib.hid hown; have HB1 : Hid (Below w.heap.size w w1) := Lib.hid ((HW.out.alloc HW.out.size _).grown hgrow (Nat.le_trans HW.out.size (by simp)) (fun k hk => (own_base HO.out k hk).1)); clear hown hgrow hat)
      go_roundw
      case rel => exact ⟨pre ++ [UInt8.ofNat (m % 128 + 128)], m / 128, A1, c1, by go_num, by simp, by rw [HE.out, numB_hi hlt]; simp, by omega, HO1.out, HB1.out⟩
      case measure => simp [intOf]; omega
    · have hlt' : (m : Int) ≤ 127 := by omega
      clear hm
      have h3 : ((UInt8.ofNat m : UInt8).toNat : Int) = (m : Int) := by have := ofNat_nat (n := m) (by omega); omega
      have HY1 : Hid (Byt (wr.alloc (.cells #[.int .u8 (m : Int)] 5)) (some ⟨wr.heap.size, 0, none⟩) [UInt8.ofNat m]) := Lib.hid (byt_of_heap (heap_new wr _) (by show [Value.int .u8 (m : Int)] = [Value.int .u8 (((UInt8.ofNat m : UInt8).toNat : Nat) : Int)]; rw [h3]))
      clear h3
      go_wp2_with (at_builtin; refine wpList_append_byt _ (by rfl) (.tmp 15) (.tmp 18) 26 (by rfl) 5 i0 Try.underlying26 hi0 hz0 hz1 hz2 w.heap.size (.slice A pre.length c) pre (by rfl) (HO.out.alloc _) (some ⟨wr.heap.size, 0, none⟩) 1 [UInt8.ofNat m] (by rfl) HY1.out (by simp only [List.length_singleton]; omega) (Nat.le_trans HW.out.size (by simp)) ?_; intro A1 c1 w1 hown hgrow hat; have HO1 := Lib.hid hown; have HB1 : Hid (Below w.heap.size w w1) := Lib.hid ((HW.out.alloc HW.out.size _).grown hgrow (Nat.le_trans HW.out.size (by simp)) (fun k hk => (own_base HO.out k hk).1)); clear hown hgrow hat)
      go_ret
      exact ⟨A1, _, c1, rfl, by rw [HE.out, numB_lo (by omega)]; simp, by have := HO1.out; rw [HE.out, numB_lo (show m < 128 by omega)]; simpa using this, HB1.out⟩

theorem refWhole_any (n : Int) (w : World) (h1 : -9223372036854775808 ≤ n) (h2 : n ≤ 9223372036854775807) :
    Calls Try.prog 35 #[.int .i64 n] w fun e w' => e = .returned (.int .u64 (whole n : Nat)) ∧ w = w' := by
  by_cases h0 : 0 ≤ n
  · go_enter Try.func35, Try.ntmps35
    go_wp2
    go_ret
    exact ⟨ret_int (by unfold whole; rw [if_pos h0]; omega), rfl⟩
  · have h0' : n < 0 := by omega
    go_enter Try.func35, Try.ntmps35
    go_wp2
    go_ret
    exact ⟨ret_int (by unfold whole; rw [if_neg (by omega)]; omega), rfl⟩

/-- The answer's packer in block X has taken s; its bytes lie in block 'row'. -/
def RPk (w : World) (X : Nat) (s : Option (List UInt8)) (row : Option Nat) : Prop :=
  ∃ A n c, w.heap[X]? = some (.cells #[.slice A n c, .bool s.isNone] 28 (0, 0)) ∧ (s = none → row = none) ∧
    ∀ xs, s = some xs → n = xs.length ∧ xs.length ≤ 65536 ∧ Byt w A xs ∧ (Value.slice A n c).ownBlock = row ∧ ∀ k, row = some k → k < w.heap.size ∧ k ≠ X
def RPost (w : World) (X : Nat) (row : Option Nat) (s : Option (List UInt8)) (w' : World) : Prop :=
  ∃ row', RPk w' X s row' ∧ Moved (fun k => k = X) w w' ∧ ∀ k, row' = some k → row = some k ∨ w.heap.size ≤ k
theorem RPk.lt {w : World} {X : Nat} {s : Option (List UInt8)} {row : Option Nat} (h : RPk w X s row) : X < w.heap.size := by
  obtain ⟨A, n, c, h, _⟩ := h; exact heap_lt h
theorem RPk.moved {p : Nat → Prop} {w w' : World} {X : Nat} {s : Option (List UInt8)} {row : Option Nat} (h : RPk w X s row) (hm : Moved p w w') (hX : ¬ p X) (hr : ∀ k, row = some k → ¬ p k) : RPk w' X s row := by
  obtain ⟨A, n, c, hb, h0, h1⟩ := h
  refine ⟨A, n, c, hm.heap hb hX, h0, fun xs hx => ?_⟩
  obtain ⟨hn, hl, hy, ho, hk⟩ := h1 xs hx
  exact ⟨hn, hl, hy.moved (n := n) (c := c) hm (by rw [ho]; exact hr), ho, fun k e => ⟨Nat.lt_of_lt_of_le (hk k e).1 hm.size, (hk k e).2⟩⟩
theorem RPk.later {w w' : World} {X : Nat} {s : Option (List UInt8)} {row : Option Nat} (h : RPk w X s row) (hb : Below w.heap.size w w') : RPk w' X s row :=
  h.moved (p := fun _ => False) (Below.movedNew hb) (fun h => h) (fun _ _ h => h)
theorem RPost.later {w w1 w2 : World} {X : Nat} {row : Option Nat} {s : Option (List UInt8)} (hb : Below w.heap.size w w1) (h : RPost w1 X row s w2) : RPost w X row s w2 := by
  obtain ⟨row', hp, hm, hr⟩ := h
  exact ⟨row', hp, (Below.movedNew hb).trans hm (fun _ _ h => h), fun k hk => (hr k hk).imp id (fun h => Nat.le_trans hb.size h)⟩
theorem rpk_new (w : World) : RPk (w.alloc (.cells #[.slice none 0 0, .bool false] 28)) w.heap.size (some []) none :=
  ⟨none, 0, 0, heap_new w _, (fun h => by cases h), fun xs h => by injection h with h; subst h; exact ⟨rfl, by simp, Byt.nil _ _, rfl, fun k h => by cases h⟩⟩
/-- The flag is set: it has failed. -/
theorem rpk_bad {w : World} {X : Nat} {s : Option (List UInt8)} {row : Option Nat} (h : RPk w X s row) : RPost w X row none (w.setCell ⟨X, 1, none⟩ (.bool true)) := by
  obtain ⟨A, n, c, hb, h0, h1⟩ := h
  have hset := heap_set hb 1 (.bool true)
  exact ⟨none, ⟨A, n, c, by simpa using hset, fun _ => rfl, fun xs h => by cases h⟩, (Moved.refl (fun k => k = X) w).setCell (.inr rfl) _, fun k h => by cases h⟩

set_option maxHeartbeats 2000000 in
theorem refPut_none (X : Nat) (row : Option Nat) (A : Option Addr) (ys : List UInt8) (c : Nat) (w : World) (h : RPk w X none row) :
    Calls Try.prog 12 #[.pointer (some ⟨X, 0, none⟩), .slice A ys.length c] w fun e w' => e = .returned (.tuple #[]) ∧ RPost w X row none w' := by
  have HP := Lib.hid (rpk_bad h)
  obtain ⟨A0, n, cap, hb, h0, h1⟩ := h
  obtain ⟨hc, hf⟩ := cells_of_heap hb
  have c1 := hc 1
  have f1 := hf 1
  clear hc hf hb h0 h1
  go_enter Try.func12, Try.ntmps12
  go_wp2
  go_returns
  exact ⟨rfl, HP.out⟩
set_option maxHeartbeats 2000000 in
theorem refPut_not (X : Nat) (xs : List UInt8) (row : Option Nat) (A : Option Addr) (ys : List UInt8) (c : Nat) (w : World) (h : RPk w X (some xs) row) (hn : ¬ xs.length + ys.length ≤ 65536) (hm : ys.length ≤ 140737488290000) :
    Calls Try.prog 12 #[.pointer (some ⟨X, 0, none⟩), .slice A ys.length c] w fun e w' => e = .returned (.tuple #[]) ∧ RPost w X row none w' := by
  have HP := Lib.hid (rpk_bad h)
  obtain ⟨A0, n, cap, hb, h0, h1⟩ := h
  obtain ⟨rfl, hx, _⟩ := h1 xs rfl
  obtain ⟨hc, hf⟩ := cells_of_heap hb
  have c0 := hc 0
  have c1 := hc 1
  have f1 := hf 1
  have hn' : (65536 : Int) < (xs.length : Int) + (ys.length : Int) := by omega
  clear hc hf hb h0 h1
  go_enter Try.func12, Try.ntmps12
  go_wp2
  go_returns
  exact ⟨rfl, HP.out⟩
set_option maxHeartbeats 2000000 in
theorem refPut_fit (X : Nat) (xs : List UInt8) (row : Option Nat) (A : Option Addr) (ys : List UInt8) (c : Nat) (w : World) (h : RPk w X (some xs) row) (hn : xs.length + ys.length ≤ 65536) (hy : Byt w A ys) :
    Calls Try.prog 12 #[.pointer (some ⟨X, 0, none⟩), .slice A ys.length c] w fun e w' => e = .returned (.tuple #[]) ∧ RPost w X row (some (xs ++ ys)) w' := by
  obtain ⟨A0, n, cap, hb, h0, h1⟩ := h
  obtain ⟨rfl, hx, hxy, hxr, hxk⟩ := h1 xs rfl
  clear hxr hxk
  obtain ⟨hc, hf⟩ := cells_of_heap hb
  have c0 := hc 0
  have c1 := hc 1
  have c0a : (w.alloc (.cells #[] 5)).cell? ⟨X, 0, none⟩ = some (.slice A0 xs.length cap) := cell_old _ (by rw [hc 0]; rfl)
  have hn' : (xs.length : Int) + (ys.length : Int) ≤ 65536 := by omega
  have HB := Lib.hid hb
  have HX := Lib.hid hxy
  have HY := Lib.hid hy
  obtain ⟨i0, hi0, hz0, hz1, hz2⟩ := info_parts u8_info
  have tok1 : True := trivial
  have tok2 : True := trivial
  clear hc hf hb h0 h1 hxy hy
  go_enter Try.func12, Try.ntmps12
  go_wp2_with (first | (at_builtin; have _t := tok1; refine wpList_append_byt _ (by rfl) (.tmp 23) (.tmp 27) 26 (by rfl) 5 i0 Try.underlying26 hi0 hz0 hz1 hz2 w.heap.size (.slice (some ⟨w.heap.size, 0, none⟩) 0 0) [] (by rfl) (World.ownsRow_made w #[] 0 (Nat.le_refl _) (by decide) rfl) A0 cap xs (by rfl) (HX.out.alloc _) (by simp only [List.length_nil]; omega) (by simp) ?_; intro A1 c1 w1 hown hgrow hat; clear tok1 _t; simp only [List.nil_append] at hown ⊢; have HO1 := Lib.hid hown; have HB1 : Hid (Below w.heap.size w w1) := Lib.hid (((Below.refl _ _).alloc (Nat.le_refl _) _).grown hgrow (by simp) (by intro k hk; simp [Value.ownBlock] at hk; omega)); clear hown hgrow hat) | (at_builtin; have _t := tok2; refine wpList_append_byt _ (by rfl) (.tmp 28) (.tmp 29) 26 (by rfl) 5 i0 Try.underlying26 hi0 hz0 hz1 hz2 w.heap.size (.slice A1 xs.length c1) xs (by rfl) HO1.out A c ys (by rfl) (HY.out.later HB1.out) (by omega) HB1.out.size ?_; intro A2 c2 w2 hown hgrow hat; clear tok2 _t; have HO2 := Lib.hid hown; have HB2 : Hid (Below w.heap.size w w2) := Lib.hid (HB1.out.grown hgrow HB1.out.size (fun k hk => (own_base HO1.out k hk).1)); have hbx := (HB2.out.block X (heap_lt HB.out)).trans HB.out; obtain ⟨hc, hf⟩ := cells_of_heap hbx; have e0 := hc 0; have g0 := hf 0; have HBX := Lib.hid hbx; clear hc hf hbx hown hgrow hat))
  go_returns
  have hset := heap_set HBX.out 0 (.slice A2 (xs.length + ys.length) c2)
  have ho2 := HO2.out
  have hl : (xs ++ ys).length = xs.length + ys.length := List.length_append
  rw [hl] at ho2
  have hm : Moved (fun k => k = X) w2 (w2.setCell ⟨X, 0, none⟩ (.slice A2 (xs.length + ys.length) c2)) := (Moved.refl (fun k => k = X) w2).setCell (.inr rfl) _
  have hrow : ∀ k, (Value.slice A2 (xs.length + ys.length) c2).ownBlock = some k → w.heap.size ≤ k ∧ k < w2.heap.size ∧ k ≠ X := fun k hk => by
    have := own_base ho2 k hk
    have hX := heap_lt HB.out
    exact ⟨this.1, this.2, by omega⟩
  refine ⟨rfl, (Value.slice A2 (xs.length + ys.length) c2).ownBlock, ⟨A2, _, c2, by simpa using hset, (fun h => by cases h), fun zs hz => ?_⟩, (Below.movedNew HB2.out).trans hm (fun _ _ h => h), fun k hk => .inr (hrow k hk).1⟩
  injection hz with hz
  subst hz
  refine ⟨hl.symm, by omega, (own_byt_any HO2.out).moved (n := xs.length + ys.length) (c := c2) hm (fun k hk e => (hrow k hk).2.2 e), rfl, fun k hk => ⟨by simpa using (hrow k hk).2.1, (hrow k hk).2.2⟩⟩
theorem refPut_any (X : Nat) (s : Option (List UInt8)) (row : Option Nat) (A : Option Addr) (ys : List UInt8) (n c : Nat) (w : World) (hn : n = ys.length) (h : RPk w X s row) (hy : Byt w A ys) (hm : ys.length ≤ 140737488290000) :
    Calls Try.prog 12 #[.pointer (some ⟨X, 0, none⟩), .slice A n c] w fun e w' => e = .returned (.tuple #[]) ∧ RPost w X row (putB s ys) w' := by
  subst hn
  rcases s with _ | xs
  · exact refPut_none X row A ys c w h
  · by_cases hn : xs.length + ys.length ≤ 65536
    · rw [putB_fit hn]; exact refPut_fit X xs row A ys c w h hn hy
    · rw [putB_not hn]; exact refPut_not X xs row A ys c w h hn hm
end Go.Proofs.Ytnphmejmcnihoaa
