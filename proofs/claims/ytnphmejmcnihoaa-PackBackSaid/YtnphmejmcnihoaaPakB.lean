/- Walks of package pack: a packer takes bytes. -/
import Derived.Test.YtnphmejmcnihoaaPakA
import Derived.Test.YtnphmejmcnihoaaAppend
import Derived.Test.YtnphmejmcnihoaaMoved
import Derived.WalkKit
import Derived.Handy
import Derived.ProofKit
import Derived.Lib.Hide
import Derived.Outline
import Derived.WalkSmall
import Derived.WalkSpells
set_option linter.unusedSimpArgs false
set_option linter.unusedVariables false
namespace Go.Proofs.Ytnphmejmcnihoaa
open Go.ChangeShapes Go.WideShapes Go.ChangeAt Go.RowKit Go.Base Go.Pk

/-- The packer in block B has taken s (or has failed); its bytes lie in block 'row'. -/
def Pak (w : World) (B : Nat) (s : Option (List UInt8)) (row : Option Nat) : Prop :=
  ∃ A n cap, w.heap[B]? = some (.cells #[.slice A n cap, .bool s.isNone] 64 (0, 0)) ∧ (Value.slice A n cap).ownBlock = row ∧
    (s = none → A = none ∧ n = 0 ∧ cap = 0) ∧ ∀ xs, s = some xs → n = xs.length ∧ xs.length ≤ 65536 ∧ w.ownsRow 0 5 1 (.slice A n cap) n (xs.map u8v)
/-- Behind a call that packs. -/
def PakPost (w : World) (B : Nat) (row : Option Nat) (s : Option (List UInt8)) (w' : World) : Prop :=
  ∃ row', Pak w' B s row' ∧ Moved (fun k => k = B ∨ row = some k) w w' ∧ ∀ k, row' = some k → row = some k ∨ w.heap.size ≤ k

theorem Pak.lt {w : World} {B : Nat} {s : Option (List UInt8)} {row : Option Nat} (h : Pak w B s row) : B < w.heap.size := by
  obtain ⟨A, n, cap, h, _⟩ := h; exact heap_lt h
theorem Pak.row_lt {w : World} {B : Nat} {s : Option (List UInt8)} {row : Option Nat} (h : Pak w B s row) : ∀ k, row = some k → k < w.heap.size ∧ k ≠ B := by
  obtain ⟨A, n, cap, hb, rfl, h0, h1⟩ := h
  intro k hk
  cases s with
  | none => obtain ⟨rfl, _⟩ := h0 rfl; simp [Value.ownBlock] at hk
  | some xs =>
    obtain ⟨_, _, ho⟩ := h1 xs rfl
    exact ⟨(ho.lt k hk).2, fun e => own_ne ho hb (by decide) (by rw [hk, e])⟩
theorem Pak.moved {p : Nat → Prop} {w w' : World} {B : Nat} {s : Option (List UInt8)} {row : Option Nat} (h : Pak w B s row) (hm : Moved p w w') (hB : ¬ p B) (hr : ∀ k, row = some k → ¬ p k) : Pak w' B s row := by
  obtain ⟨A, n, cap, hb, rfl, h0, h1⟩ := h
  exact ⟨A, n, cap, hm.heap hb hB, rfl, h0, fun xs hx => ⟨(h1 xs hx).1, (h1 xs hx).2.1, own_moved (h1 xs hx).2.2 hm hr⟩⟩
theorem PakPost.trans {w w1 w2 : World} {B : Nat} {row : Option Nat} {s1 s2 : Option (List UInt8)} {row1 : Option Nat} (hm : Moved (fun k => k = B ∨ row = some k) w w1) (hr : ∀ k, row1 = some k → row = some k ∨ w.heap.size ≤ k) (h2 : PakPost w1 B row1 s2 w2) : PakPost w B row s2 w2 := by
  obtain ⟨row2, hp, hm2, hr2⟩ := h2
  refine ⟨row2, hp, hm.trans hm2 (fun k hk h => ?_), fun k hk => ?_⟩
  · rcases h with rfl | h
    · exact .inl rfl
    · rcases hr k h with h' | h'
      · exact .inr h'
      · omega
  · rcases hr2 k hk with h | h
    · exact hr k h
    · exact .inr (Nat.le_trans hm.size h)

theorem u8_info : (Try.prog.info? 5).map (fun i => (i.zero, i.size, i.bytes)) = some (some (.int .u8 0), 1, 1) := by kernel_rfl

theorem new_any (w : World) :
    Calls Try.prog 9 #[] w fun e w' => e = .returned (.pointer (some ⟨w.heap.size, 0, none⟩)) ∧ w' = w.alloc (.cells #[.slice none 0 0, .bool false] 64) := by
  go_enter Try.func9, Try.ntmps9
  go_wp2
  go_ret
  exact ⟨rfl, rfl⟩
theorem pak_new (w : World) : Pak (w.alloc (.cells #[.slice none 0 0, .bool false] 64)) w.heap.size (some []) none :=
  ⟨none, 0, 0, heap_new w _, rfl, (fun h => by cases h), (fun xs h => by injection h with h; subst h; exact ⟨rfl, by simp, World.ownsRow_nil _ _ _ _⟩)⟩

theorem fail_any (B : Nat) (s : Option (List UInt8)) (row : Option Nat) (w : World) (h : Pak w B s row) :
    Calls Try.prog 36 #[.pointer (some ⟨B, 0, none⟩)] w fun e w' => e = .returned (.tuple #[]) ∧ PakPost w B row none w' := by
  obtain ⟨A, n, cap, hb, hr, h0, h1⟩ := h
  obtain ⟨hc, hf⟩ := cells_of_heap hb
  have c0 := hc 0
  have c1 := hc 1
  have f0 := hf 0
  have f1 := hf 1
  clear hc hf
  have HB := Lib.hid hb
  have HR := Lib.hid hr
  clear hb hr h0 h1
  go_enter Try.func36, Try.ntmps36
  go_wp2
  go_returns
  refine ⟨rfl, none, ⟨none, 0, 0, ?_, rfl, fun _ => ⟨rfl, rfl, rfl⟩, fun xs h => by cases h⟩, ((Moved.refl _ w).setCell (.inr (.inl rfl)) _).setCell (.inr (.inl rfl)) _, fun k h => by cases h⟩
  have h := heap_set (heap_set HB.out 0 (.slice none 0 0)) 1 (.bool true)
  simpa using h

set_option maxHeartbeats 1000000 in
theorem take_none (B : Nat) (row : Option Nat) (A : Option Addr) (ys : List UInt8) (c : Nat) (w : World) (h : Pak w B none row) :
    Calls Try.prog 34 #[.pointer (some ⟨B, 0, none⟩), .slice A ys.length c] w fun e w' => e = .returned (.tuple #[]) ∧ PakPost w B row none w' := by
  have HP := Lib.hid h
  obtain ⟨A0, n, cap, hb, hr, h0, h1⟩ := h
  obtain ⟨hc, hf⟩ := cells_of_heap hb
  have c0 := hc 0
  have c1 := hc 1
  clear hc hf hb hr h0 h1
  go_enter Try.func34, Try.ntmps34
  go_wp2
  go_returns
  exact ⟨rfl, row, HP.out, Moved.refl _ _, fun k h => .inl h⟩

set_option maxHeartbeats 1000000 in
theorem take_not (B : Nat) (xs : List UInt8) (row : Option Nat) (A : Option Addr) (ys : List UInt8) (c : Nat) (w : World) (h : Pak w B (some xs) row) (hn : ¬ xs.length + ys.length ≤ 65536) (hm : ys.length ≤ maxLen) :
    Calls Try.prog 34 #[.pointer (some ⟨B, 0, none⟩), .slice A ys.length c] w fun e w' => e = .returned (.tuple #[]) ∧ PakPost w B row none w' := by
  have HP := Lib.hid h
  obtain ⟨A0, n, cap, hb, hr, h0, h1⟩ := h
  obtain ⟨rfl, hx, ho⟩ := h1 xs rfl
  obtain ⟨hc, hf⟩ := cells_of_heap hb
  have c0 := hc 0
  have c1 := hc 1
  unfold maxLen at hm
  clear hc hf hb hr h0 h1 ho
  go_enter Try.func34, Try.ntmps34
  go_wp2_with (go_at_call 36; refine (fail_any B (some xs) row _ HP.out).mono ?_; rintro e w1 ⟨rfl, hp⟩; have HQ := Lib.hid hp; clear hp)
  go_returns
  exact ⟨rfl, HQ.out⟩

set_option maxHeartbeats 1000000 in
theorem take_fit (B : Nat) (xs : List UInt8) (row : Option Nat) (A : Option Addr) (ys : List UInt8) (c : Nat) (w : World) (h : Pak w B (some xs) row) (hn : xs.length + ys.length ≤ 65536) (hy : Byt w A ys) :
    Calls Try.prog 34 #[.pointer (some ⟨B, 0, none⟩), .slice A ys.length c] w fun e w' => e = .returned (.tuple #[]) ∧ PakPost w B row (some (xs ++ ys)) w' := by
  have HP := Lib.hid h
  have HY := Lib.hid hy
  obtain ⟨A0, n, cap, hb, hr, h0, h1⟩ := h
  obtain ⟨rfl, hx, ho⟩ := h1 xs rfl
  obtain ⟨hc, hf⟩ := cells_of_heap hb
  have c0 := hc 0
  have c1 := hc 1
  have HB := Lib.hid hb
  have HR := Lib.hid hr
  have HO := Lib.hid ho
  have HN : Hid ((Value.slice A0 xs.length cap).ownBlock ≠ some B) := Lib.hid (own_ne ho hb (by decide))
  obtain ⟨i0, hi0, hz0, hz1, hz2⟩ := info_parts u8_info
  clear hc hf hb hr h0 h1 ho hy
  go_enter Try.func34, Try.ntmps34
  go_wp2_with (at_builtin; refine wpList_append_byt _ (by rfl) (.tmp 27) (.tmp 28) 26 (by rfl) 5 i0 Try.underlying26 hi0 hz0 hz1 hz2 0 (.slice A0 xs.length cap) xs (by rfl) HO.out A c ys (by rfl) HY.out (by omega) (by omega) ?_; intro A1 c1 w1 hown hgrow hat; have HO1 := Lib.hid hown; have HG := Lib.hid hgrow; have HA := Lib.hid hat; have hb1 := (hgrow.block B (heap_lt HB.out) HN.out.symm).trans HB.out; obtain ⟨hc, hf⟩ := cells_of_heap hb1; have d0 := hc 0; have e0 := hf 0; have HB1 := Lib.hid hb1; clear hc hf hb1 hown hgrow hat)
  go_returns
  have hset := heap_set HB1.out 0 (.slice A1 (xs.length + ys.length) c1)
  have ho1 := HO1.out
  have hl : (xs ++ ys).length = xs.length + ys.length := List.length_append
  have ha := HA.out
  rw [hl] at ho1 ha
  rw [HR.out] at ha
  refine ⟨rfl, (Value.slice A1 (xs.length + ys.length) c1).ownBlock, ⟨A1, _, c1, by simpa using hset, rfl, (fun h => by cases h), fun zs hz => ?_⟩, ?_, fun k hk => ?_⟩
  · injection hz with hz
    subst hz
    refine ⟨hl.symm, by omega, own_moved (p := fun k => k = B) ho1 ((Moved.refl (fun k => k = B) w1).setCell (.inr rfl) _) (fun k hk e => own_ne ho1 HB1.out (by decide) (by rw [hk, e]))⟩
  · exact ((Moved.refl _ w).grown HG.out (fun k _ h => .inr (by rw [← HR.out]; exact h))).setCell (.inr (.inl rfl)) _
  · rcases ha with h | h
    · exact .inl (by rw [← h]; exact hk)
    · rw [h] at hk; injection hk with hk; exact .inr (by omega)

/-- WHATEVER THE PACKER IS: bytes are taken behind what was taken, or it has failed. -/
theorem take_any (B : Nat) (s : Option (List UInt8)) (row : Option Nat) (A : Option Addr) (ys : List UInt8) (c : Nat) (w : World) (h : Pak w B s row) (hy : Byt w A ys) (hm : ys.length ≤ maxLen) :
    Calls Try.prog 34 #[.pointer (some ⟨B, 0, none⟩), .slice A ys.length c] w fun e w' => e = .returned (.tuple #[]) ∧ PakPost w B row (putB s ys) w' := by
  rcases s with _ | xs
  · exact take_none B row A ys c w h
  · by_cases hn : xs.length + ys.length ≤ 65536
    · rw [putB_fit hn]; exact take_fit B xs row A ys c w h hn hy
    · rw [putB_not hn]; exact take_not B xs row A ys c w h hn hm

end Go.Proofs.Ytnphmejmcnihoaa
