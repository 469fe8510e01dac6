/- Walks of package pack: numbers, ints, flags and texts are packed. -/
import Derived.Test.YtnphmejmcnihoaaPakB
import Derived.Laws.BitsAllLaws
set_option linter.unusedSimpArgs false
set_option linter.unusedVariables false
namespace Go.Proofs.Ytnphmejmcnihoaa
open Go.ChangeShapes Go.WideShapes Go.ChangeAt Go.RowKit Go.Base Go.Pk

def NumRel (n0 : Nat) (w : World) (n size : Value) (wr : World) : Prop :=
  ∃ (pre : List UInt8) (m : Nat) (cs : Array Value), n = .int .u64 (m : Int) ∧ size = .int .i64 (pre.length : Int) ∧ numB n0 = pre ++ numB m ∧ m < 18446744073709551616 ∧
    wr.heap[w.heap.size]? = some (.cells cs 65 (0, 0)) ∧ cs.size = 10 ∧ cs.toList.take pre.length = pre.map u8v ∧ Below w.heap.size w wr

theorem or128 (x : Nat) (h : x < 256) : bits BinOp.or IntKind.u8 (x : Int) 128 = ((x % 128 + 128 : Nat) : Int) := by
  have h1 := u8_or_nat x 128 h (by omega)
  rw [show ((128 : Nat) : Int) = 128 from rfl] at h1
  rw [h1]
  have : ∀ y : Fin 256, y.val ||| 128 = y.val % 128 + 128 := by decide +kernel
  have := this ⟨x, h⟩
  simp only at this
  rw [this]

set_option maxHeartbeats 1000000 in
theorem byt_of_heap {w : World} {g : Nat} {cs : Array Value} {t : TypeId} {z : Nat × Nat} {ys : List UInt8} (h : w.heap[g]? = some (.cells cs t z)) (ht : cs.toList.take ys.length = ys.map u8v) : Byt w (some ⟨g, 0, none⟩) ys := fun i hi => by
  refine ⟨g, 0, rfl, ?_⟩
  rw [Nat.zero_add, cell_of_row w g i cs t z h, ← Array.getElem?_toList]
  have : (cs.toList.take ys.length)[i]? = (ys.map u8v)[i]? := by rw [ht]
  rw [List.getElem?_take_of_lt hi, List.getElem?_map, List.getElem?_eq_getElem hi] at this
  exact this
theorem take_len (B : Nat) (s : Option (List UInt8)) (row : Option Nat) (A : Option Addr) (ys : List UInt8) (k c : Nat) (w : World) (hk : k = ys.length) (h : Pak w B s row) (hy : Byt w A ys) (hm : ys.length ≤ maxLen) :
    Calls Try.prog 34 #[.pointer (some ⟨B, 0, none⟩), .slice A k c] w fun e w' => e = .returned (.tuple #[]) ∧ PakPost w B row (putB s ys) w' := by
  subst hk; exact take_any B s row A ys c w h hy hm
/-- A packer's call in a world that has only new blocks besides. -/
theorem PakPost.later {w w1 w2 : World} {B : Nat} {row : Option Nat} {s : Option (List UInt8)} (hb : Below w.heap.size w w1) (h : PakPost w1 B row s w2) : PakPost w B row s w2 :=
  PakPost.trans (s1 := s) (Below.movedNew hb) (fun k h => .inl h) h
theorem Pak.later {w w1 : World} {B : Nat} {row : Option Nat} {s : Option (List UInt8)} (h : Pak w B s row) (hb : Below w.heap.size w w1) : Pak w1 B s row :=
  h.moved (p := fun _ => False) (Below.movedNew hb) (fun h => h) (fun _ _ h => h)

set_option maxHeartbeats 1000000 in
set_option maxRecDepth 20000 in
theorem number_any (B : Nat) (s : Option (List UInt8)) (row : Option Nat) (n : Nat) (w : World) (h : Pak w B s row) (hn : n < 18446744073709551616) :
    Calls Try.prog 11 #[.pointer (some ⟨B, 0, none⟩), .int .u64 n] w fun e w' => e = .returned (.tuple #[]) ∧ PakPost w B row (putB s (numB n)) w' := by
  have HP := Lib.hid h
  have HT := Lib.hid (numB_ten hn)
  clear h
  go_enter Try.func11, Try.ntmps11
  go_wp2
  go_loopw [1, 5] (fun m size wr => NumRel n w m size wr) (fun m _ _ => (intOf m).toNat)
  case atStart => exact ⟨[], n, _, rfl, rfl, rfl, hn, heap_new w _, rfl, rfl, below_alloc w _⟩
  case round =>
    obtain ⟨pre, m, cs, rfl, rfl, he, hm, hb, hs, ht, hB⟩ := hrel
    have hl9 : pre.length + 1 ≤ 10 := by
      have h1 := HT.out; rw [he, List.length_append] at h1
      have h2 := numB_pos m; omega
    have hl9' : (pre.length : Int) < 10 := by omega
    obtain ⟨v0, hv0⟩ : ∃ v0, cs[pre.length]? = some v0 := ⟨cs[pre.length]'(by omega), by simp⟩
    obtain ⟨hc, hf⟩ := cells_of_heap hb
    have c0 := (hc pre.length).trans hv0
    have f0 := hf pre.length
    have hor : bits BinOp.or IntKind.u8 ((m : Int) % 256) 128 = ((m % 128 + 128 : Nat) : Int) := by
      have := or128 (m % 256) (by omega)
      rw [show m % 256 % 128 = m % 128 by omega] at this
      rw [← this]; congr 1
    have HE := Lib.hid he
    have HB := Lib.hid hb
    have HS := Lib.hid hs
    have HC := Lib.hid ht
    have HW := Lib.hid hB
    clear hc hf hv0 he hb hs ht hB
    by_cases hlt : 128 ≤ m
    · have hlt' : (128 : Int) ≤ (m : Int) := by omega
      go_wp2
      go_roundw
      case rel =>
        refine ⟨pre ++ [UInt8.ofNat (m % 128 + 128)], m / 128, cs.setIfInBounds pre.length (.int .u8 ((m : Int) % 128 + 128)), by go_num, by simp, ?_, by omega, heap_set HB.out _ _, by simpa using HS.out, ?_, HW.out.setCell (Nat.le_refl _) _⟩
        · rw [HE.out, numB_hi hlt]; simp
        · have h1 := HC.out
          have h2 := HS.out
          have h3 : (UInt8.ofNat (m % 128 + 128)).toNat = m % 128 + 128 := ofNat_nat (by omega)
          rw [List.length_append, List.length_singleton, Array.toList_setIfInBounds, List.take_succ_eq_append_getElem (by simp; omega), List.take_set_of_le (Nat.le_refl _), h1]
          simp only [List.map_append, List.map_cons, List.map_nil, List.getElem_set_self, u8v, h3]
          rfl
      case measure => simp [intOf]; omega
    · have hlt' : (m : Int) < 128 := by omega
      clear hor hm
      have hl0 : (0 : Int) ≤ (pre.length : Int) + 1 := by omega
      have hl1 : (pre.length : Int) + 1 ≤ 10 := by omega
      have hl2 : ((pre.length : Int) + 1).toNat = pre.length + 1 := by omega
      have hset := heap_set HB.out pre.length (.int .u8 (m : Int))
      have HB2 : Hid (Below w.heap.size w (wr.setCell ⟨w.heap.size, pre.length, none⟩ (.int .u8 (m : Int)))) := Lib.hid (HW.out.setCell (Nat.le_refl _) _)
      have HY : Hid (Byt (wr.setCell ⟨w.heap.size, pre.length, none⟩ (.int .u8 (m : Int))) (some ⟨w.heap.size, 0, none⟩) (pre ++ [UInt8.ofNat m])) := Lib.hid (by
        refine byt_of_heap hset ?_
        have h1 := HC.out
        have h2 := HS.out
        have h3 : (UInt8.ofNat m).toNat = m := ofNat_nat (by omega)
        rw [List.length_append, List.length_singleton, Array.toList_setIfInBounds, List.take_succ_eq_append_getElem (by simp; omega), List.take_set_of_le (Nat.le_refl _), h1]
        simp only [List.map_append, List.map_cons, List.map_nil, List.getElem_set_self, u8v, h3])
      have HE2 : Hid (numB n = pre ++ [UInt8.ofNat m]) := Lib.hid (by rw [HE.out, numB_lo (by omega)])
      clear hset
      go_wp2_with (go_at_call 34; refine (take_len B s row _ (pre ++ [UInt8.ofNat m]) _ _ _ (by simp) (HP.out.later HB2.out) HY.out (by simp [maxLen]; omega)).mono ?_; rintro e w2 ⟨rfl, hp⟩; have HQ := Lib.hid hp; clear hp)
      go_returns
      refine ⟨rfl, ?_⟩
      rw [HE2.out]
      exact HQ.out.later HB2.out
end Go.Proofs.Ytnphmejmcnihoaa
