/- Small declarations, taken out of longer texts. -/
import Derived.Test.YtnikhhbnbeljeaaGreatDoorCroA
import Derived.Test.YtnikhhbnbeljeaaGreatDoorBase
import Derived.Test.YtnikhhbnbeljeaaGreatDoorCivA
import Derived.PlainAid
import Derived.Lib.Bytealg
import Derived.WalkKit
import Derived.Handy
import Derived.ProofKit
import Derived.OpenShut
import Derived.Deep.DeepHandedRow
import Derived.Lib.Hide
import Derived.Laws.Tables
import Derived.Carry
import Derived.Deep.QuietTactic
import Derived.BigQuiet
import Derived.Outline
import Derived.Laws.ShiftsVar
import Derived.WalkSmall
import Derived.WalkSpells
import Derived.Lib.Strings
import Derived.Deep.Cut
import Derived.RangeFuncNested
import Derived.RangeFuncBound
import Derived.RangeFuncCalls
import Derived.RangeFuncLeaves
import Derived.RangeFuncFrom
import Derived.Shelf.Abstract
import Derived.Shelf.RegionOpen
import Derived.OwnWalkIn
import Derived.TacticsInMore
import Derived.LoopNIn
import Derived.LoopIn
import Derived.Laws.EntriesVeiled
import Derived.OrdersIn
import Derived.Deep.RegionHeld3
import Derived.Deep.MidRow
import Derived.Shelf.Strings.OnBuilder
import Derived.Lib.LaidTab
import Derived.Laws.BitsAllLaws
import Derived.Lib.ItoaNum
set_option linter.unusedSimpArgs false
set_option linter.unusedVariables false
namespace Go.Proofs.YtnikhhbnbeljeaaGreatDoor
open Go.ChangeShapes Go.WideShapes Go.ChangeAt Go.RowKit Go.Base Go.Cro Go.Civ

def U64 (n : Int) : Prop := 0 ≤ n ∧ n ≤ 18446744073709551615
end Go.Proofs.YtnikhhbnbeljeaaGreatDoor
namespace Go.Proofs.YtnikhhbnbeljeaaGreatDoor
open Go.ChangeShapes Go.WideShapes Go.ChangeAt Go.RowKit Go.Base Go.Cro

theorem ext_list (l : Bytes) (a b : Nat) : (⟨l.toArray⟩ : ByteArray).extract a b = ⟨((l.take b).drop a).toArray⟩ := by
  have h := Lib.extract_data (⟨l.toArray⟩ : ByteArray) a b
  apply ByteArray.ext
  apply Array.ext'
  rw [h]
  simp [List.drop_take]

end Go.Proofs.YtnikhhbnbeljeaaGreatDoor
namespace Go.Proofs.YtnikhhbnbeljeaaGreatDoor
open Go.ChangeShapes Go.WideShapes Go.ChangeAt Go.RowKit Go.Base Go.Cro

theorem size_drewN (w : World) (n : Nat) : (w.drewN n).heap.size = w.heap.size := rfl

structure ScOk (s : Sc) : Prop where
  l0 : 0 ≤ s.least
  l1 : s.least ≤ 1
  m0 : 1 ≤ s.most
  m1 : s.most ≤ 59
  d1 : s.said ≤ 59
theorem scOk (k : Nat) : ScOk (scB k) := by
  unfold scB; split <;> exact ⟨by decide, by decide, by decide, by decide, by decide⟩

end Go.Proofs.YtnikhhbnbeljeaaGreatDoor
namespace Go.Proofs.YtnikhhbnbeljeaaGreatDoor
open Go.ChangeShapes Go.WideShapes Go.ChangeAt Go.RowKit Go.Base Go.Cro Go.Shelf
theorem fieldFrom_append (rd : Bytes → Option Int) (s : Sc) : ∀ (a r : List Bytes) (b : Int) (st : Bool), fieldFrom rd s (a ++ r) b st = match fieldFrom rd s a b st with
    | .error e => .error e
    | .ok m => fieldFrom rd s r m.1 m.2
  | [], r, b, st => rfl
  | x :: a, r, b, st => by
    simp only [List.cons_append, fieldFrom]
    cases itemB rd x with
    | none => rfl
    | some it =>
      simp only
      split
      · exact fieldFrom_append rd s a r _ _
      · rfl
theorem row_set {w : World} {g i : Nat} {cs : Array Value} {t : TypeId} {fr : Nat × Nat} (v : Value) (h : w.heap[g]? = some (.cells cs t fr)) : (w.setCell ⟨g, i, none⟩ v).heap[g]? = some (.cells (cs.setIfInBounds i v) t fr) := by
  rw [setCell_eq_setRow w g i cs t fr v h]; exact setRow_heap w g cs _ t fr h
theorem row_below {w w' : World} {B k : Nat} {x : Obj} (hb : Below B w w') (hk : k < B) (h : w.heap[k]? = some x) : w'.heap[k]? = some x := (hb.block k hk).trans h
theorem heap_at {w : World} {n : Nat} (o : Obj) (h : n = w.heap.size) : (w.alloc o).heap[n]? = some o := by subst h; exact heap_new w o

end Go.Proofs.YtnikhhbnbeljeaaGreatDoor
namespace Go.Proofs.YtnikhhbnbeljeaaGreatDoor
open Go.ChangeShapes Go.WideShapes Go.ChangeAt Go.RowKit Go.Base Go.Cro Go.Shelf
/-- The table of the fields' scopes lies in its variable. -/
def ScTab (w : World) : Prop := ∀ i : Nat, i < 15 → w.cell? ⟨1, i, none⟩ = some (.int .i64 (([0, 59, 59, 0, 23, 23, 1, 31, 31, 1, 12, 12, 0, 6, 7] : List Int).getD i 0))
theorem ScTab.later {w w' : World} (h : ScTab w) (hb : Below w.heap.size w w') : ScTab w' := fun k hk => by
  have c := h k hk
  rw [hb.cell (World.block_lt_of_cell? w _ c)]; exact c

end Go.Proofs.YtnikhhbnbeljeaaGreatDoor
namespace Go.Proofs.YtnikhhbnbeljeaaGreatDoor
open Go.ChangeShapes Go.WideShapes Go.ChangeAt Go.RowKit Go.Base Go.Cro Go.Shelf
theorem cell_other {W : World} {a : Addr} {g i : Nat} {u v : Value} (h : W.cell? a = some u) (hg : a.block ≠ g) : (W.setCell ⟨g, i, none⟩ v).cell? a = some u :=
  (World.cell?_of_block (w := W) (a := a) (Below.heap_setCell W ⟨g, i, none⟩ v a.block hg)).trans h
end Go.Proofs.YtnikhhbnbeljeaaGreatDoor
namespace Go.Proofs.YtnikhhbnbeljeaaGreatDoor
open Go.ChangeShapes Go.WideShapes Go.ChangeAt Go.RowKit Go.Base Go.Cro Go.Civ

/-- A number of one or two digits. -/
def digB (n : Nat) : Bytes := if n < 10 then [UInt8.ofNat (48 + n)] else [UInt8.ofNat (48 + n / 10), UInt8.ofNat (48 + n % 10)]

theorem bytes_append (a b : Bytes) : ((⟨a.toArray⟩ : ByteArray) ++ (⟨b.toArray⟩ : ByteArray)) = ⟨(a ++ b).toArray⟩ := by apply ByteArray.ext; simp
theorem digB_len (n : Nat) : (digB n).length ≤ 2 := by unfold digB; split <;> simp

end Go.Proofs.YtnikhhbnbeljeaaGreatDoor
namespace Go.Proofs.YtnikhhbnbeljeaaGreatDoor
open Go.ChangeShapes Go.WideShapes Go.ChangeAt Go.RowKit Go.Base Go.Cro Go.Civ

theorem dec1 {u : Nat} (h : u < 10) : Lib.decDigits u = [UInt8.ofNat (48 + u)] := by unfold Lib.decDigits; rw [dif_pos h]
theorem dec2 {u : Nat} (h : ¬ u < 10) (h2 : u < 100) : Lib.decDigits u = [UInt8.ofNat (48 + u / 10), UInt8.ofNat (48 + u % 10)] := by
  unfold Lib.decDigits; rw [dif_neg h, dec1 (by omega)]; rfl
end Go.Proofs.YtnikhhbnbeljeaaGreatDoor
namespace Go.Proofs.YtnikhhbnbeljeaaGreatDoor
open Go.ChangeShapes Go.WideShapes Go.ChangeAt Go.RowKit Go.Base Go.Cro Go.Civ

theorem splitB_app (p : UInt8 → Bool) (c : UInt8) (r : Bytes) (hc : p c = true) : ∀ x : Bytes, (∀ b ∈ x, p b = false) → splitB p (x ++ c :: r) = x :: splitB p r
  | [], _ => by simp only [List.nil_append, splitB]; rw [if_pos hc]
  | b :: x, h => by
    have hb := h b (by simp)
    have ih := splitB_app p c r hc x (fun a ha => h a (by simp [ha]))
    simp only [List.cons_append, splitB]
    rw [hb, ih]
    simp
theorem splitB_sole (p : UInt8 → Bool) : ∀ x : Bytes, (∀ b ∈ x, p b = false) → splitB p x = [x]
  | [], _ => rfl
  | b :: x, h => by
    have hb := h b (by simp)
    have ih := splitB_sole p x (fun a ha => h a (by simp [ha]))
    simp only [splitB]
    rw [hb, ih]
    simp
theorem u64_bd {a b : Int} (h1 : U64 a) (h2 : U64 b) : U64 (bits .or .u64 a b) := by
  obtain ⟨h1, h1'⟩ := h1
  obtain ⟨h2, h2'⟩ := h2
  have := u64_or a b h1 (by omega) h2 (by omega)
  rw [this]
  have hlt : a.toNat ||| b.toNat < 2 ^ 64 := Nat.or_lt_two_pow (by omega) (by omega)
  unfold U64
  omega
theorem u64_wrap (x : Int) : U64 (IntKind.u64.wrap x) := by
  unfold U64; rw [IntKind.wrap_u64]; omega
theorem setB_bd {a v : Int} (h : U64 a) : U64 (setB a v) := u64_bd h (u64_wrap _)
theorem valsFrom_bd (least most last step : Int) : ∀ (f : Nat) (v a : Int), U64 a → U64 (valsFrom least most last step f v a)
  | 0, _, _, h => h
  | f + 1, v, a, h => by
    simp only [valsFrom]
    split
    · exact valsFrom_bd least most last step f _ _ (setB_bd h)
    · exact h
theorem dig_bytes : ∀ n : Nat, n < 100 → ((digB n).all fun b => decide (b ≠ 47) && decide (b ≠ 45) && decide (b ≠ 44) && decide (b ≠ 32) && decide (b ≠ 9) && decide (b ≠ 42)) = true := by decide +kernel
theorem dig_ne {n : Nat} (h : n < 100) {b : UInt8} (hb : b ∈ digB n) : b ≠ 47 ∧ b ≠ 45 ∧ b ≠ 44 ∧ b ≠ 32 ∧ b ≠ 9 ∧ b ≠ 42 := by
  have := List.all_eq_true.1 (dig_bytes n h) b hb
  simp only [Bool.and_eq_true, decide_eq_true_eq] at this
  exact ⟨this.1.1.1.1.1, this.1.1.1.1.2, this.1.1.1.2, this.1.1.2, this.1.2, this.2⟩
end Go.Proofs.YtnikhhbnbeljeaaGreatDoor
namespace Go.Proofs.YtnikhhbnbeljeaaGreatDoor
open Go.ChangeShapes Go.WideShapes Go.ChangeAt Go.RowKit Go.Base Go.Cro Go.Civ

theorem splitB_mid (p : UInt8 → Bool) (c : UInt8) (r : Bytes) (hc : p c = true) : ∀ a : Bytes, splitB p (a ++ c :: r) = splitB p a ++ splitB p r
  | [] => by simp only [List.nil_append, splitB]; rw [if_pos hc]; rfl
  | x :: a => by
    have ih := splitB_mid p c r hc a
    simp only [List.cons_append, splitB]
    by_cases hx : p x = true
    · rw [if_pos hx, if_pos hx, ih]; rfl
    · rw [if_neg hx, if_neg hx, ih]
      cases hs : splitB p a with
      | nil => exact absurd hs (splitB_ne _ _)
      | cons y ys => rfl
theorem u64_or_assoc {a b c : Int} (ha : U64 a) (hb : U64 b) (hc : U64 c) : bits .or .u64 (bits .or .u64 a b) c = bits .or .u64 a (bits .or .u64 b c) := by
  have hab := u64_bd ha hb
  have hbc := u64_bd hb hc
  rw [u64_or _ c hab.1 (by have := hab.2; omega) hc.1 (by have := hc.2; omega), u64_or a _ ha.1 (by have := ha.2; omega) hbc.1 (by have := hbc.2; omega),
    u64_or a b ha.1 (by have := ha.2; omega) hb.1 (by have := hb.2; omega), u64_or b c hb.1 (by have := hb.2; omega) hc.1 (by have := hc.2; omega)]
  simp only [Int.toNat_natCast, Nat.or_assoc]
theorem itVals_bd (it : It) (s : Sc) : U64 (itValsB it s) := by
  unfold itValsB valsB
  split
  · exact valsFrom_bd _ _ _ _ _ _ _ ⟨by decide, by decide⟩
  · split
    · exact valsFrom_bd _ _ _ _ _ _ _ ⟨by decide, by decide⟩
    · exact valsFrom_bd _ _ _ _ _ _ _ ⟨by decide, by decide⟩
theorem fieldFrom_bd (rd : Bytes → Option Int) (s : Sc) : ∀ (xs : List Bytes) (b : Int) (st : Bool) (m : Int × Bool), U64 b → fieldFrom rd s xs b st = .ok m → U64 m.1
  | [], b, st, m, hb, h => by cases h; exact hb
  | x :: r, b, st, m, hb, h => by
    simp only [fieldFrom] at h
    split at h
    · cases h
    · split at h
      · exact fieldFrom_bd rd s r _ _ m (u64_bd hb (itVals_bd _ _)) h
      · cases h
/-- What came ahead is added. -/
theorem fieldFrom_add (rd : Bytes → Option Int) (s : Sc) : ∀ (xs : List Bytes) (b c : Int) (st t : Bool), U64 b → U64 c →
    fieldFrom rd s xs (bits .or .u64 b c) (st || t) = match fieldFrom rd s xs c t with
      | .error e => .error e
      | .ok m => .ok (bits .or .u64 b m.1, st || m.2)
  | [], b, c, st, t, hb, hc => rfl
  | x :: r, b, c, st, t, hb, hc => by
    simp only [fieldFrom]
    cases hi : itemB rd x with
    | none => rfl
    | some it =>
      simp only
      by_cases hw : withinB it s = true
      · rw [if_pos hw, if_pos hw, u64_or_assoc hb hc (itVals_bd _ _), Bool.or_assoc]
        exact fieldFrom_add rd s r b _ st _ hb (u64_bd hc (itVals_bd _ _))
      · rw [if_neg hw, if_neg hw]
theorem or_zero_right {a : Int} (h : U64 a) : bits .or .u64 a 0 = a := by
  have := u64_or a 0 h.1 (by have := h.2; omega) (by omega) (by decide)
  rw [this]
  have := h.1
  simp; omega
theorem fieldB_two (k : Nat) (a b : Bytes) : fieldB k (a ++ 44 :: b) = match fieldB k a with
    | .error e => .error e
    | .ok m => match fieldB k b with
      | .error e => .error e
      | .ok n => .ok (bits .or .u64 m.1 n.1, m.2 || n.2) := by
  unfold fieldB
  rw [splitB_mid commaB 44 b rfl a, fieldFrom_append]
  cases ha : fieldFrom (rdB k) (scB k) (splitB commaB a) 0 false with
  | error e => rfl
  | ok m =>
    have hm := fieldFrom_bd _ _ _ _ _ m ⟨by decide, by decide⟩ ha
    simp only
    have := fieldFrom_add (rdB k) (scB k) (splitB commaB b) m.1 0 m.2 false hm ⟨by decide, by decide⟩
    rw [or_zero_right hm, Bool.or_false] at this
    rw [← this]

end Go.Proofs.YtnikhhbnbeljeaaGreatDoor
