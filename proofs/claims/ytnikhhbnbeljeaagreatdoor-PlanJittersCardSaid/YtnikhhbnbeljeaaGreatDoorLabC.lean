/- Walks of package label: labels in a slice; a key's value. -/
import Derived.Test.YtnikhhbnbeljeaaGreatDoorLabA
import Derived.Test.YtnikhhbnbeljeaaGreatDoorBase
import Derived.Test.YtnikhhbnbeljeaaGreatDoorLabB
import Derived.Test.YtnikhhbnbeljeaaGreatDoorOpen
import Derived.Test.YtnikhhbnbeljeaaGreatDoorMoved
import Derived.Test.YtnikhhbnbeljeaaGreatDoorProg
import Derived.PlainAid
import Derived.WalkKit
import Derived.Handy
import Derived.ProofKit
import Derived.OpenShut
import Derived.Deep.DeepHandedRow
import Derived.Lib.Hide
import Derived.Laws.Tables
import Derived.Carry
import Derived.Outline
import Derived.WalkSmall
import Derived.WalkSpells
import Derived.WalkLawsBesides
import Derived.SliceStrings
import Derived.Laws.AppendOwn
import Derived.Laws.Rows
import Derived.BigQuiet
import Derived.Deep.QuietTactic
set_option linter.unusedSimpArgs false
set_option linter.unusedVariables false
namespace Go.Proofs.YtnikhhbnbeljeaaGreatDoor.LB
open Go.ChangeShapes Go.WideShapes Go.ChangeAt Go.RowKit Go.Base Go.Lab

abbrev strV (x : Bytes) : Value := .string ⟨x.toArray⟩
/-- The labels of a slice. -/
def Labs (w : World) (p : Option Addr) (l : List Lb) : Prop := ∀ (i : Nat) (h : i < l.length), ∃ b o, p = some ⟨b, o, none⟩ ∧
  w.cell? ⟨b, o + i * 2, none⟩ = some (strV l[i].key) ∧ w.cell? ⟨b, o + i * 2 + 1, none⟩ = some (strV l[i].val) ∧ l[i].key.length ≤ maxLen ∧ l[i].val.length ≤ maxLen
theorem Labs.later {w w' : World} {p : Option Addr} {l : List Lb} (h : Labs w p l) (hb : Below w.heap.size w w') : Labs w' p l := fun i hi => by
  obtain ⟨b, o, e, c0, c1, m⟩ := h i hi
  exact ⟨b, o, e, cell_later hb c0, cell_later hb c1, m⟩
def getV (l : List Lb) (k : Bytes) : Value := match getB l k with
  | some v => .tuple #[strV v, .bool true]
  | none => .tuple #[.string ⟨#[]⟩, .bool false]
theorem getB_at {l : List Lb} {k : Nat} {key : Bytes} (hk : k < l.length) (h : ∀ x ∈ l.take k, (x.key == key) = false) (he : (l[k].key == key) = true) : getB l key = some l[k].val := by
  unfold getB
  have e : l.find? (fun x => x.key == key) = some l[k] := by
    induction l generalizing k with
    | nil => simp at hk
    | cons x l ih =>
      cases k with
      | zero => simp only [List.getElem_cons_zero] at he ⊢; rw [List.find?_cons, he]
      | succ k =>
        have hx := h x (by simp)
        rw [List.find?_cons, hx]
        simp only [List.getElem_cons_succ] at he ⊢
        exact ih (by simpa using hk) (fun y hy => h y (by simp [hy])) he
  rw [e]; rfl
theorem getB_no {l : List Lb} {key : Bytes} (h : ∀ x ∈ l, (x.key == key) = false) : getB l key = none := by
  unfold getB
  rw [List.find?_eq_none.2 (fun x hx => by rw [h x hx]; decide)]; rfl
theorem take_mem {l : List Lb} {k : Nat} (hk : k < l.length) {p : Lb → Prop} (h : ∀ x ∈ l.take k, p x) (h2 : p l[k]) : ∀ x ∈ l.take (k + 1), p x := by
  intro x hx
  rw [List.take_succ_eq_append_getElem hk, List.mem_append, List.mem_singleton] at hx
  rcases hx with hx | rfl
  · exact h x hx
  · exact h2
set_option maxHeartbeats 2000000 in
theorem get_any (A : Option Addr) (l : List Lb) (c : Nat) (key : Bytes) (w : World) (hL : Labs w A l) (hm : l.length ≤ maxLen) :
    Calls Tryz.prog 219 #[.slice A l.length c, .string ⟨key.toArray⟩] w fun e w' => e = .returned (getV l key) ∧ Below w.heap.size w w' := by
  have HL := Lib.hid hL
  unfold maxLen at hm
  have hm' : (l.length : Int) ≤ 9223372036854775807 := by omega
  clear hL hm
  go_enter Tryz.func219, Tryz.ntmps219
  go_wp2
  go_loopw [7, 10] (fun p i wr => ∃ k : Nat, k ≤ l.length ∧ i = .int .i64 (k : Int) ∧ Hid (∀ x ∈ l.take k, (x.key == key) = false) ∧ Hid (Below w.heap.size w wr)) (fun _ i _ => l.length - (intOf i).toNat)
  case atStart => exact ⟨0, Nat.zero_le _, rfl, Lib.hid (by simp), Lib.hid (Below.refl _ _)⟩
  case round =>
    obtain ⟨k, hk, rfl, HF, HB⟩ := hrel
    by_cases hlt : k < l.length
    · have hlt' : (k : Int) < (l.length : Int) := by omega
      have hk0 : (0 : Int) ≤ (k : Int) := by omega
      obtain ⟨b, o, rfl, c0, c1, _⟩ := (HL.out.later HB.out) k hlt
      have HT := Lib.hid (take_mem (p := fun x => (x.key == key) = false) hlt HF.out)
      have HG := Lib.hid (getB_at (key := key) hlt HF.out)
      have HBA := Lib.hid (fun o => HB.out.alloc HB.out.size o)
      generalize l[k] = x at *
      obtain ⟨xk, xv⟩ := x
      simp only at c0 c1
      cases he : (xk == key)
      · have HT2 := Lib.hid (HT.out he)
        clear HT HG
        go_wp2
        go_roundw
        case rel => exact ⟨k + 1, by omega, by go_num, HT2, Lib.hid (HBA.out _)⟩
        case measure => simp [intOf]; omega
      · have HG2 := Lib.hid (HG.out he)
        have HV : Hid (getV l key = .tuple #[strV xv, .bool true]) := Lib.hid (by unfold getV; rw [HG2.out])
        clear HT HG
        go_wp2
        go_ret2
        exact ⟨(show Ending.returned (.tuple #[strV xv, .bool true]) = _ by rw [HV.out]), HBA.out _⟩
    · obtain rfl : k = l.length := by omega
      have HV : Hid (getV l key = .tuple #[.string ⟨#[]⟩, .bool false]) := Lib.hid (by unfold getV; rw [getB_no (fun x hx => HF.out x (by rw [List.take_length]; exact hx))])
      go_wp2
      go_ret2
      exact ⟨by rw [HV.out]; rfl, HB.out⟩
/-- Two slices of labels compared. -/
def SameRel (w : World) (l m : List Lb) (wr : World) (k : Nat) : Prop := ∃ n, wr = w.drewN n
end Go.Proofs.YtnikhhbnbeljeaaGreatDoor.LB
