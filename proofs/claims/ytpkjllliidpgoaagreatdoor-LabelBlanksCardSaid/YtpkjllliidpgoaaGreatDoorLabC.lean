/- Walks of package label: labels in a slice; a key's value. -/
import Derived.Test.YtpkjllliidpgoaaGreatDoorLabB
import Derived.Test.YtpkjllliidpgoaaGreatDoorOpen
import Derived.Test.YtpkjllliidpgoaaGreatDoorMoved
import Derived.BigQuiet
import Derived.Deep.QuietTactic
set_option linter.unusedSimpArgs false
set_option linter.unusedVariables false
namespace Go.Proofs.YtpkjllliidpgoaaGreatDoor
open Go.ChangeShapes Go.WideShapes Go.ChangeAt Go.RowKit Go.Base Go.Lab

abbrev strV (x : Bytes) : Value := .string ⟨x.toArray⟩
/-- The labels of a slice. -/
def Labs (w : World) (p : Option Addr) (l : List Lb) : Prop := ∀ (i : Nat) (h : i < l.length), ∃ b o, p = some ⟨b, o, none⟩ ∧
  w.cell? ⟨b, o + i * 2, none⟩ = some (strV l[i].key) ∧ w.cell? ⟨b, o + i * 2 + 1, none⟩ = some (strV l[i].val) ∧ l[i].key.length ≤ maxLen ∧ l[i].val.length ≤ maxLen
theorem Labs.later {w w' : World} {p : Option Addr} {l : List Lb} (h : Labs w p l) (hb : Below w.heap.size w w') : Labs w' p l := fun i hi => by
  obtain ⟨b, o, e, c0, c1, m⟩ := h i hi
  exact ⟨b, o, e, cell_later hb c0, cell_later hb c1, m⟩
def getV (l : List Lb) (k : Bytes) : Value := match getB l k with
  | some v => .tuple #[strV v, .bool true]
  | none => .tuple #[.string ⟨#[]⟩, .bool false]
theorem getB_at {l : List Lb} {k : Nat} {key : Bytes} (hk : k < l.length) (h : ∀ x ∈ l.take k, (x.key == key) = false) (he : (l[k].key == key) = true) : getB l key = some l[k].val := by
  unfold getB
  have e : l.find? (fun x => x.key == key) = some l[k] := by
    induction l generalizing k with
    | nil => simp at hk
    | cons x l ih =>
      cases k with
      | zero => simp only [List.getElem_cons_zero] at he ⊢; rw [List.find?_cons, he]
      | succ k =>
        have hx := h x (by simp)
        rw [List.find?_cons, hx]
        simp only [List.getElem_cons_succ] at he ⊢
        exact ih (by simpa using hk) (fun y hy => h y (by simp [hy])) he
  rw [e]; rfl
theorem getB_no {l : List Lb} {key : Bytes} (h : ∀ x ∈ l, (x.key == key) = false) : getB l key = none := by
  unfold getB
  rw [List.find?_eq_none.2 (fun x hx => by rw [h x hx]; decide)]; rfl
theorem take_mem {l : List Lb} {k : Nat} (hk : k < l.length) {p : Lb → Prop} (h : ∀ x ∈ l.take k, p x) (h2 : p l[k]) : ∀ x ∈ l.take (k + 1), p x := by
  intro x hx
  rw [List.take_succ_eq_append_getElem hk, List.mem_append, List.mem_singleton] at hx
  rcases hx with hx | rfl
  · exact h x hx
  · exact h2
set_option maxHeartbeats 2000000 in
theorem get_any (A : Option Addr) (l : List Lb) (c : Nat) (key : Bytes) (w : World) (hL : Labs w A l) (hm : l.length ≤ maxLen) :
    Calls Tryz.prog 10 #[.slice A l.length c, .string ⟨key.toArray⟩] w fun e w' => e = .returned (getV l key) ∧ Below w.heap.size w w' := by
  have HL := Lib.hid hL
  unfold maxLen at hm
  have hm' : (l.length : Int) ≤ 9223372036854775807 := by omega
  clear hL hm
  go_enter Tryz.func10, Tryz.ntmps10
  go_wp2
  go_loopw [7, 10] (fun p i wr => ∃ k : Nat, k ≤ l.length ∧ i = .int .i64 (k : Int) ∧ Hid (∀ x ∈ l.take k, (x.key == key) = false) ∧ Hid (Below w.heap.size w wr)) (fun _ i _ => l.length - (intOf i).toNat)
  case atStart => exact ⟨0, Nat.zero_le _, rfl, Lib.hid (by simp), Lib.hid (Below.refl _ _)⟩
  case round =>
    obtain ⟨k, hk, rfl, HF, HB⟩ := hrel
    by_cases hlt : k < l.length
    · have hlt' : (k : Int) < (l.length : Int) := by omega
      have hk0 : (0 : Int) ≤ (k : Int) := by omega
      obtain ⟨b, o, rfl, c0, c1, _⟩ := (HL.out.later HB.out) k hlt
      have HT := Lib.hid (take_mem (p := fun x => (x.key == key) = false) hlt HF.out)
      have HG := Lib.hid (getB_at (key := key) hlt HF.out)
      have HBA := Lib.hid (fun o => HB.out.alloc HB.out.size o)
      generalize l[k] = x at *
      obtain ⟨xk, xv⟩ := x
      simp only at c0 c1
      cases he : (xk == key)
      · have HT2 := Lib.hid (HT.out he)
        clear HT HG
        go_wp2
        go_roundw
        case rel => exact ⟨k + 1, by omega, by go_num, HT2, Lib.hid (HBA.out _)⟩
        case measure => simp [intOf]; omega
      · have HG2 := Lib.hid (HG.out he)
        have HV : Hid (getV l key = .tuple #[strV xv, .bool true]) := Lib.hid (by unfold getV; rw [HG2.out])
        clear HT HG
        go_wp2
        go_ret2
        exact ⟨(show Ending.returned (.tuple #[strV xv, .bool true]) = _ by rw [HV.out]), HBA.out _⟩
    · obtain rfl : k = l.length := by omega
      have HV : Hid (getV l key = .tuple #[.string ⟨#[]⟩, .bool false]) := Lib.hid (by unfold getV; rw [getB_no (fun x hx => HF.out x (by rw [List.take_length]; exact hx))])
      go_wp2
      go_ret2
      exact ⟨by rw [HV.out]; rfl, HB.out⟩
set_option maxHeartbeats 2000000 in
theorem refGet_any (A : Option Addr) (l : List Lb) (c : Nat) (key : Bytes) (w : World) (hL : Labs w A l) (hm : l.length ≤ maxLen) :
    Calls Tryz.prog 11 #[.slice A l.length c, .string ⟨key.toArray⟩] w fun e w' => e = .returned (getV l key) ∧ w = w' := by
  have HL := Lib.hid hL
  unfold maxLen at hm
  have hm' : (l.length : Int) ≤ 9223372036854775807 := by omega
  clear hL hm
  go_enter Tryz.func11, Tryz.ntmps11
  go_wp2
  go_loop [6] (fun i => ∃ k : Nat, k ≤ l.length ∧ i = .int .i64 (k : Int) ∧ Hid (∀ x ∈ l.take k, (x.key == key) = false)) (fun i => l.length - (intOf i).toNat)
  case atStart => exact ⟨0, Nat.zero_le _, rfl, Lib.hid (by simp)⟩
  case round =>
    obtain ⟨k, hk, rfl, HF⟩ := hrel
    by_cases hlt : k < l.length
    · have hlt' : (k : Int) < (l.length : Int) := by omega
      have hk0 : (0 : Int) ≤ (k : Int) := by omega
      obtain ⟨b, o, rfl, c0, c1, _⟩ := HL.out k hlt
      have HT := Lib.hid (take_mem (p := fun x => (x.key == key) = false) hlt HF.out)
      have HG := Lib.hid (getB_at (key := key) hlt HF.out)
      generalize l[k] = x at *
      obtain ⟨xk, xv⟩ := x
      simp only at c0 c1
      cases he : (xk == key)
      · have HT2 := Lib.hid (HT.out he)
        clear HT HG
        go_wp2
        go_round
        case rel => exact ⟨k + 1, by omega, by go_num, HT2⟩
        case measure => simp [intOf]; omega
      · have HG2 := Lib.hid (HG.out he)
        have HV : Hid (getV l key = .tuple #[strV xv, .bool true]) := Lib.hid (by unfold getV; rw [HG2.out])
        clear HT HG
        go_wp2
        go_ret2
        exact ⟨(show Ending.returned (.tuple #[strV xv, .bool true]) = _ by rw [HV.out]), rfl⟩
    · obtain rfl : k = l.length := by omega
      have HV : Hid (getV l key = .tuple #[.string ⟨#[]⟩, .bool false]) := Lib.hid (by unfold getV; rw [getB_no (fun x hx => HF.out x (by rw [List.take_length]; exact hx))])
      go_wp2
      go_ret2
      exact ⟨by rw [HV.out]; rfl, rfl⟩
set_option maxHeartbeats 1000000 in
theorem mayLabel_any (x : Lb) (h1 : x.key.length ≤ maxLen) (h2 : x.val.length ≤ maxLen) (w : World) :
    Calls Tryz.prog 23 #[.agg #[strV x.key, strV x.val]] w fun e w' => e = .returned (.bool (mayOne x)) ∧ Below w.heap.size w w' := by
  have HW := Lib.hid (fun w => word_l x.key h1 w)
  have HV := Lib.hid (fun w => val_l x.val h2 w)
  have HM : Hid (mayOne x = (wordB x.key && valB x.val)) := Lib.hid rfl
  rw [HM.out]
  clear HM
  generalize wordB x.key = q1 at *
  generalize valB x.val = q2 at *
  obtain ⟨xk, xv⟩ := x
  cases q1
  all_goals
    go_enter Tryz.func23, Tryz.ntmps23
    go_wp2_with (first | (go_at_call 16; refine (HW.out _).mono ?_; rintro e w1 ⟨rfl, rfl⟩) | (go_at_call 41; refine (HV.out _).mono ?_; rintro e w1 ⟨rfl, rfl⟩))
    go_ret
    exact ⟨rfl, below_alloc _ _⟩
/-- Two slices of labels compared. -/
def SameRel (w : World) (l m : List Lb) (wr : World) (k : Nat) : Prop := ∃ n, wr = w.drewN n
set_option maxHeartbeats 4000000 in
theorem sameLabels_any (A B : Option Addr) (l m : List Lb) (c d : Nat) (w : World) (hA : Labs w A l) (hB : Labs w B m) (hl : l.length ≤ maxLen) (hm : m.length ≤ maxLen) :
    Calls Tryz.prog 13 #[.slice A l.length c, .slice B m.length d] w fun e w' => e = .returned (.bool (decide (l = m))) ∧ Below w.heap.size w w' := by
  have HA := Lib.hid hA
  have HB := Lib.hid hB
  unfold maxLen at hl hm
  generalize hR : decide (l = m) = R
  have HR := Lib.hid hR
  clear hA hB hR
  by_cases hlen : l.length = m.length
  · have e1 : (((l.length : Int)) != (m.length : Int)) = false := by rw [hlen]; simp
    have hl' : (l.length : Int) ≤ 9223372036854775807 := by omega
    have HLEN := Lib.hid hlen
    clear hlen hm
    go_enter Tryz.func13, Tryz.ntmps13
    go_wp2
    go_loopw [5] (fun i wr => ∃ k n : Nat, k ≤ l.length ∧ i = .int .i64 (k : Int) ∧ wr = w.drewN n ∧ Hid (l.take k = m.take k)) (fun i _ => l.length - (intOf i).toNat)
    case atStart => exact ⟨0, 0, Nat.zero_le _, rfl, rfl, Lib.hid (by simp)⟩
    case round =>
      obtain ⟨k, n, hk, rfl, rfl, HT⟩ := hrel
      by_cases hlt : k < l.length
      · have hlt' : (k : Int) < (l.length : Int) := by omega
        have hlt2 : (k : Int) < (m.length : Int) := by have := HLEN.out; omega
        have hltm : k < m.length := by have := HLEN.out; omega
        have hk0 : (0 : Int) ≤ (k : Int) := by omega
        obtain ⟨b, o, rfl, c0, c1, _⟩ := HA.out k hlt
        obtain ⟨b', o', rfl, d0, d1, _⟩ := HB.out k hltm
        have HT2 : Hid (l[k] = m[k] → l.take (k + 1) = m.take (k + 1)) := Lib.hid (fun e => by rw [List.take_succ_eq_append_getElem hlt, List.take_succ_eq_append_getElem hltm, HT.out, e])
        have HN : Hid (l[k] ≠ m[k] → R = false) := Lib.hid (fun h => by
          rw [← HR.out]; refine decide_eq_false fun e => h ?_
          simp only [e])
        generalize l[k] = x at *
        generalize m[k] = y at *
        clear hltm
        obtain ⟨xk, xv⟩ := x
        obtain ⟨yk, yv⟩ := y
        simp only at c0 c1 d0 d1
        cases ek : (xk == yk)
        · have HRF : Hid (R = false) := Lib.hid (HN.out (by intro e; injection e with e1 e2; rw [e1] at ek; simp at ek))
          go_wp2_with fail
          go_quiet (fail)
          go_wp2
          go_ret
          exact ⟨ret_bool HRF.out.symm, below_drewN (below_drewN (Below.refl _ _) _) _⟩
        · cases ev : (xv == yv)
          · have HRF : Hid (R = false) := Lib.hid (HN.out (by intro e; injection e with e1 e2; rw [e2] at ev; simp at ev))
            go_wp2_with fail
            go_quiet (fail)
            go_wp2
            go_ret
            exact ⟨ret_bool HRF.out.symm, below_drewN (below_drewN (Below.refl _ _) _) _⟩
          · have HT3 := Lib.hid (HT2.out (by rw [eq_of_beq ek, eq_of_beq ev]))
            go_wp2_with fail
            go_quiet (fail)
            go_wp2
            go_roundw
            case rel => exact ⟨k + 1, _, by omega, by go_num, rfl, HT3⟩
            case measure => simp [intOf]; omega
      · obtain rfl : k = l.length := by omega
        have HRT : Hid (R = true) := Lib.hid (by
          rw [← HR.out]
          have := HT.out
          rw [List.take_length, HLEN.out, List.take_length] at this
          exact decide_eq_true this)
        go_wp2
        go_ret
        exact ⟨ret_bool HRT.out.symm, below_drewN (Below.refl _ _) _⟩
  · have e1 : (((l.length : Int)) != (m.length : Int)) = true := by simp; omega
    have HRF : Hid (R = false) := Lib.hid (by rw [← HR.out]; exact decide_eq_false fun e => hlen (by rw [e]))
    clear hlen
    go_enter Tryz.func13, Tryz.ntmps13
    go_wp2
    go_ret
    exact ⟨ret_bool HRF.out.symm, Below.refl _ _⟩
set_option maxHeartbeats 4000000 in
theorem equal_any (A B : Option Addr) (l m : List Lb) (c d : Nat) (w : World) (hA : Labs w A l) (hB : Labs w B m) (hl : l.length ≤ maxLen) (hm : m.length ≤ maxLen) :
    Calls Tryz.prog 28 #[.slice A l.length c, .slice B m.length d] w fun e w' => e = .returned (.bool (decide (l = m))) ∧ Below w.heap.size w w' := by
  have HA := Lib.hid hA
  have HB := Lib.hid hB
  unfold maxLen at hl hm
  generalize hR : decide (l = m) = R
  have HR := Lib.hid hR
  clear hA hB hR
  by_cases hlen : l.length = m.length
  · have e1 : (((l.length : Int)) != (m.length : Int)) = false := by rw [hlen]; simp
    have hl' : (l.length : Int) ≤ 9223372036854775807 := by omega
    have HLEN := Lib.hid hlen
    clear hlen hm
    go_enter Tryz.func28, Tryz.ntmps28
    go_wp2
    go_loopw [5, 13] (fun _ i wr => ∃ k n : Nat, k ≤ l.length ∧ i = .int .i64 (k : Int) ∧ wr = w.drewN n ∧ Hid (l.take k = m.take k)) (fun _ i _ => l.length - (intOf i).toNat)
    case atStart => exact ⟨0, 0, Nat.zero_le _, rfl, rfl, Lib.hid (by simp)⟩
    case round =>
      obtain ⟨k, n, hk, rfl, rfl, HT⟩ := hrel
      by_cases hlt : k < l.length
      · have hlt' : (k : Int) < (l.length : Int) := by omega
        have hlt2 : (k : Int) < (m.length : Int) := by have := HLEN.out; omega
        have hltm : k < m.length := by have := HLEN.out; omega
        have hk0 : (0 : Int) ≤ (k : Int) := by omega
        obtain ⟨b, o, rfl, c0, c1, _⟩ := HA.out k hlt
        obtain ⟨b', o', rfl, d0, d1, _⟩ := HB.out k hltm
        have HT2 : Hid (l[k] = m[k] → l.take (k + 1) = m.take (k + 1)) := Lib.hid (fun e => by rw [List.take_succ_eq_append_getElem hlt, List.take_succ_eq_append_getElem hltm, HT.out, e])
        have HN : Hid (l[k] ≠ m[k] → R = false) := Lib.hid (fun h => by
          rw [← HR.out]; refine decide_eq_false fun e => h ?_
          simp only [e])
        generalize l[k] = x at *
        generalize m[k] = y at *
        clear hltm
        obtain ⟨xk, xv⟩ := x
        obtain ⟨yk, yv⟩ := y
        simp only at c0 c1 d0 d1
        cases ek : (xk == yk)
        · have HRF : Hid (R = false) := Lib.hid (HN.out (by intro e; injection e with e1 e2; rw [e1] at ek; simp at ek))
          go_wp2_with fail
          go_quiet (fail)
          go_wp2
          go_ret
          exact ⟨ret_bool HRF.out.symm, below_drewN (below_drewN (Below.refl _ _) _) _⟩
        · cases ev : (xv == yv)
          · have HRF : Hid (R = false) := Lib.hid (HN.out (by intro e; injection e with e1 e2; rw [e2] at ev; simp at ev))
            go_wp2_with fail
            go_quiet (fail)
            go_wp2
            go_ret
            exact ⟨ret_bool HRF.out.symm, below_drewN (below_drewN (Below.refl _ _) _) _⟩
          · have HT3 := Lib.hid (HT2.out (by rw [eq_of_beq ek, eq_of_beq ev]))
            go_wp2_with fail
            go_quiet (fail)
            go_wp2
            go_roundw
            case rel => exact ⟨k + 1, _, by omega, by go_num, rfl, HT3⟩
            case measure => simp [intOf]; omega
      · obtain rfl : k = l.length := by omega
        have HRT : Hid (R = true) := Lib.hid (by
          rw [← HR.out]
          have := HT.out
          rw [List.take_length, HLEN.out, List.take_length] at this
          exact decide_eq_true this)
        go_wp2
        go_ret
        exact ⟨ret_bool HRT.out.symm, below_drewN (Below.refl _ _) _⟩
  · have e1 : (((l.length : Int)) != (m.length : Int)) = true := by simp; omega
    have HRF : Hid (R = false) := Lib.hid (by rw [← HR.out]; exact decide_eq_false fun e => hlen (by rw [e]))
    clear hlen
    go_enter Tryz.func28, Tryz.ntmps28
    go_wp2
    go_ret
    exact ⟨ret_bool HRF.out.symm, Below.refl _ _⟩
end Go.Proofs.YtpkjllliidpgoaaGreatDoor
