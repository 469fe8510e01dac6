/- The iterator of package cron over the parts of a text. -/
import Derived.Test.YtbbleedepmcdfaaDoorCroB
import Derived.RangeFuncNested
import Derived.RangeFuncBound
import Derived.RangeFuncCalls
import Derived.RangeFuncLeaves
import Derived.RangeFuncFrom
import Derived.Shelf.Abstract
import Derived.Shelf.RegionOpen
import Derived.OwnWalkIn
import Derived.TacticsInMore
import Derived.LoopNIn
import Derived.LoopIn
set_option linter.unusedSimpArgs false
set_option linter.unusedVariables false
namespace Go.Proofs.YtbbleedepmcdfaaDoor
open Go.ChangeShapes Go.WideShapes Go.ChangeAt Go.RowKit Go.Base Go.Cro Go.Shelf
attribute [local go_sem] Oper.semAt_some

theorem splitB_none (p : UInt8 → Bool) : ∀ l : Bytes, (∀ c ∈ l, p c = false) → splitB p l = [l]
  | [], _ => rfl
  | c :: l, h => by
    simp only [splitB]
    rw [if_neg (by rw [h c (by simp)]; decide), splitB_none p l (fun x hx => h x (by simp [hx]))]
theorem splitB_at (p : UInt8 → Bool) (c : UInt8) (r : Bytes) (hc : p c = true) : ∀ l : Bytes, (∀ c ∈ l, p c = false) → splitB p (l ++ c :: r) = l :: splitB p r
  | [], _ => by simp [splitB, hc]
  | x :: l, h => by
    simp only [List.cons_append, splitB]
    rw [if_neg (by rw [h x (by simp)]; decide), splitB_at p c r hc l (fun y hy => h y (by simp [hy]))]

theorem grownBy_drew_own (w : World) : w.grownBy w.drew none := ⟨rfl, rfl, rfl, Nat.le_refl _, fun _ _ _ => rfl⟩

/-- Two blocks lie as they lay. -/
def Same2 (a b : Nat) (W W' : World) : Prop := W'.heap[a]? = W.heap[a]? ∧ W'.heap[b]? = W.heap[b]?
theorem Same2.trans {a b : Nat} {A B C : World} (h : Same2 a b A B) (k : Same2 a b B C) : Same2 a b A C := ⟨k.1.trans h.1, k.2.trans h.2⟩
theorem Same2.drew {a b : Nat} {A B : World} (h : Same2 a b A B) : Same2 a b A B.drew := h
theorem Same2.of_below {a b : Nat} {n : Nat} {A B : World} (h : Below n A B) (ha : a < n) (hb : b < n) : Same2 a b A B := ⟨h.block a ha, h.block b hb⟩
theorem same2_b {a b : Nat} {w : World} (ha : a < w.heap.size) (hb : b < w.heap.size) (W : World) (l : Nat) (o o' : Obj) (hl : w.heap.size ≤ l) (_ : W.heap[l]? = some o) (_ : o.isCells = false) (_ : o.isWalk = false) : Same2 a b W (W.putObj l o') :=
  ⟨World.putObj_heap_other (by omega), World.putObj_heap_other (by omega)⟩
theorem Same2.cell1 {a b : Nat} {A B : World} (h : Same2 a b A B) (i : Nat) : B.cell? ⟨a, i, none⟩ = A.cell? ⟨a, i, none⟩ := World.cell?_of_block (w := A) (a := ⟨a, i, none⟩) h.1
theorem Same2.cell2 {a b : Nat} {A B : World} (h : Same2 a b A B) (i : Nat) : B.cell? ⟨b, i, none⟩ = A.cell? ⟨b, i, none⟩ := World.cell?_of_block (w := A) (a := ⟨b, i, none⟩) h.2

/-- A part of a text. -/
abbrev Part := { x : Bytes // x.length ≤ maxLen }
def encP (x : Part) : Array Value := #[.string ⟨x.1.toArray⟩]

/-- How far the parts have come: pre are told, the next one begins at a; no byte that parts lies from there to i. -/
structure Come (p : UInt8 → Bool) (s : ByteArray) (pre : List Part) (a i : Nat) : Prop where
  ai : a ≤ i
  is : i ≤ s.size
  all : splitB p s.data.toList = pre.map (·.1) ++ splitB p (s.data.toList.drop a)
  no : ∀ c ∈ (s.data.toList.drop a).take (i - a), p c = false
theorem ba_len (s : ByteArray) : s.data.toList.length = s.size := by rw [Array.length_toList]; rfl
theorem Come.go {p : UInt8 → Bool} {s : ByteArray} {pre : List Part} {a i : Nat} (h : Come p s pre a i) (hi : i < s.size) (hc : p s[i] = false) : Come p s pre a (i + 1) := by
  refine ⟨by have := h.ai; omega, by omega, h.all, fun c hm => ?_⟩
  have ha := h.ai
  have hl := ba_len s
  rw [show i + 1 - a = (i - a) + 1 by omega, List.take_add_one, List.mem_append] at hm
  rcases hm with hm | hm
  · exact h.no c hm
  · rw [List.getElem?_drop, show a + (i - a) = i by omega, List.getElem?_eq_getElem (by omega)] at hm
    simp at hm
    rw [show c = s[i] from hm]; exact hc
theorem ext_part (s : ByteArray) (a b : Nat) : (⟨(s.extract a b).data.toList.toArray⟩ : ByteArray) = s.extract a b := by rw [Array.toArray_toList]
theorem ext_data (s : ByteArray) (a b : Nat) : (s.extract a b).data.toList = (s.data.toList.take b).drop a := by rw [Lib.extract_data, List.drop_take]
theorem Come.cut {p : UInt8 → Bool} {s : ByteArray} {pre : List Part} {a i : Nat} (h : Come p s pre a i) (hi : i < s.size) (hc : p s[i] = true) (x : Part) (hx : x.1 = (s.extract a i).data.toList) :
    Come p s (pre ++ [x]) (i + 1) (i + 1) ∧ pre.length + 1 < (splitB p s.data.toList).length + 1 ∧ pre.length < (splitB p s.data.toList).length := by
  have ha := h.ai
  have hl := ba_len s
  have e : s.data.toList.drop a = (s.data.toList.drop a).take (i - a) ++ s[i] :: s.data.toList.drop (i + 1) := by
    have h2 : s.data.toList.drop i = s[i] :: s.data.toList.drop (i + 1) := List.drop_eq_getElem_cons (by omega)
    rw [← h2]
    have h3 := List.take_append_drop (i - a) (s.data.toList.drop a)
    rw [List.drop_drop, show a + (i - a) = i by omega] at h3
    exact h3.symm
  have e2 := splitB_at p s[i] (s.data.toList.drop (i + 1)) hc _ h.no
  rw [← e] at e2
  have hall := h.all
  rw [e2] at hall
  have hx2 : x.1 = (s.data.toList.drop a).take (i - a) := by rw [hx, ext_data, List.drop_take]
  have hlen : pre.length < (splitB p s.data.toList).length := by rw [hall]; simp
  refine ⟨⟨Nat.le_refl _, by omega, ?_, fun c hm => by simp at hm⟩, by omega, hlen⟩
  rw [hall, List.map_append, List.append_assoc]
  simp [hx2]
theorem Come.last {p : UInt8 → Bool} {s : ByteArray} {pre : List Part} {a : Nat} (h : Come p s pre a s.size) (x : Part) (hx : x.1 = (s.extract a s.size).data.toList) :
    (pre ++ [x]).map (·.1) = splitB p s.data.toList ∧ pre.length < (splitB p s.data.toList).length := by
  have hl := ba_len s
  have h1 := splitB_none p (s.data.toList.drop a) (fun c hc => h.no c (by rw [List.take_of_length_le (by simp)]; exact hc))
  have hall := h.all
  rw [h1] at hall
  have hx2 : x.1 = s.data.toList.drop a := by rw [hx, ext_data, List.take_of_length_le (by omega)]
  rw [hall]
  exact ⟨by simp [hx2], by simp⟩
theorem Come.pre {p : UInt8 → Bool} {s : ByteArray} {pre : List Part} {a i : Nat} (h : Come p s pre a i) : pre.map (·.1) <+: splitB p s.data.toList := ⟨_, h.all.symm⟩

set_option maxRecDepth 100000 in
set_option maxHeartbeats 2000000 in
theorem split_blank (n : Nat) (hn : 1 ≤ n) (s : ByteArray) (hs : s.size ≤ maxLen) (pt pp : Nat) (w : World) (h1 : pt < w.heap.size) (h2 : pp < w.heap.size)
    (ct : w.cell? ⟨pt, 0, none⟩ = some (.string s)) (cp : w.cell? ⟨pp, 0, none⟩ = some (.func (.func 23) #[] #[])) :
    SeqStopsK Fence.wide n Tryd.prog 39 #[.pointer (some ⟨pt, 0, none⟩), .pointer (some ⟨pp, 0, none⟩)] encP (Same2 pt pp)
      (fun xs => xs.map (·.1) = splitB blankB s.data.toList) (fun pre => pre.map (·.1) <+: splitB blankB s.data.toList) (splitB blankB s.data.toList).length w := fun l J Jx W hWb hJ hJx hY h0 => by
  refine callsIn_of_wp Tryd.func39 rfl trivial ?_ rfl
  simp only [Tryd.ntmps39, List.size_toArray, List.length_cons, List.length_nil, Nat.reduceAdd, Nat.reduceSub, Array.replicate_succ, Array.replicate_zero, List.push_toArray, List.append_toArray, List.nil_append, List.cons_append]
  have hsz : s.size ≤ 9223372036854775807 := by unfold maxLen at hs; exact hs
  gi_wp2
  gi_loopw [4, 5] (fun a i wr => ∃ (pre : List Part) (A I : Nat), a = .int .i64 A ∧ i = .int .i64 I ∧ Come blankB s pre A I ∧ J pre wr ∧ Same2 pt pp w wr) (fun _ i _ => s.size - (intOf i).toNat)
  case atStart => exact ⟨[], 0, 0, rfl, rfl, ⟨by omega, by omega, by simp, by simp⟩, h0, Same2.of_below hWb h1 h2⟩
  case round =>
    obtain ⟨pre, A, I, rfl, rfl, hcome, hJs, hB⟩ := hrel
    have hct : wr.cell? ⟨pt, 0, none⟩ = some (.string s) := (hB.cell1 0).trans ct
    have hcp : wr.cell? ⟨pp, 0, none⟩ = some (.func (.func 23) #[] #[]) := (hB.cell2 0).trans cp
    have hai := hcome.ai
    have his := hcome.is
    by_cases hlt : I < s.size
    · have hidx : (I : Int) < (s.size : Int) := by omega
      have hmx : Tryd.prog.follows .mixedOrders = true := by kernel_rfl
      cases hp : blankB s[I]
      · have HP := Lib.hid hp
        have HC := Lib.hid hcome
        have HJ := Lib.hid hJs
        have HB := Lib.hid hB
        clear hp hcome hJs hB
        gi_wp2
        gi_region_with_o (refine ⟨trivial, ?_⟩; gi_at_call 23; refine (callsIn_wide.2 (blank_any s[I] _)).mono ?_; rintro e w' ⟨rfl, rfl⟩; rw [HP.out])
        all_goals gi_wp2
        all_goals
          refine ⟨⟨pre, A, I + 1, rfl, by simp, HC.out.go hlt HP.out, hJ pre wr wr.drew none HJ.out (grownBy_drew_own wr) (fun r e => by cases e), HB.out.drew⟩, ?_⟩
          simp [intOf]; omega
      · obtain ⟨x, hx⟩ : ∃ x : Part, x.1 = (s.extract A I).data.toList := ⟨⟨(s.extract A I).data.toList, by rw [ext_data]; simp; have := ba_len s; omega⟩, rfl⟩
        obtain ⟨hnext, _, hlen⟩ := hcome.cut hlt hp x hx
        have hJd : J pre wr.drew := hJ pre wr wr.drew none hJs (grownBy_drew_own wr) (fun r e => by cases e)
        obtain ⟨fn, tmps, assign, body, hy, hR⟩ := hY pre x wr.drew hJd hlen
        rw [show encP x = #[.string (s.extract A I)] by unfold encP; rw [hx, ext_part]] at hy
        have HP := Lib.hid hp
        have HN := Lib.hid hnext
        have HB := Lib.hid hB
        have HR := Lib.hid hR
        have HW := Lib.hid hcome.pre
        clear hp hcome hJs hB hR hnext hJd hx
        gi_wp2
        gi_region_with_o (refine ⟨trivial, ?_⟩; gi_at_call 23; refine (callsIn_wide.2 (blank_any s[I] _)).mono ?_; rintro e w' ⟨rfl, rfl⟩; rw [HP.out])
        all_goals gi_wp2
        all_goals
          refine HR.out.mono ?_
          rintro e W3 (⟨rfl, hJ3, hk3⟩ | ⟨rfl, hJx3⟩)
          · gi_wp2
            refine ⟨⟨pre ++ [x], I + 1, I + 1, by simp, by simp, HN.out, hJ3, HB.out.drew.trans hk3⟩, ?_⟩
            simp [intOf]; omega
          · gi_wp2
            refine bodyPost_ret (results_none rfl _ _ _) rfl ?_
            exact ⟨⟨_, rfl⟩, .inr ⟨pre ++ [x], HN.out.pre, hJx3⟩⟩
    · obtain rfl : I = s.size := by omega
      obtain ⟨x, hx⟩ : ∃ x : Part, x.1 = (s.extract A s.size).data.toList := ⟨⟨(s.extract A s.size).data.toList, by rw [ext_data]; simp; have := ba_len s; omega⟩, rfl⟩
      obtain ⟨hall, hlen⟩ := hcome.last x hx
      obtain ⟨fn, tmps, assign, body, hy, hR⟩ := hY pre x wr hJs hlen
      rw [show encP x = #[.string (s.extract A s.size)] by unfold encP; rw [hx, ext_part]] at hy
      have HB := Lib.hid hB
      have HR := Lib.hid hR
      have HA := Lib.hid hall
      clear hcome hJs hB hR hall hx
      gi_wp2
      refine HR.out.mono ?_
      rintro e W3 (⟨rfl, hJ3, hk3⟩ | ⟨rfl, hJx3⟩)
      · gi_wp2
        go_end0
        exact ⟨⟨_, rfl⟩, .inl ⟨pre ++ [x], HA.out, hJ3⟩⟩
      · gi_wp2
        go_end0
        exact ⟨⟨_, rfl⟩, .inr ⟨pre ++ [x], by rw [HA.out]; exact List.prefix_refl _, hJx3⟩⟩

set_option maxRecDepth 100000 in
set_option maxHeartbeats 2000000 in
theorem split_comma (n : Nat) (hn : 1 ≤ n) (s : ByteArray) (hs : s.size ≤ maxLen) (pt pp : Nat) (w : World) (h1 : pt < w.heap.size) (h2 : pp < w.heap.size)
    (ct : w.cell? ⟨pt, 0, none⟩ = some (.string s)) (cp : w.cell? ⟨pp, 0, none⟩ = some (.func (.func 40) #[] #[])) :
    SeqStopsK Fence.wide n Tryd.prog 39 #[.pointer (some ⟨pt, 0, none⟩), .pointer (some ⟨pp, 0, none⟩)] encP (Same2 pt pp)
      (fun xs => xs.map (·.1) = splitB commaB s.data.toList) (fun pre => pre.map (·.1) <+: splitB commaB s.data.toList) (splitB commaB s.data.toList).length w := fun l J Jx W hWb hJ hJx hY h0 => by
  refine callsIn_of_wp Tryd.func39 rfl trivial ?_ rfl
  simp only [Tryd.ntmps39, List.size_toArray, List.length_cons, List.length_nil, Nat.reduceAdd, Nat.reduceSub, Array.replicate_succ, Array.replicate_zero, List.push_toArray, List.append_toArray, List.nil_append, List.cons_append]
  have hsz : s.size ≤ 9223372036854775807 := by unfold maxLen at hs; exact hs
  gi_wp2
  gi_loopw [4, 5] (fun a i wr => ∃ (pre : List Part) (A I : Nat), a = .int .i64 A ∧ i = .int .i64 I ∧ Come commaB s pre A I ∧ J pre wr ∧ Same2 pt pp w wr) (fun _ i _ => s.size - (intOf i).toNat)
  case atStart => exact ⟨[], 0, 0, rfl, rfl, ⟨by omega, by omega, by simp, by simp⟩, h0, Same2.of_below hWb h1 h2⟩
  case round =>
    obtain ⟨pre, A, I, rfl, rfl, hcome, hJs, hB⟩ := hrel
    have hct : wr.cell? ⟨pt, 0, none⟩ = some (.string s) := (hB.cell1 0).trans ct
    have hcp : wr.cell? ⟨pp, 0, none⟩ = some (.func (.func 40) #[] #[]) := (hB.cell2 0).trans cp
    have hai := hcome.ai
    have his := hcome.is
    by_cases hlt : I < s.size
    · have hidx : (I : Int) < (s.size : Int) := by omega
      have hmx : Tryd.prog.follows .mixedOrders = true := by kernel_rfl
      cases hp : commaB s[I]
      · have HP := Lib.hid hp
        have HC := Lib.hid hcome
        have HJ := Lib.hid hJs
        have HB := Lib.hid hB
        clear hp hcome hJs hB
        gi_wp2
        gi_region_with_o (refine ⟨trivial, ?_⟩; gi_at_call 40; refine (callsIn_wide.2 (comma_any s[I] _)).mono ?_; rintro e w' ⟨rfl, rfl⟩; rw [HP.out])
        all_goals gi_wp2
        all_goals
          refine ⟨⟨pre, A, I + 1, rfl, by simp, HC.out.go hlt HP.out, hJ pre wr wr.drew none HJ.out (grownBy_drew_own wr) (fun r e => by cases e), HB.out.drew⟩, ?_⟩
          simp [intOf]; omega
      · obtain ⟨x, hx⟩ : ∃ x : Part, x.1 = (s.extract A I).data.toList := ⟨⟨(s.extract A I).data.toList, by rw [ext_data]; simp; have := ba_len s; omega⟩, rfl⟩
        obtain ⟨hnext, _, hlen⟩ := hcome.cut hlt hp x hx
        have hJd : J pre wr.drew := hJ pre wr wr.drew none hJs (grownBy_drew_own wr) (fun r e => by cases e)
        obtain ⟨fn, tmps, assign, body, hy, hR⟩ := hY pre x wr.drew hJd hlen
        rw [show encP x = #[.string (s.extract A I)] by unfold encP; rw [hx, ext_part]] at hy
        have HP := Lib.hid hp
        have HN := Lib.hid hnext
        have HB := Lib.hid hB
        have HR := Lib.hid hR
        have HW := Lib.hid hcome.pre
        clear hp hcome hJs hB hR hnext hJd hx
        gi_wp2
        gi_region_with_o (refine ⟨trivial, ?_⟩; gi_at_call 40; refine (callsIn_wide.2 (comma_any s[I] _)).mono ?_; rintro e w' ⟨rfl, rfl⟩; rw [HP.out])
        all_goals gi_wp2
        all_goals
          refine HR.out.mono ?_
          rintro e W3 (⟨rfl, hJ3, hk3⟩ | ⟨rfl, hJx3⟩)
          · gi_wp2
            refine ⟨⟨pre ++ [x], I + 1, I + 1, by simp, by simp, HN.out, hJ3, HB.out.drew.trans hk3⟩, ?_⟩
            simp [intOf]; omega
          · gi_wp2
            refine bodyPost_ret (results_none rfl _ _ _) rfl ?_
            exact ⟨⟨_, rfl⟩, .inr ⟨pre ++ [x], HN.out.pre, hJx3⟩⟩
    · obtain rfl : I = s.size := by omega
      obtain ⟨x, hx⟩ : ∃ x : Part, x.1 = (s.extract A s.size).data.toList := ⟨⟨(s.extract A s.size).data.toList, by rw [ext_data]; simp; have := ba_len s; omega⟩, rfl⟩
      obtain ⟨hall, hlen⟩ := hcome.last x hx
      obtain ⟨fn, tmps, assign, body, hy, hR⟩ := hY pre x wr hJs hlen
      rw [show encP x = #[.string (s.extract A s.size)] by unfold encP; rw [hx, ext_part]] at hy
      have HB := Lib.hid hB
      have HR := Lib.hid hR
      have HA := Lib.hid hall
      clear hcome hJs hB hR hall hx
      gi_wp2
      refine HR.out.mono ?_
      rintro e W3 (⟨rfl, hJ3, hk3⟩ | ⟨rfl, hJx3⟩)
      · gi_wp2
        go_end0
        exact ⟨⟨_, rfl⟩, .inl ⟨pre ++ [x], HA.out, hJ3⟩⟩
      · gi_wp2
        go_end0
        exact ⟨⟨_, rfl⟩, .inr ⟨pre ++ [x], by rw [HA.out]; exact List.prefix_refl _, hJx3⟩⟩
end Go.Proofs.YtbbleedepmcdfaaDoor
