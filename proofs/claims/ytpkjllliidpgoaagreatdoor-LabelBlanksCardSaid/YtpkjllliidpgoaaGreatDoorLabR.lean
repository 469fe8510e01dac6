/- The iterator of package label over the parts of a text. -/
import Derived.Test.YtpkjllliidpgoaaGreatDoorLabQ
import Derived.RangeFuncNested
import Derived.RangeFuncBound
import Derived.RangeFuncCalls
import Derived.RangeFuncLeaves
import Derived.RangeFuncFrom
import Derived.Shelf.Abstract
import Derived.Shelf.RegionOpen
import Derived.OwnWalkIn
import Derived.TacticsInMore
import Derived.LoopNIn
import Derived.LoopIn
set_option linter.unusedSimpArgs false
set_option linter.unusedVariables false
namespace Go.Lab
open Go Go.Op

def cutP (o : Nat) (c : UInt8) : Bool := c == 44 && o == 0
def stepO (o : Nat) (c : UInt8) : Nat := if c == 40 then o + 1 else if c == 41 then o - 1 else o
/-- The depth behind some bytes; none: one of them ends a part. -/
def walkD : Nat → Bytes → Option Nat
  | o, [] => some o
  | o, c :: l => if cutP o c then none else walkD (stepO o c) l
def consP (c : UInt8) : List Bytes → List Bytes
  | [] => [[c]]
  | x :: xs => (c :: x) :: xs
/-- A text cut at each comma for which no bracket is open. -/
def partsB : Nat → Bytes → List Bytes
  | _, [] => [[]]
  | o, c :: l => if cutP o c then [] :: partsB 0 l else consP c (partsB (stepO o c) l)
theorem walkD_app (o : Nat) (a b : Bytes) : walkD o (a ++ b) = (walkD o a).bind fun o' => walkD o' b := by
  induction a generalizing o with
  | nil => rfl
  | cons c a ih =>
    simp only [List.cons_append, walkD]
    split
    · rfl
    · exact ih _
theorem walkD_le {o o' : Nat} {l : Bytes} (h : walkD o l = some o') : o' ≤ o + l.length := by
  induction l generalizing o with
  | nil => simp only [walkD] at h; injection h with h; subst h; simp
  | cons c l ih =>
    simp only [walkD] at h
    split at h
    · cases h
    · have := ih h
      have h2 : stepO o c ≤ o + 1 := by unfold stepO; split <;> (try split) <;> omega
      simp only [List.length_cons]; omega
theorem parts_none {o o' : Nat} {l : Bytes} (h : walkD o l = some o') : partsB o l = [l] := by
  induction l generalizing o with
  | nil => rfl
  | cons c l ih =>
    simp only [walkD] at h
    split at h
    · cases h
    · next hc => simp only [partsB]; rw [if_neg hc, ih h]; rfl
theorem parts_at {o o' : Nat} {l r : Bytes} {c : UInt8} (h : walkD o l = some o') (hc : cutP o' c = true) : partsB o (l ++ c :: r) = l :: partsB 0 r := by
  induction l generalizing o with
  | nil => simp only [walkD] at h; injection h with h; subst h; simp only [List.nil_append, partsB]; rw [if_pos hc]
  | cons x l ih =>
    simp only [walkD] at h
    split at h
    · cases h
    · next hx => simp only [List.cons_append, partsB]; rw [if_neg hx, ih h]; rfl
theorem parts_ne (o : Nat) (l : Bytes) : partsB o l ≠ [] := by
  induction l generalizing o with
  | nil => simp [partsB]
  | cons c l ih =>
    simp only [partsB]
    split
    · simp
    · cases h : partsB (stepO o c) l with
      | nil => simp [consP]
      | cons => simp [consP]
end Go.Lab
namespace Go.Proofs.YtpkjllliidpgoaaGreatDoor
open Go.ChangeShapes Go.WideShapes Go.ChangeAt Go.RowKit Go.Base Go.Lab Go.Shelf
attribute [local go_sem] Oper.semAt_some

theorem grownBy_drew_own (w : World) : w.grownBy w.drew none := ⟨rfl, rfl, rfl, Nat.le_refl _, fun _ _ _ => rfl⟩
/-- A block lies as it lay. -/
def Same1 (a : Nat) (W W' : World) : Prop := W'.heap[a]? = W.heap[a]?
theorem Same1.cell {a : Nat} {A B : World} (h : Same1 a A B) (i : Nat) : B.cell? ⟨a, i, none⟩ = A.cell? ⟨a, i, none⟩ := World.cell?_of_block (w := A) (a := ⟨a, i, none⟩) h
theorem same1_b {a : Nat} {w : World} (ha : a < w.heap.size) (W : World) (l : Nat) (o o' : Obj) (hl : w.heap.size ≤ l) (_ : W.heap[l]? = some o) (_ : o.isCells = false) (_ : o.isWalk = false) : Same1 a W (W.putObj l o') :=
  World.putObj_heap_other (by omega)
/-- A part of a text. -/
abbrev Part (n : Nat) := { x : Bytes // x.length ≤ n }
def encP {n : Nat} (x : Part n) : Array Value := #[.string ⟨x.1.toArray⟩]
/-- How far the parts have come: pre are told, the next one begins at a; no byte that ends it lies from there to i; o brackets are open. -/
structure Come {n : Nat} (s : ByteArray) (pre : List (Part n)) (a i o : Nat) : Prop where
  ai : a ≤ i
  is : i ≤ s.size
  all : partsB 0 s.data.toList = pre.map (·.1) ++ partsB 0 (s.data.toList.drop a)
  no : walkD 0 ((s.data.toList.drop a).take (i - a)) = some o
theorem ba_len (s : ByteArray) : s.data.toList.length = s.size := by rw [Array.length_toList]; rfl
theorem Come.le {n : Nat} {s : ByteArray} {pre : List (Part n)} {a i o : Nat} (h : Come s pre a i o) : o ≤ i := by
  have h1 := walkD_le h.no
  rw [List.length_take] at h1
  have := h.ai
  omega
theorem Come.go {n : Nat} {s : ByteArray} {pre : List (Part n)} {a i o : Nat} (h : Come s pre a i o) (hi : i < s.size) (hc : cutP o s[i] = false) : Come s pre a (i + 1) (stepO o s[i]) := by
  refine ⟨by have := h.ai; omega, by omega, h.all, ?_⟩
  have ha := h.ai
  have hl := ba_len s
  rw [show i + 1 - a = (i - a) + 1 by omega, List.take_add_one, walkD_app, h.no, List.getElem?_drop, show a + (i - a) = i by omega, List.getElem?_eq_getElem (by omega)]
  have e : s.data.toList[i]'(by omega) = s[i] := by first | (simp; done) | (simp; rfl)
  rw [e]
  simp only [Option.toList_some, Option.bind_some, walkD]
  rw [hc]; rfl
theorem ext_part (s : ByteArray) (a b : Nat) : (⟨(s.extract a b).data.toList.toArray⟩ : ByteArray) = s.extract a b := by rw [Array.toArray_toList]
theorem ext_data (s : ByteArray) (a b : Nat) : (s.extract a b).data.toList = (s.data.toList.take b).drop a := by rw [Lib.extract_data, List.drop_take]
theorem Come.cut {n : Nat} {s : ByteArray} {pre : List (Part n)} {a i o : Nat} (h : Come s pre a i o) (hi : i < s.size) (hc : cutP o s[i] = true) (x : Part n) (hx : x.1 = (s.extract a i).data.toList) :
    Come s (pre ++ [x]) (i + 1) (i + 1) 0 ∧ pre.length < (partsB 0 s.data.toList).length := by
  have ha := h.ai
  have hl := ba_len s
  have e : s.data.toList.drop a = (s.data.toList.drop a).take (i - a) ++ s[i] :: s.data.toList.drop (i + 1) := by
    have h2 : s.data.toList.drop i = s[i] :: s.data.toList.drop (i + 1) := List.drop_eq_getElem_cons (by omega)
    rw [← h2]
    have h3 := List.take_append_drop (i - a) (s.data.toList.drop a)
    rw [List.drop_drop, show a + (i - a) = i by omega] at h3
    exact h3.symm
  have e2 := parts_at (r := s.data.toList.drop (i + 1)) h.no hc
  rw [← e] at e2
  have hall := h.all
  rw [e2] at hall
  have hx2 : x.1 = (s.data.toList.drop a).take (i - a) := by rw [hx, ext_data, List.drop_take]
  have hlen : pre.length < (partsB 0 s.data.toList).length := by rw [hall]; simp
  refine ⟨⟨Nat.le_refl _, by omega, ?_, by simp [walkD]⟩, hlen⟩
  rw [hall, List.map_append, List.append_assoc]
  simp [hx2]
theorem Come.last {n : Nat} {s : ByteArray} {pre : List (Part n)} {a o : Nat} (h : Come s pre a s.size o) (x : Part n) (hx : x.1 = (s.extract a s.size).data.toList) :
    (pre ++ [x]).map (·.1) = partsB 0 s.data.toList ∧ pre.length < (partsB 0 s.data.toList).length := by
  have hl := ba_len s
  have hno := h.no
  rw [List.take_of_length_le (by simp)] at hno
  have h1 := parts_none hno
  have hall := h.all
  rw [h1] at hall
  have hx2 : x.1 = s.data.toList.drop a := by rw [hx, ext_data, List.take_of_length_le (by omega)]
  rw [hall]
  exact ⟨by simp [hx2], by simp⟩
theorem Come.pre {n : Nat} {s : ByteArray} {pre : List (Part n)} {a i o : Nat} (h : Come s pre a i o) : pre.map (·.1) <+: partsB 0 s.data.toList := ⟨_, h.all.symm⟩

set_option maxRecDepth 100000 in
set_option maxHeartbeats 2000000 in
theorem parts_stops (n : Nat) (hn : 1 ≤ n) (s : ByteArray) (m : Nat) (hs : s.size ≤ m) (hm : m ≤ maxLen) (pt : Nat) (w : World) (h1 : pt < w.heap.size)
    (ct : w.cell? ⟨pt, 0, none⟩ = some (.string s)) :
    SeqStopsK Fence.wide n Tryz.prog 54 #[.pointer (some ⟨pt, 0, none⟩)] (encP (n := m)) (Same1 pt)
      (fun xs => xs.map (·.1) = partsB 0 s.data.toList) (fun pre => pre.map (·.1) <+: partsB 0 s.data.toList) (partsB 0 s.data.toList).length w := fun l J Jx W hWb hJ hJx hY h0 => by
  refine callsIn_of_wp Tryz.func54 rfl trivial ?_ rfl
  simp only [Tryz.ntmps54, List.size_toArray, List.length_cons, List.length_nil, Nat.reduceAdd, Nat.reduceSub, Array.replicate_succ, Array.replicate_zero, List.push_toArray, List.append_toArray, List.nil_append, List.cons_append]
  have hsz : s.size ≤ 9223372036854775807 := by unfold maxLen at hm; omega
  gi_wp2
  gi_loopw [3, 4, 5] (fun a o i wr => ∃ (pre : List (Part m)) (A I O : Nat), a = .int .i64 A ∧ o = .int .i64 O ∧ i = .int .i64 I ∧ Come s pre A I O ∧ J pre wr ∧ Same1 pt w wr) (fun _ _ i _ => s.size - (intOf i).toNat)
  case atStart => exact ⟨[], 0, 0, 0, rfl, rfl, rfl, ⟨by omega, by omega, by simp, by simp [walkD]⟩, h0, hWb.block _ h1⟩
  case round =>
    obtain ⟨pre, A, I, O, rfl, rfl, rfl, hcome, hJs, hB⟩ := hrel
    have hct : wr.cell? ⟨pt, 0, none⟩ = some (.string s) := (hB.cell 0).trans ct
    have hai := hcome.ai
    have his := hcome.is
    have hoi := hcome.le
    by_cases hlt : I < s.size
    · have hidx : (I : Int) < (s.size : Int) := by omega
      have hO0 : (0 : Int) ≤ (O : Int) := by omega
      have hO1 : (O : Int) + 1 ≤ 9223372036854775807 := by omega
      have hi1 : (I : Int) + 1 ≤ 9223372036854775807 := by omega
      have hb40 : ((s[I].toNat : Int) == 40) = (s[I] == 40) := by
        rw [Bool.eq_iff_iff]; simp only [beq_iff_eq]
        exact ⟨fun h => UInt8.toNat_inj.1 (by show s[I].toNat = 40; omega), fun h => by rw [h]; rfl⟩
      have hb41 : ((s[I].toNat : Int) == 41) = (s[I] == 41) := by
        rw [Bool.eq_iff_iff]; simp only [beq_iff_eq]
        exact ⟨fun h => UInt8.toNat_inj.1 (by show s[I].toNat = 41; omega), fun h => by rw [h]; rfl⟩
      have hb44 : ((s[I].toNat : Int) == 44) = (s[I] == 44) := by
        rw [Bool.eq_iff_iff]; simp only [beq_iff_eq]
        exact ⟨fun h => UInt8.toNat_inj.1 (by show s[I].toNat = 44; omega), fun h => by rw [h]; rfl⟩
      cases e40 : (s[I] == 40)
      · rw [e40] at hb40
        cases e41 : (s[I] == 41)
        · rw [e41] at hb41
          cases e44 : (s[I] == 44)
          · rw [e44] at hb44
            have HC : Hid (Come s pre A (I + 1) O) := Lib.hid (by
              have := hcome.go hlt (by unfold cutP; rw [e44]; rfl)
              rwa [show stepO O s[I] = O by unfold stepO; rw [e40, e41]; rfl] at this)
            have HJ := Lib.hid hJs
            have HB := Lib.hid hB
            clear hcome hJs hB
            gi_wp2
            refine ⟨⟨pre, A, I + 1, O, rfl, by go_num, by go_num, HC.out, HJ.out, HB.out⟩, ?_⟩
            simp [intOf]; omega
          · rw [e44] at hb44
            by_cases ho : O = 0
            · subst ho
              obtain ⟨x, hx⟩ : ∃ x : Part m, x.1 = (s.extract A I).data.toList := ⟨⟨(s.extract A I).data.toList, by rw [ext_data]; simp; have := ba_len s; omega⟩, rfl⟩
              obtain ⟨hnext, hlen⟩ := hcome.cut hlt (by unfold cutP; rw [e44]; rfl) x hx
              obtain ⟨fn, tmps, assign, body, hy, hR⟩ := hY pre x wr hJs hlen
              rw [show encP x = #[.string (s.extract A I)] by unfold encP; rw [hx, ext_part]] at hy
              have HN := Lib.hid hnext
              have HR := Lib.hid hR
              have HW := Lib.hid hcome.pre
              have HB := Lib.hid hB
              clear hcome hJs hB hR hnext hx e40 e41 e44
              gi_wp2
              refine HR.out.mono ?_
              rintro e W3 (⟨rfl, hJ3, hk3⟩ | ⟨rfl, hJx3⟩)
              · gi_wp2
                refine ⟨⟨pre ++ [x], I + 1, I + 1, 0, by go_num, by go_num, by go_num, HN.out, hJ3, hk3.trans HB.out⟩, ?_⟩
                simp [intOf]; omega
              · gi_wp2
                refine bodyPost_ret (results_none rfl _ _ _) rfl ?_
                exact ⟨⟨_, rfl⟩, .inr ⟨pre ++ [x], HN.out.pre, hJx3⟩⟩
            · have ho2 : ((O : Int) == 0) = false := by simp; omega
              have HC : Hid (Come s pre A (I + 1) O) := Lib.hid (by
                have := hcome.go hlt (by unfold cutP; rw [e44]; simp; omega)
                rwa [show stepO O s[I] = O by unfold stepO; rw [e40, e41]; rfl] at this)
              have HJ := Lib.hid hJs
              have HB := Lib.hid hB
              clear hcome hJs hB
              gi_wp2
              refine ⟨⟨pre, A, I + 1, O, rfl, by go_num, by go_num, HC.out, HJ.out, HB.out⟩, ?_⟩
              simp [intOf]; omega
        · rw [e41] at hb41
          have e44 : (s[I] == 44) = false := by rw [eq_of_beq e41]; rfl
          rw [e44] at hb44
          by_cases ho : O = 0
          · subst ho
            have HC : Hid (Come s pre A (I + 1) 0) := Lib.hid (by
              have := hcome.go hlt (by unfold cutP; rw [e44]; rfl)
              rwa [show stepO 0 s[I] = 0 by unfold stepO; rw [e40, e41]; rfl] at this)
            have HJ := Lib.hid hJs
            have HB := Lib.hid hB
            clear hcome hJs hB
            gi_wp2
            refine ⟨⟨pre, A, I + 1, 0, rfl, by go_num, by go_num, HC.out, HJ.out, HB.out⟩, ?_⟩
            simp [intOf]; omega
          · obtain ⟨P, rfl⟩ : ∃ P, O = P + 1 := ⟨O - 1, by omega⟩
            have HC : Hid (Come s pre A (I + 1) P) := Lib.hid (by
              have := hcome.go hlt (by unfold cutP; rw [e44]; rfl)
              rwa [show stepO (P + 1) s[I] = P by unfold stepO; rw [e40, e41]; rfl] at this)
            have hP0 : (0 : Int) ≤ (P : Int) := by omega
            have hPc : ((P + 1 : Nat) : Int) = (P : Int) + 1 := by omega
            have hP1 : (0 : Int) < (P : Int) + 1 := by omega
            have hP2 : (P : Int) + 1 - 1 = (P : Int) := by omega
            have hP3 : (P : Int) + 1 ≤ 9223372036854775807 := by omega
            rw [hPc]
            have HJ := Lib.hid hJs
            have HB := Lib.hid hB
            clear hcome hJs hB
            gi_wp2
            refine ⟨⟨pre, A, I + 1, P, rfl, by go_num, by go_num, HC.out, HJ.out, HB.out⟩, ?_⟩
            simp [intOf]; omega
      · rw [e40] at hb40
        have HC : Hid (Come s pre A (I + 1) (O + 1)) := Lib.hid (by
          have := hcome.go hlt (by unfold cutP; rw [eq_of_beq e40]; rfl)
          rwa [show stepO O s[I] = O + 1 by unfold stepO; rw [e40]; rfl] at this)
        have HJ := Lib.hid hJs
        have HB := Lib.hid hB
        clear hcome hJs hB
        gi_wp2
        refine ⟨⟨pre, A, I + 1, O + 1, rfl, by go_num, by go_num, HC.out, HJ.out, HB.out⟩, ?_⟩
        simp [intOf]; omega
    · obtain rfl : I = s.size := by omega
      obtain ⟨x, hx⟩ : ∃ x : Part m, x.1 = (s.extract A s.size).data.toList := ⟨⟨(s.extract A s.size).data.toList, by rw [ext_data]; simp; have := ba_len s; omega⟩, rfl⟩
      obtain ⟨hall, hlen⟩ := hcome.last x hx
      obtain ⟨fn, tmps, assign, body, hy, hR⟩ := hY pre x wr hJs hlen
      rw [show encP x = #[.string (s.extract A s.size)] by unfold encP; rw [hx, ext_part]] at hy
      have HB := Lib.hid hB
      have HR := Lib.hid hR
      have HA := Lib.hid hall
      clear hcome hJs hB hR hall hx
      gi_wp2
      refine HR.out.mono ?_
      rintro e W3 (⟨rfl, hJ3, hk3⟩ | ⟨rfl, hJx3⟩)
      · gi_wp2
        go_end0
        exact ⟨⟨_, rfl⟩, .inl ⟨pre ++ [x], HA.out, hJ3⟩⟩
      · gi_wp2
        go_end0
        exact ⟨⟨_, rfl⟩, .inr ⟨pre ++ [x], by rw [HA.out]; exact List.prefix_refl _, hJx3⟩⟩
end Go.Proofs.YtpkjllliidpgoaaGreatDoor
