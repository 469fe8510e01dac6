/- The law FrameFinds: its facts. -/
import Derived.Test.YtilbmbheancciaaDoorFrM
import Derived.BigQuiet
set_option linter.unusedSimpArgs false
set_option linter.unusedVariables false
namespace Go.Proofs.YtilbmbheancciaaDoor
open Go.ChangeShapes Go.WideShapes Go.ChangeAt Go.RowKit Go.Base Go.Mx Go.Fr

theorem firstSz_parts (n : Nat) (s4 q r : List UInt8) (h4 : s4.length = 4) (hq : q.length = n) (hn : n ≤ 65536) :
    firstSz (num4 n ++ (s4 ++ (q ++ r))) = if getN s4 = Mx.sum (num4 n ++ q) then 8 + n else 0 := by
  have e1 : getN (num4 n ++ (s4 ++ (q ++ r))) = n := getN_num4 _ (by omega) _
  have e2 : (num4 n ++ (s4 ++ (q ++ r))).drop 4 = s4 ++ (q ++ r) := List.drop_left' (num4_len _)
  have e3 : (num4 n ++ (s4 ++ (q ++ r))).drop 8 = q ++ r := by
    have : (num4 n ++ (s4 ++ (q ++ r))).drop 8 = ((num4 n ++ (s4 ++ (q ++ r))).drop 4).drop 4 := by rw [List.drop_drop]
    rw [this, e2, List.drop_left' h4]
  have e4 : (num4 n ++ (s4 ++ (q ++ r))).take 4 = num4 n := List.take_left' (num4_len _)
  have e5 : getN (s4 ++ (q ++ r)) = getN s4 := by rw [← getN_take4 (s4 ++ (q ++ r)), List.take_left' h4]
  have hl : (num4 n ++ (s4 ++ (q ++ r))).length = 8 + n + r.length := by simp [num4_len, h4, hq]; omega
  unfold firstSz
  rw [if_neg (by rw [hl]; omega), e1, if_neg (by rw [hl]; omega), e2, e3, e4, e5, List.take_left' hq]
/-- A byte of a sum or a payload that is another one: no frame. -/
theorem firstSz_changed (p r : List UInt8) (k : Nat) (c : UInt8) (hp : p.length ≤ 65536) (hk : k < 4 + p.length) (h : (frameB p)[4 + k]? ≠ some c) : firstSz ((frameB p).set (4 + k) c ++ r) = 0 := by
  have hs4 := num4_len (sumF p)
  have hl4 := num4_len p.length
  have ef : frameB p = num4 p.length ++ (num4 (sumF p) ++ p) := by unfold frameB; rw [List.append_assoc]
  rw [ef] at h ⊢
  rw [List.getElem?_append_right (by omega), hl4, show 4 + k - 4 = k by omega] at h
  rw [List.set_append_right _ _ (by omega), hl4, show 4 + k - 4 = k by omega]
  by_cases hk4 : k < 4
  · rw [List.set_append_left _ _ (by omega), List.append_assoc, List.append_assoc]
    rw [List.getElem?_append_left (by omega)] at h
    rw [firstSz_parts p.length ((num4 (sumF p)).set k c) p r (by rw [List.length_set]; exact hs4) rfl hp, if_neg]
    intro e
    have e1 := getN_take ((num4 (sumF p)).set k c) (by rw [List.length_set, hs4]; exact Nat.le_refl _)
    have e2 : sumF p = Mx.sum (num4 p.length ++ p) := rfl
    rw [e, ← e2, List.take_of_length_le (by rw [List.length_set, hs4]; exact Nat.le_refl _)] at e1
    rw [e1, List.getElem?_set_self (by omega)] at h
    exact h rfl
  · rw [List.set_append_right _ _ (by omega), List.append_assoc, List.append_assoc, hs4]
    rw [List.getElem?_append_right (by omega), hs4] at h
    rw [firstSz_parts p.length (num4 (sumF p)) (p.set (k - 4) c) r hs4 (by rw [List.length_set]) hp, if_neg]
    intro e
    have e0 := getN_num4 (sumF p) (sumF_lt p) []
    rw [List.append_nil] at e0
    rw [e0] at e
    have e2 : sumF p = Mx.sum (num4 p.length ++ p) := rfl
    rw [e2] at e
    have e3 : num4 p.length ++ p.set (k - 4) c = (num4 p.length ++ p).set k c := by rw [List.set_append_right _ _ (by omega), hl4]
    rw [e3] at e
    have hkl : k < (num4 p.length ++ p).length := by rw [List.length_append, hl4]; omega
    have e4 := (set_split (num4 p.length ++ p) k c hkl).1 e
    rw [List.getElem_append_right (by omega)] at e4
    have hk5 : k - 4 < p.length := by omega
    rw [List.getElem?_eq_getElem hk5] at h
    have : p[k - 4] = c := by simpa [hl4] using e4
    exact h (by rw [this])
theorem framesB_split (ps : List (List UInt8)) (i : Nat) (h : i < ps.length) : framesB ps = framesB (ps.take i) ++ (frameB ps[i] ++ framesB (ps.drop (i + 1))) := by
  rw [← framesB_cons, ← framesB_add, ← List.drop_eq_getElem_cons h, List.take_append_drop]
theorem short_take {ps : List (List UInt8)} (h : Short ps) (i : Nat) : Short (ps.take i) := fun p hp => h p (List.mem_of_mem_take hp)
theorem finds_not (ps : List (List UInt8)) (i k : Nat) (c : UInt8) (h : i < ps.length) (hs : Short ps) (hk : k < 4 + ps[i].length) (hc : (framesB ps)[(framesB (ps.take i)).length + 4 + k]? ≠ some c) :
    allB ((framesB ps).set ((framesB (ps.take i)).length + 4 + k) c) = ps.take i ∧ wholeSz ((framesB ps).set ((framesB (ps.take i)).length + 4 + k) c) = (framesB (ps.take i)).length := by
  have hp := hs ps[i] (List.getElem_mem h)
  have hfl := frameB_len ps[i]
  rw [framesB_split ps i h] at hc ⊢
  rw [List.getElem?_append_right (by omega), List.getElem?_append_left (by omega), show (framesB (ps.take i)).length + 4 + k - (framesB (ps.take i)).length = 4 + k by omega] at hc
  rw [List.set_append_right _ _ (by omega), List.set_append_left _ _ (by omega), show (framesB (ps.take i)).length + 4 + k - (framesB (ps.take i)).length = 4 + k by omega]
  have hz := firstSz_changed ps[i] (framesB (ps.drop (i + 1))) k c hp hk hc
  rw [all_frames _ _ (short_take hs i), whole_frames _ _ (short_take hs i), allB_stop hz, wholeSz_stop hz, List.append_nil]
  exact ⟨rfl, rfl⟩
theorem finds_len (ps : List (List UInt8)) (i k : Nat) (h : i < ps.length) (hk : k < 4 + ps[i].length) : (framesB (ps.take i)).length + 4 + k < (framesB ps).length := by
  have hfl := frameB_len ps[i]
  rw [framesB_split ps i h, List.length_append, List.length_append, hfl]
  omega
end Go.Proofs.YtilbmbheancciaaDoor
