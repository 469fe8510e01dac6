/- Package store: what a crash leaves, file by file, plain. No function of the program. -/
import Derived.Test.YtobgiialecgpnaaStoO
set_option linter.unusedSimpArgs false
set_option linter.unusedVariables false
namespace Go.Sto
theorem crashed_app (acc : List (List UInt8 × Int)) (a b : List Fil) : crashed acc (a ++ b) = crashed acc a ++ crashed acc b := by
  unfold crashed
  rw [List.map_append, List.filter_append]
theorem crashed_split (acc : List (List UInt8 × Int)) (l : List Fil) (k : Nat) (hk : k < l.length) : crashed acc l = crashed acc (l.take k) ++ ((if (crashF acc l[k]).stays then [crashF acc l[k]] else []) ++ crashed acc (l.drop (k + 1))) := by
  have h : l = l.take k ++ ([l[k]] ++ l.drop (k + 1)) := by
    rw [List.singleton_append, ← List.drop_eq_getElem_cons hk, List.take_append_drop]
  have h1 : crashed acc [l[k]] = if (crashF acc l[k]).stays then [crashF acc l[k]] else [] := by
    have := crashed_snoc acc [] l[k]
    rw [List.nil_append] at this
    rw [this]; rfl
  rw [← h1, ← crashed_app, ← crashed_app, ← h]
theorem crashed_at (acc : List (List UInt8 × Int)) (l : List Fil) (k : Nat) (hk : k < l.length) (hs : (crashF acc l[k]).stays = true) :
    (crashed acc l)[(crashed acc (l.take k)).length]? = some (crashF acc l[k]) ∧ (crashed acc (l.take (k + 1))).length = (crashed acc (l.take k)).length + 1 ∧ (crashed acc (l.take k)).length < (crashed acc l).length := by
  have h := crashed_split acc l k hk
  rw [if_pos hs] at h
  have h2 : crashed acc (l.take (k + 1)) = crashed acc (l.take k) ++ [crashF acc l[k]] := by
    rw [List.take_succ_eq_append_getElem hk, crashed_snoc, if_pos hs]
  refine ⟨?_, by rw [h2]; simp, by rw [h]; simp⟩
  rw [h, List.getElem?_append_right (Nat.le_refl _), Nat.sub_self]
  rfl
theorem crashed_gone (acc : List (List UInt8 × Int)) (l : List Fil) (hr : Rising l) (k : Nat) (hk : k < l.length) (hs : (crashF acc l[k]).stays = false) :
    (∀ g, (crashed acc l)[(crashed acc (l.take k)).length]? = some g → g.name ≠ l[k].name) ∧ (crashed acc (l.take (k + 1))).length = (crashed acc (l.take k)).length ∧ (crashed acc (l.take k)).length ≤ (crashed acc l).length ∧ l[k].sure = 0 := by
  have h := crashed_split acc l k hk
  rw [if_neg (by rw [hs]; simp)] at h
  have h2 : crashed acc (l.take (k + 1)) = crashed acc (l.take k) := by
    rw [List.take_succ_eq_append_getElem hk, crashed_snoc, if_neg (by rw [hs]; simp), List.append_nil]
  refine ⟨fun g hg => ?_, by rw [h2], by rw [h]; simp, ?_⟩
  · rw [h, List.getElem?_append_right (Nat.le_refl _), Nat.sub_self, List.nil_append] at hg
    have hm := List.mem_of_getElem? hg
    unfold crashed at hm
    obtain ⟨x, hx, rfl⟩ := List.mem_map.1 (List.mem_filter.1 hm).1
    have hl : Rising (l.drop k) := List.Pairwise.drop hr
    rw [List.drop_eq_getElem_cons hk] at hl
    have := (List.pairwise_cons.1 hl).1 x hx
    intro e
    have e2 : x.name = l[k].name := e
    rw [e2] at this
    exact lt_irr _ this
  · have h0 : (crashF acc l[k]).stays = (l[k].stays || decide (0 < leftN acc l[k])) := rfl
    rw [h0, Bool.or_eq_false_iff, decide_eq_false_iff_not] at hs
    have := hs.2
    unfold leftN at this
    omega
/-- Of a file that a crash leaves. -/
theorem crashed_fits {files : List Fil} {ks : List (ByteArray × Int)} {acc : List (List UInt8 × Int)} (h : outR files ks [] = some acc) (hr : Rising files) {f : Fil} (hf : f ∈ files) (hs : f.sure ≤ f.bytes.length) :
    (crashF acc f).bytes.length = leftN acc f ∧ f.sure ≤ leftN acc f ∧ leftN acc f ≤ f.bytes.length := by
  have h1 := (lastOf_ok (outR_ok h (fun k hk => absurd hk List.not_mem_nil)) (look_of_mem hr hf) hs).2
  refine ⟨?_, by unfold leftN; omega, h1⟩
  show (f.bytes.take (leftN acc f)).length = _
  rw [List.length_take]; omega
theorem crashed_end (acc : List (List UInt8 × Int)) (l : List Fil) : (crashed acc (l.take l.length)).length = (crashed acc l).length := by rw [List.take_length]
end Go.Sto
