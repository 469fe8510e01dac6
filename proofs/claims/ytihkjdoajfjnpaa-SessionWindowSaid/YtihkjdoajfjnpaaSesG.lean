/- The library's Delete at byte slices, from the first one on; letGo. -/
import Derived.Test.YtihkjdoajfjnpaaSesF
set_option linter.unusedSimpArgs false
set_option linter.unusedVariables false
namespace Go.Proofs.Ytihkjdoajfjnpaa
open Go.ChangeShapes Go.WideShapes Go.ChangeAt Go.RowKit Go.Base Go.Ses

section
variable {P : Program}
/-- clear over n elements of k cells, in a row of the call's own. -/
theorem run_clear_k (w : World) (t e : TypeId) (z : Value) (k : Nat) (ht : P.underlying t = some (.slice e)) (hv : ∀ w, (zeroValue e).run P w = .ok z w) (hz : z.cells.size = k) (h1 : ∀ u ∈ z.cells.toList, u.oneCell' = true) (hk : 0 < k)
    (g o n : Nat) (cur : Array Value) (t' : TypeId) (hg : w.heap[g]? = some (.cells cur t' (0, 0))) (hfit : o + n * k ≤ cur.size) :
    ∃ cs : List Value, (∀ ty c, (Builtin.clear_ #[t] ty #[.slice (some ⟨g, o, none⟩) n c]).run P w = .ok (.tuple #[]) (w.setRow g (cur.toList.take o ++ cs ++ cur.toList.drop (o + n * k)).toArray)) ∧ cs.length = n * k := by
  rcases Nat.eq_zero_or_pos n with h0 | h0
  · subst h0
    refine ⟨[], fun ty c => ?_, by simp⟩
    have e : (cur.toList.take o ++ [] ++ cur.toList.drop (o + 0 * k)).toArray = cur := by simp
    rw [e, setRow_self w g cur t' (0, 0) hg]
    simp [Builtin.clear_, run_underlying ht]
  · have hl : (Builtin.zeroCells z.cells n).toList.length = n * k := by rw [← hz]; simpa using size_zeroCells z.cells n
    have ho : ∀ v ∈ (Builtin.zeroCells z.cells n).toList, v.oneCell' = true := fun v hv => by
      unfold Builtin.zeroCells at hv
      simp at hv
      obtain ⟨j, hj, rfl⟩ := hv
      have hj2 : j % z.cells.size < z.cells.size := Nat.mod_lt _ (by omega)
      exact h1 _ (by simp [hj2])
    refine ⟨(Builtin.zeroCells z.cells n).toList, fun ty c => ?_, hl⟩
    have hst := run_storeCells_at P g o t' (Builtin.zeroCells z.cells n).toList 0 cur w hg (by rw [hl]; simpa using hfit) ho
    rw [hl] at hst
    simp only [Nat.add_zero] at hst
    obtain ⟨m, rfl⟩ : ∃ m, n = m + 1 := ⟨n - 1, by omega⟩
    simp [Builtin.clear_, run_underlying ht, hv, hst]
theorem oper_append_run {o : Oper} {a : Act} {w : World} {K : Act → World → Prop} {Q : Exit → Act → World → Prop} (s x : Operand) (t : TypeId) (ho : o.op = .call { callee := .builtin .append, args := #[s, x], argTypes := #[t, t] })
    (sv xv v : Value) (W : World) (hs : a.eval s = sv) (hx : a.eval x = xv) (hr : (Builtin.append_ #[t, t] o.type #[sv, xv]).run P w = .ok v W) (h : K (a.put o.dst v) W) : Oper.wp P o a w K Q := by
  unfold Oper.wp execOp
  simp only [ho, resolve, invoke, builtin, Sem.run_bind, Sem.run_pure, Result.andThen_ok, List.map_toArray, List.map_cons, List.map_nil, hs, hx, hr]
  exact h
end
section
variable {F G : Nat → Prop} {w w1 w' : World} {p : Nat} {s s2 : Ss} {A : Option Addr} {c : Nat} {vs : List SlV} {bm : Nat} {D : DataW Value} {q : Nat → Prop}
theorem zeroSl (w : World) : (zeroValue 27).run Try.prog w = .ok (.slice none 0 0) w := by kernel_rfl
/-- A row whose first m elements were taken out, in place. -/
theorem row_cut {g m n c : Nat} {xs : List Value} {cur : Array Value} {cs : List Value} (hg : w.heap[g]? = some (.cells cur 27 (0, 0))) (hl : xs.length = n) (hm : m ≤ n) (hn : n ≤ c) (hc : c ≤ maxLen) (hs : cur.size = c) (hx : cur.toList.take n = xs) (hcs : cs.length = m) :
    ((w.setRow g (xs.drop m ++ cur.toList.drop (n - m)).toArray).setRow g
      ((xs.drop m ++ cur.toList.drop (n - m)).toArray.toList.take (n - m) ++ cs ++ (xs.drop m ++ cur.toList.drop (n - m)).toArray.toList.drop (n - m + m)).toArray).ownsRow 0 27 1 (.slice (some ⟨g, 0, none⟩) (n - m) c) (n - m) (xs.drop m) := by
  have e2 : (xs.drop m).length = n - m := by rw [List.length_drop, hl]
  refine ⟨by rw [e2]; omega, .inr ⟨g, c, _, rfl, Nat.zero_le _, setRow_heap _ g _ _ _ _ (setRow_heap _ g _ _ _ _ hg), by omega, hc, ?_, ?_⟩⟩
  · have e4 : (xs.drop m ++ cur.toList.drop (n - m)).length = c := by
      rw [List.length_append, e2, List.length_drop, Array.length_toList, hs]; omega
    rw [List.toList_toArray, List.size_toArray, List.length_append, List.length_append, List.length_take, List.length_drop, e4, hcs]; omega
  · rw [Nat.mul_one]
    simp only [List.toList_toArray]
    rw [show List.take (n - m) (xs.drop m ++ cur.toList.drop (n - m)) = xs.drop m from List.take_left' e2, List.append_assoc, List.take_left' e2]
def CutPost (A : Option Addr) (n c m : Nat) (xs : List Value) (w : World) (e : Ending) (w' : World) : Prop :=
  e = .returned (.slice A (n - m) c) ∧ w'.ownsRow 0 27 1 (.slice A (n - m) c) (n - m) (xs.drop m) ∧ Moved (fun j => (Value.slice A n c).ownBlock = some j) w w'
set_option maxHeartbeats 4000000 in
set_option maxRecDepth 20000 in
theorem delete_any {n : Nat} {xs : List Value} (h : w.ownsRow 0 27 1 (.slice A n c) n xs) (h1 : ∀ u ∈ xs, u.oneCell' = true) (m : Nat) (hm0 : 0 < m) (hmn : m ≤ n) (hf : n ≤ 4096) :
    Calls Try.prog 30 #[.slice A n c, .int .i64 0, .int .i64 (m : Int)] w (CutPost A n c m xs w) := by
  obtain ⟨hl, h2⟩ := h
  rcases h2 with ⟨h0, h3⟩ | ⟨g, cap, cur, h0, _, hg, hnc, hcm, hs, hx⟩
  · omega
  injection h0 with h0 _ h4
  subst h0; subst h4
  rw [Nat.mul_one] at hl hs hx
  obtain ⟨i0, hinfo, hz0, hzs, hz2⟩ := info_parts (P := Try.prog) (e := 27) (z := .slice none 0 0) (size := 1) (bytes := 24) (by kernel_rfl)
  have hsrc : ∀ j u, (xs.drop m)[j]? = some u → w.cell? ⟨g, m + j, none⟩ = some u := fun j u hu => by
    rw [List.getElem?_drop] at hu
    rw [cell_of_row _ _ _ _ _ _ hg, ← Array.getElem?_toList]
    have hj : m + j < n := by
      rcases Nat.lt_or_ge (m + j) xs.length with h | h
      · omega
      · rw [List.getElem?_eq_none h] at hu; cases hu
    rw [← hx, List.getElem?_take_of_lt hj] at hu
    exact hu
  have hlen : (xs.drop m).length = (n - m) * i0.size := by rw [List.length_drop, hzs, hl]; omega
  have h1d : ∀ u ∈ xs.drop m, u.oneCell' = true := fun u hu => h1 u (List.mem_of_mem_drop hu)
  obtain ⟨W1, hW1⟩ : ∃ W1, W1 = w.drew.setRow g (xs.drop m ++ cur.toList.drop (n - m)).toArray := ⟨_, rfl⟩
  obtain ⟨r, HNr⟩ : ∃ r, Hid (n = r + m) := ⟨n - m, Lib.hid (by omega)⟩
  have HAp : Hid (∀ (ad : Addr) cc ty, (m < n → ad = ⟨g, m, none⟩) → (Builtin.append_ #[34, 34] ty #[.slice (some ⟨g, 0, none⟩) 0 c, .slice (some ad) (n - m) cc]).run Try.prog w.drew = .ok (.slice (some ⟨g, 0, none⟩) r c) W1) := Lib.hid (fun ad cc ty had => by
    have := run_append_room (P := Try.prog) w.drew 34 ty 27 i0 Try.underlying34 hinfo g 0 c cur hg ad (n - m) cc (xs.drop m) hlen (fun j u hu => by
      by_cases hkn : m < n
      · rw [had hkn, show (⟨g, m, none⟩ : Addr).add j = ⟨g, m + j, none⟩ by unfold Addr.add; split <;> simp_all]
        exact hsrc j u hu
      · have : xs.drop m = [] := List.eq_nil_of_length_eq_zero (by rw [List.length_drop]; omega)
        rw [this] at hu; simp at hu) h1d (by omega) (by rw [hlen, hzs, hs]; omega)
    rw [this, hW1, hlen, hzs, show 0 + (n - m) = r by have := HNr.out; omega]
    simp)
  have hg1 : W1.heap[g]? = some (.cells (xs.drop m ++ cur.toList.drop (n - m)).toArray 27 (0, 0)) := by rw [hW1]; exact setRow_heap _ g _ _ _ _ hg
  obtain ⟨cs, hcl, hcs⟩ : ∃ cs : List Value, (∀ ty cc, (Builtin.clear_ #[34] ty #[.slice (some ⟨g, n - m, none⟩) m cc]).run Try.prog W1 = .ok (.tuple #[]) (W1.setRow g ((xs.drop m ++ cur.toList.drop (n - m)).toArray.toList.take (n - m) ++ cs ++ (xs.drop m ++ cur.toList.drop (n - m)).toArray.toList.drop (n - m + m)).toArray)) ∧ cs.length = m := by
    have e4 : (xs.drop m ++ cur.toList.drop (n - m)).toArray.size = c := by
      have e5 : cur.toList.length = c := by rw [Array.length_toList]; exact hs
      rw [List.size_toArray, List.length_append, List.length_drop, List.length_drop, e5, hl]; omega
    obtain ⟨cs, h1, h2⟩ := run_clear_k (P := Try.prog) W1 34 27 (.slice none 0 0) 1 Try.underlying34 zeroSl rfl (by decide) (by decide) g (n - m) m _ 27 hg1 (by rw [e4]; omega)
    refine ⟨cs, fun ty cc => ?_, by rw [h2, Nat.mul_one]⟩
    have := h1 ty cc
    rw [Nat.mul_one] at this
    exact this
  have HE : Hid (∀ cs2 : List Value, cs2.length = m → (W1.setRow g ((xs.drop m ++ cur.toList.drop (n - m)).toArray.toList.take (n - m) ++ cs2 ++ (xs.drop m ++ cur.toList.drop (n - m)).toArray.toList.drop (n - m + m)).toArray).ownsRow 0 27 1 (.slice (some ⟨g, 0, none⟩) (n - m) c) (n - m) (xs.drop m)) := Lib.hid (fun cs2 h => by rw [hW1]; exact row_cut (w := w.drew) hg hl hmn hnc hcm hs hx h)
  have HM : Hid (∀ X, Moved (fun j => (Value.slice (some ⟨g, 0, none⟩) n c).ownBlock = some j) w (W1.setRow g X)) := Lib.hid (fun X => by
    have m : ∀ (V : World) Y, Moved (fun j => j = g) V (V.setRow g Y) := fun V Y => ⟨rfl, rfl, rfl, by simp [World.setRow], fun k _ hn => setRow_other V g k Y hn⟩
    rw [hW1]
    exact (((Moved.refl (fun j => j = g) w).drew.trans (m _ _) (fun _ _ h => h)).trans (m _ _) (fun _ _ h => h)).weaken (fun j _ e => by subst e; rfl))
  obtain ⟨X, hX⟩ : ∃ X, X = ((xs.drop m ++ cur.toList.drop (n - m)).toArray.toList.take (n - m) ++ cs ++ (xs.drop m ++ cur.toList.drop (n - m)).toArray.toList.drop (n - m + m)).toArray := ⟨_, rfl⟩
  have HR := Lib.hid (HE.out cs hcs)
  have HWs : Hid (n = m → W1 = w.drew) := Lib.hid (fun e => by
    rw [hW1]
    have e2 : (xs.drop m ++ cur.toList.drop (n - m)).toArray = cur := by
      rw [List.drop_of_length_le (l := xs) (by omega), show n - m = 0 by omega]; simp
    rw [e2]; exact setRow_self w.drew g cur _ _ hg)
  rw [← hX] at hcl HR
  unfold maxLen at hcm
  clear hX HE hcs hg1 hW1 h1d hlen hsrc hx hs hg hl h1 hinfo hz0 hzs hz2
  have hmn' : (m : Int) ≤ (n : Int) := by omega
  have hnc' : (n : Int) ≤ (c : Int) := by omega
  have hmc : (m : Int) ≤ (c : Int) := by omega
  have hmz : (0 : Int) ≤ (m : Int) := by omega
  have hrz : (0 : Int) ≤ (r : Int) := by omega
  have hrn : (r : Int) ≤ (n : Int) := by have := HNr.out; omega
  have hm00 : ¬ m = 0 := by omega
  have hm01 : ¬ (0 : Int) = (m : Int) := by omega
  have hm02 : ((0 : Int) == (m : Int)) = false := by simp; omega
  have hc0 : ¬ c = 0 := by omega
  have hcl2 : ∀ ty, (Builtin.clear_ #[34] ty #[.slice (some ⟨g, r, none⟩) (n - r) (c - r)]).run Try.prog W1 = .ok (.tuple #[]) (W1.setRow g X) := fun ty => by
    have := HNr.out
    rw [show n - r = m by omega, show r = n - m by omega]
    exact hcl ty _
  clear hcl
  go_enter Try.func30, Try.ntmps30
  by_cases hc1 : c = m
  · obtain rfl : n = m := by omega
    subst hc1
    have hWs : W1 = w.drew := HWs.out rfl
    rw [hWs] at hcl2 HR HM
    obtain rfl : r = 0 := by have := HNr.out; omega
    simp only [Nat.sub_zero] at hcl2
    go_wp2_with fail
    refine wp_region_held_drew (S := (fun _ => True)) (by kernel_rfl) trivial (fun hHeld => ?_)
    refine wpAnyH_take (i := 0) (v := ?vv1) rfl (by kernel_rfl) (by kernel_rfl) (by kernel_rfl) (fun _ _ _ h => h) (Or.inl ⟨by rfl, ?hy1⟩) hHeld ?rr1
    case hy1 => (intro w' hSw; skip; go_simp; try with_reducible rfl)
    try simp only [Act.put, List.setIfInBounds_toArray, List.set_cons_zero, List.set_cons_succ, List.getElem_toArray, List.getElem_cons_succ, List.getElem_cons_zero]
    refine wpAnyH_take (i := 1) (v := ?vv2) rfl (by kernel_rfl) (by kernel_rfl) (by kernel_rfl) (fun _ _ _ h => h) (Or.inl ⟨by rfl, ?hy2⟩) hHeld ?rr2
    case hy2 => (intro w' hSw; skip; go_simp; try with_reducible rfl)
    try simp only [Act.put, List.setIfInBounds_toArray, List.set_cons_zero, List.set_cons_succ, List.getElem_toArray, List.getElem_cons_succ, List.getElem_cons_zero]
    refine wpAnyH_take (i := 2) (v := ?vv3) rfl (by kernel_rfl) (by kernel_rfl) (by kernel_rfl) (fun _ _ _ h => h) (Or.inl ⟨by rfl, ?hy3⟩) hHeld ?rr3
    case hy3 => (intro w' hSw; skip; go_simp; try with_reducible rfl)
    try simp only [Act.put, List.setIfInBounds_toArray, List.set_cons_zero, List.set_cons_succ, List.getElem_toArray, List.getElem_cons_succ, List.getElem_cons_zero]
    refine wpAnyH_take (i := 3) (v := ?vv4) rfl (by kernel_rfl) (by kernel_rfl) (by kernel_rfl) (fun _ _ _ h => h) (Or.inl ⟨by rfl, ?hy4⟩) hHeld ?rr4
    case hy4 => (intro w' hSw; skip; go_simp; try with_reducible rfl)
    try simp only [Act.put, List.setIfInBounds_toArray, List.set_cons_zero, List.set_cons_succ, List.getElem_toArray, List.getElem_cons_succ, List.getElem_cons_zero]
    refine wpAnyH_take (i := 4) (v := ?vv5) rfl (by kernel_rfl) (by kernel_rfl) (by kernel_rfl) (fun _ _ _ h => h) (Or.inl ⟨by rfl, ?hy5⟩) hHeld ?rr5
    case hy5 => (intro w' hSw; skip; go_simp; try with_reducible rfl)
    try simp only [Act.put, List.setIfInBounds_toArray, List.set_cons_zero, List.set_cons_succ, List.getElem_toArray, List.getElem_cons_succ, List.getElem_cons_zero]
    refine wpAnyH_take (i := 5) (v := ?vv6) rfl (by kernel_rfl) (by kernel_rfl) (by kernel_rfl) (fun _ _ _ h => h) (Or.inl ⟨by rfl, ?hy6⟩) hHeld ?rr6
    case hy6 => (intro w' hSw; skip; go_simp; try with_reducible rfl)
    try simp only [Act.put, List.setIfInBounds_toArray, List.set_cons_zero, List.set_cons_succ, List.getElem_toArray, List.getElem_cons_succ, List.getElem_cons_zero]
    refine wpAnyH_ready (rs := [6]) (by kernel_rfl) (by simp) ?_
    refine AllReadyH.cons rfl (fun K hK => ?_) AllReadyH.nil
    try rw [if_pos (by rfl)]
    go_simp
    refine hK.out _ _ trivial (fun hHeld2 => ?_)
    clear hK K hHeld
    have hHeld := hHeld2
    clear hHeld2
    try simp only [Act.put, List.setIfInBounds_toArray, List.set_cons_zero, List.set_cons_succ, List.getElem_toArray, List.getElem_cons_succ, List.getElem_cons_zero]
    refine wpAnyH_take (i := 7) (v := ?vv7) rfl (by kernel_rfl) (by kernel_rfl) (by kernel_rfl) (fun _ _ _ h => h) (Or.inl ⟨by rfl, ?hy7⟩) hHeld ?rr7
    case hy7 => (intro w' hSw; skip; go_simp; try with_reducible rfl)
    try simp only [Act.put, List.setIfInBounds_toArray, List.set_cons_zero, List.set_cons_succ, List.getElem_toArray, List.getElem_cons_succ, List.getElem_cons_zero]
    refine wpAnyH_done (by kernel_rfl) ?_ _
    clear hHeld
    go_wp2
    go_ret
    exact ⟨(by rw [Nat.sub_self]; rfl), HR.out, HM.out _⟩
  · have hcrne : ¬ c = r := by have := HNr.out; omega
    go_wp2_with fail
    refine wp_region_held_drew (S := (fun _ => True)) (by kernel_rfl) trivial (fun hHeld => ?_)
    refine wpAnyH_take (i := 0) (v := ?vv8) rfl (by kernel_rfl) (by kernel_rfl) (by kernel_rfl) (fun _ _ _ h => h) (Or.inl ⟨by rfl, ?hy8⟩) hHeld ?rr8
    case hy8 => (intro w' hSw; skip; go_simp; try with_reducible rfl)
    try simp only [Act.put, List.setIfInBounds_toArray, List.set_cons_zero, List.set_cons_succ, List.getElem_toArray, List.getElem_cons_succ, List.getElem_cons_zero]
    refine wpAnyH_take (i := 1) (v := ?vv9) rfl (by kernel_rfl) (by kernel_rfl) (by kernel_rfl) (fun _ _ _ h => h) (Or.inl ⟨by rfl, ?hy9⟩) hHeld ?rr9
    case hy9 => (intro w' hSw; skip; go_simp; try with_reducible rfl)
    try simp only [Act.put, List.setIfInBounds_toArray, List.set_cons_zero, List.set_cons_succ, List.getElem_toArray, List.getElem_cons_succ, List.getElem_cons_zero]
    refine wpAnyH_take (i := 2) (v := ?vv10) rfl (by kernel_rfl) (by kernel_rfl) (by kernel_rfl) (fun _ _ _ h => h) (Or.inl ⟨by rfl, ?hy10⟩) hHeld ?rr10
    case hy10 => (intro w' hSw; skip; go_simp; try with_reducible rfl)
    try simp only [Act.put, List.setIfInBounds_toArray, List.set_cons_zero, List.set_cons_succ, List.getElem_toArray, List.getElem_cons_succ, List.getElem_cons_zero]
    refine wpAnyH_take (i := 3) (v := ?vv11) rfl (by kernel_rfl) (by kernel_rfl) (by kernel_rfl) (fun _ _ _ h => h) (Or.inl ⟨by rfl, ?hy11⟩) hHeld ?rr11
    case hy11 => (intro w' hSw; skip; go_simp; try with_reducible rfl)
    try simp only [Act.put, List.setIfInBounds_toArray, List.set_cons_zero, List.set_cons_succ, List.getElem_toArray, List.getElem_cons_succ, List.getElem_cons_zero]
    refine wpAnyH_take (i := 4) (v := ?vv12) rfl (by kernel_rfl) (by kernel_rfl) (by kernel_rfl) (fun _ _ _ h => h) (Or.inl ⟨by rfl, ?hy12⟩) hHeld ?rr12
    case hy12 => (intro w' hSw; skip; go_simp; try with_reducible rfl)
    try simp only [Act.put, List.setIfInBounds_toArray, List.set_cons_zero, List.set_cons_succ, List.getElem_toArray, List.getElem_cons_succ, List.getElem_cons_zero]
    refine wpAnyH_take (i := 5) (v := ?vv13) rfl (by kernel_rfl) (by kernel_rfl) (by kernel_rfl) (fun _ _ _ h => h) (Or.inl ⟨by rfl, ?hy13⟩) hHeld ?rr13
    case hy13 => (intro w' hSw; skip; go_simp; try with_reducible rfl)
    try simp only [Act.put, List.setIfInBounds_toArray, List.set_cons_zero, List.set_cons_succ, List.getElem_toArray, List.getElem_cons_succ, List.getElem_cons_zero]
    refine wpAnyH_ready (rs := [6]) (by kernel_rfl) (by simp) ?_
    refine AllReadyH.cons rfl (fun K hK => ?_) AllReadyH.nil
    try rw [if_pos (by rfl)]
    refine oper_append_run (.tmp 22) (.tmp 25) 34 rfl _ _ _ _ rfl rfl (HAp.out ⟨g, m, none⟩ (c - m) _ (fun h => rfl)) ?_
    refine hK.out _ _ trivial (fun hHeld2 => ?_)
    clear hK K hHeld
    have hHeld := hHeld2
    clear hHeld2
    try simp only [Act.put, List.setIfInBounds_toArray, List.set_cons_zero, List.set_cons_succ, List.getElem_toArray, List.getElem_cons_succ, List.getElem_cons_zero]
    refine wpAnyH_take (i := 7) (v := ?vv14) rfl (by kernel_rfl) (by kernel_rfl) (by kernel_rfl) (fun _ _ _ h => h) (Or.inl ⟨by rfl, ?hy14⟩) hHeld ?rr14
    case hy14 => (intro w' hSw; skip; go_simp; try with_reducible rfl)
    try simp only [Act.put, List.setIfInBounds_toArray, List.set_cons_zero, List.set_cons_succ, List.getElem_toArray, List.getElem_cons_succ, List.getElem_cons_zero]
    refine wpAnyH_done (by kernel_rfl) ?_ _
    clear hHeld
    go_wp2
    go_ret
    exact ⟨(by have := HNr.out; rw [show n - m = r by omega]; rfl), HR.out, HM.out _⟩
theorem SesX.row_set {vs2 : List SlV} {A2 : Option Addr} {c2 : Nat} (h : SesX w F p s A c vs bm D) (hm : Moved q w w') (hq : ¬ q bm) (hu : Ku w w') (hself : w'.heap[p]? = some (.cells (sesC s2 A2 vs2.length c2 bm) 60 (0, 0)))
    (hrow : w'.ownsRow 0 27 1 (.slice A2 vs2.length c2) vs2.length (vs2.map SlV.val)) (hout : vs2.map (·.b) = s2.l.out) (hbod : ∀ x ∈ vs2, ByU w' x.A x.b) (hok : Ok s2) (h2 : s2.l.inn = s.l.inn) (h3 : s2.l.puts = s.l.puts) (hin : G p ∧ G bm ∧ ∀ k, (Value.slice A2 vs2.length c2).ownBlock = some k → G k) : SesX w' G p s2 A2 c2 vs2 bm D :=
  ⟨hok, hself, hrow, hout, hbod, own_mapK h.map hm hq, by rw [h3]; exact h.size, (fun j hj => h.non j (by rw [← h2]; exact hj)),
    (fun j b hj => by obtain ⟨x, a1, a2, a3, a4⟩ := h.som j b (by rw [← h2]; exact hj); exact ⟨x, a1, a2, a3, a4.kept hu⟩), hin⟩
theorem SesX.row_ku (h : SesX w F p s A c vs bm D) (hm : Moved (fun k => k = p ∨ (Value.slice A vs.length c).ownBlock = some k) w w') : Ku w w' := hm.ku (fun T hT k cs z e hk => by
  rcases e with e | e
  · subst e; rw [h.self] at hk; injection hk with hk; injection hk with _ hk _; rcases hT with rfl | rfl <;> revert hk <;> decide
  · rcases h.row.2 with ⟨h0, _⟩ | ⟨g, cap, cur, h0, _, hg, _⟩
    · rw [h0] at e; cases e
    · rw [h0] at e
      have e : g = k := Option.some.inj e
      subst e
      rw [hg] at hk; injection hk with hk; injection hk with _ hk _; rcases hT with rfl | rfl <;> revert hk <;> decide)
theorem hself2 {n : Nat} (h : SesX w F p s A c vs bm D) (hb : Below w.heap.size w w1) (hn : n = vs.length) (hm : Moved (fun j => (Value.slice A n c).ownBlock = some j) w1 w') :
    (w'.cell? ⟨p, 5, none⟩ = some (.int .i64 s.l.gone) ∧ w'.cell? ⟨p, 6, none⟩ = some (.slice A n c) ∧ w'.cell? ⟨p, 7, none⟩ = some (.int .i64 s.l.sent) ∧ w'.cell? ⟨p, 8, none⟩ = some (.bool s.l.acked) ∧ w'.cell? ⟨p, 14, none⟩ = some (.int .i64 s.l.aGap)) ∧
    w'.frozen? ⟨p, 5, none⟩ = false ∧ w'.frozen? ⟨p, 6, none⟩ = false ∧ w'.frozen? ⟨p, 7, none⟩ = false ∧ w'.frozen? ⟨p, 8, none⟩ = false ∧ w'.frozen? ⟨p, 14, none⟩ = false := by
  subst hn
  have hs := hm.heap (h.later hb).self (h.row_ne.1)
  have hf := (cells_of_heap hs).2
  exact ⟨⟨(cell_of_row _ _ 5 _ _ _ hs).trans rfl, (cell_of_row _ _ 6 _ _ _ hs).trans rfl, (cell_of_row _ _ 7 _ _ _ hs).trans rfl, (cell_of_row _ _ 8 _ _ _ hs).trans rfl, (cell_of_row _ _ 14 _ _ _ hs).trans rfl⟩, hf 5, hf 6, hf 7, hf 8, hf 14⟩
def GoPost (F : Nat → Prop) (p : Nat) (s : Ss) (u : Int) (w : World) (e : Ending) (w' : World) : Prop := e = .returned (.tuple #[]) ∧ SE F w' p ⟨s.mine, letGo s.l u⟩ ∧ Moved F w w' ∧ Ku w w'
theorem go_end {w2 : World} {m : Nat} {u z : Int} (h : SesX w F p s A c vs bm D) (hb : Below w.heap.size w w1) (ho : w2.ownsRow 0 27 1 (.slice A (vs.length - m) c) (vs.length - m) ((vs.map SlV.val).drop m)) (hm : Moved (fun j => (Value.slice A vs.length c).ownBlock = some j) w1 w2)
    (hmn : m ≤ vs.length) (hE : letGo s.l u = { s.l with out := s.l.out.drop m, gone := u, sent := max (s.l.sent - m) 0, aGap := 1, acked := true }) (hok : Ok ⟨s.mine, letGo s.l u⟩) (hz : z = max (s.l.sent - m) 0) :
    GoPost F p s u w (.returned (.tuple #[])) (((((w2.setCell ⟨p, 6, none⟩ (.slice A (vs.length - m) c)).setCell ⟨p, 5, none⟩ (.int .i64 u)).setCell ⟨p, 7, none⟩ (.int .i64 z)).setCell ⟨p, 14, none⟩ (.int .i64 1)).setCell ⟨p, 8, none⟩ (.bool true)) := by
  have h1 := h.later hb
  have hs := hm.heap h1.self h1.row_ne.1
  have hmp : Moved (fun k => k = p) w2 (((((w2.setCell ⟨p, 6, none⟩ (.slice A (vs.length - m) c)).setCell ⟨p, 5, none⟩ (.int .i64 u)).setCell ⟨p, 7, none⟩ (.int .i64 z)).setCell ⟨p, 14, none⟩ (.int .i64 1)).setCell ⟨p, 8, none⟩ (.bool true)) :=
    (((((Moved.refl (fun k => k = p) w2).setCell (.inr rfl) _).setCell (.inr rfl) _).setCell (.inr rfl) _).setCell (.inr rfl) _).setCell (.inr rfl) _
  have hself := heap_set (heap_set (heap_set (heap_set (heap_set hs 6 (.slice A (vs.length - m) c)) 5 (.int .i64 u)) 7 (.int .i64 z)) 14 (.int .i64 1)) 8 (.bool true)
  obtain ⟨W, hW⟩ : ∃ W, W = (((((w2.setCell ⟨p, 6, none⟩ (.slice A (vs.length - m) c)).setCell ⟨p, 5, none⟩ (.int .i64 u)).setCell ⟨p, 7, none⟩ (.int .i64 z)).setCell ⟨p, 14, none⟩ (.int .i64 1)).setCell ⟨p, 8, none⟩ (.bool true)) := ⟨_, rfl⟩
  rw [← hW] at hmp hself ⊢
  clear hW
  have hmv : Moved (fun k => k = p ∨ (Value.slice A vs.length c).ownBlock = some k) w1 W := (hm.weaken (fun k _ e => .inr e)).trans hmp (fun k _ e => .inl e)
  have hku : Ku w W := (Below.ku hb).trans (h1.row_ku hmv)
  have hln : (vs.drop m).length = vs.length - m := List.length_drop
  refine ⟨rfl, ⟨A, c, vs.drop m, bm, D, h1.row_set (s2 := ⟨s.mine, letGo s.l u⟩) hmv (fun e => e.elim (fun e => h1.bm_ne h1.self e) (fun e => h1.row_ne.2 e)) (h1.row_ku hmv) ?_ ?_ ?_ (fun x hx => ((h.bod x (List.mem_of_mem_drop hx))).kept hku) hok ?_ ?_ ⟨h.inF.1, h.inF.2.1, fun k hk => ?_⟩⟩, ?_, hku⟩
  · rw [hself, hln]
    unfold sesC
    rw [hE, hz]
    rfl
  · rw [hln, List.map_drop]
    exact own_moved ho hmp (fun k hk e => by
      subst e
      rcases ho.2 with ⟨h0, _⟩ | ⟨g, cap, cur, h0, _, hg, _⟩
      · rw [h0] at hk; cases hk
      · rw [h0] at hk
        have hk : g = k := Option.some.inj hk
        subst hk
        exact block_ne hg hs (by decide) rfl)
  · rw [List.map_drop, h.outs, hE]
  · rw [hE]
  · rw [hE]
  · apply h.inF.2.2 k
    rw [hln] at hk
    cases A with
    | none => cases hk
    | some a => exact hk
  · exact (Below.movedNew hb).trans hmv (fun k _ e => e.elim (fun e => e ▸ h.inF.1) (fun e => h.inF.2.2 k e))
set_option maxHeartbeats 4000000 in
set_option maxRecDepth 20000 in
theorem letGo_any (h : SesX w F p s A c vs bm D) (u : Int) (hu : 0 ≤ u ∧ u ≤ 2147483647) : Calls Try.prog 22 #[.pointer (some ⟨p, 1, none⟩), .int .i64 u] w (GoPost F p s u w) := by
  have HX := Lib.hid h
  have HNx := Lib.hid (fun V (hV : Below w.heap.size w V) => next_any (h.later hV))
  have c5 := h.c5
  have g5 := h.ok.gone
  have hl := h.len
  by_cases h1 : u - s.l.gone ≤ 0
  · have HE : Hid (letGo s.l u = s.l) := Lib.hid (by unfold letGo; rw [if_pos (.inl h1)])
    have k1 : IntKind.i64.wrap (u - s.l.gone) = u - s.l.gone := by rw [IntKind.wrap_i64]; omega
    clear h hl
    generalize s.l.gone = g at *
    go_enter Try.func22, Try.ntmps22
    go_wp2
    go_end0
    exact ⟨rfl, by rw [HE.out]; exact HX.out.se, Moved.refl _ _, Ku.refl _⟩
  · by_cases h2 : s.l.next ≤ u
    · have HE : Hid (letGo s.l u = s.l) := Lib.hid (by unfold letGo; rw [if_pos (.inr h2)])
      have k1 : IntKind.i64.wrap (u - s.l.gone) = u - s.l.gone := by rw [IntKind.wrap_i64]; omega
      clear h hl
      generalize s.l.gone = g at *
      generalize s.l.next = nx at *
      go_enter Try.func22, Try.ntmps22
      go_wp2_with (go_at_call 24; refine Calls.mono (HNx.out _ (Below.refl _ _)) ?_; rintro e w1 ⟨rfl, hb⟩; have HB := Lib.hid hb; clear hb)
      go_end0
      exact ⟨rfl, by rw [HE.out]; exact (HX.out.later HB.out).se, Below.movedNew HB.out, Below.ku HB.out⟩
    · have h5 : ¬ s.l.gone + s.l.out.length + 1 ≤ u := h2
      obtain ⟨m, hm⟩ : ∃ m : Nat, (m : Int) = u - s.l.gone := ⟨(u - s.l.gone).toNat, by omega⟩
      have k1 : IntKind.i64.wrap (u - s.l.gone) = (m : Int) := by rw [IntKind.wrap_i64]; omega
      have hmn : m ≤ vs.length := by omega
      have hm0 : 0 < m := by omega
      have hs := h.ok.sent
      have k2 : IntKind.i64.wrap (s.l.sent - (m : Int)) = s.l.sent - (m : Int) := by rw [IntKind.wrap_i64]; omega
      have HE : Hid (letGo s.l u = { s.l with out := s.l.out.drop m, gone := u, sent := max (s.l.sent - m) 0, aGap := 1, acked := true }) := Lib.hid (by unfold letGo; rw [if_neg (fun e => e.elim h1 h2), ← hm]; simp)
      have HOk := Lib.hid (ok_letGo (m := s.mine) (l := s.l) h.ok u)
      have HDl := Lib.hid (fun V (hV : Below w.heap.size w V) => delete_any (h.later hV).row (slv_one vs) m hm0 hmn (by have := h.ok.few; omega))
      have HCl := Lib.hid (fun V (hV : Below w.heap.size w V) => And.intro (h.later hV).c6 (h.later hV).c7)
      have hmz : ¬ (m : Int) ≤ 0 := by omega
      obtain ⟨n, hn⟩ : ∃ n, n = vs.length := ⟨_, rfl⟩
      have HN := Lib.hid hn
      have HMn := Lib.hid hmn
      rw [← hn] at HCl HDl
      have HMm := Lib.hid hm
      clear h hl hmn hn hm0 hm
      have hg0 : ¬ s.l.next ≤ u := h2
      generalize s.l.next = nx at *
      generalize hgg : s.l.gone = g at *
      have HGG := Lib.hid hgg
      generalize hsn : s.l.sent = sn at *
      have HSN := Lib.hid hsn
      clear hgg hsn
      by_cases hsm : sn - (m : Int) < 0
      · have HZ : Hid ((0 : Int) = max (s.l.sent - m) 0) := Lib.hid (by rw [HSN.out]; omega)
        go_enter Try.func22, Try.ntmps22
        go_wp2_with (first
          | (go_at_call 24; refine Calls.mono (by with_reducible exact HNx.out _ (Below.refl _ _)) ?_; rintro e w1 ⟨rfl, hb⟩; have HB := Lib.hid hb; obtain ⟨d6, d7⟩ := HCl.out w1 hb; clear hb)
          | (go_at_call 30; refine Calls.mono (by with_reducible exact HDl.out w1 HB.out) ?_; rintro e w2 ⟨rfl, ho, hm⟩; have HO := Lib.hid ho; have HM := Lib.hid hm; clear ho hm d6 d7; have k := hself2 HX.out HB.out HN.out HM.out; rw [HSN.out, HGG.out] at k; obtain ⟨⟨b5, b6, b7, b8, b14⟩, f5, f6, f7, f8, f14⟩ := k))
        go_end0
        rw [HN.out] at HO HM ⊢
        rw [← HSN.out] at HE
        exact go_end HX.out HB.out HO.out HM.out HMn.out HE.out HOk.out HZ.out
      · have HZ : Hid (sn - (m : Int) = max (s.l.sent - m) 0) := Lib.hid (by rw [HSN.out]; omega)
        go_enter Try.func22, Try.ntmps22
        go_wp2_with (first
          | (go_at_call 24; refine Calls.mono (by with_reducible exact HNx.out _ (Below.refl _ _)) ?_; rintro e w1 ⟨rfl, hb⟩; have HB := Lib.hid hb; obtain ⟨d6, d7⟩ := HCl.out w1 hb; clear hb)
          | (go_at_call 30; refine Calls.mono (by with_reducible exact HDl.out w1 HB.out) ?_; rintro e w2 ⟨rfl, ho, hm⟩; have HO := Lib.hid ho; have HM := Lib.hid hm; clear ho hm d6 d7; have k := hself2 HX.out HB.out HN.out HM.out; rw [HSN.out, HGG.out] at k; obtain ⟨⟨b5, b6, b7, b8, b14⟩, f5, f6, f7, f8, f14⟩ := k))
        go_end0
        rw [HN.out] at HO HM ⊢
        rw [← HSN.out] at HE
        exact go_end HX.out HB.out HO.out HM.out HMn.out HE.out HOk.out HZ.out
end
end Go.Proofs.Ytihkjdoajfjnpaa
