/- The library's Delete at packets; Take, Drop. -/
import Derived.Test.YtbmadhmcnjcdfaaNetG
set_option linter.unusedSimpArgs false
set_option linter.unusedVariables false
namespace Go.Proofs.Ytbmadhmcnjcdfaa
open Go.ChangeShapes Go.WideShapes Go.ChangeAt Go.RowKit Go.Base Go.Net

section
variable {T : TypeId} {F G : Nat → Prop} {w w1 w' : World} {p : Nat} {s : St} {A : Option Addr} {c : Nat} {vs : List PkV} {x : PkV}
def zPk : Value := .agg #[.int .i64 0, .int .i64 0, .int .i64 0, .slice none 0 0]
theorem zeroPk (w : World) : (zeroValue 37).run Try.prog w = .ok zPk w := by kernel_rfl
/-- A row of which the k-th element was taken out, in place. -/
theorem row_del {g k n c : Nat} {xs : List Value} {cur : Array Value} {cs : List Value} (hg : w.heap[g]? = some (.cells cur 37 (0, 0))) (hl : xs.length = n * 4) (hk : k < n) (hn : n ≤ c) (hc : c ≤ maxLen) (hs : cur.size = c * 4) (hx : cur.toList.take (n * 4) = xs) (hcs : cs.length = 4) :
    ((w.setRow g (cur.toList.take (k * 4) ++ xs.drop ((k + 1) * 4) ++ cur.toList.drop (k * 4 + (n - (k + 1)) * 4)).toArray).setRow g
      ((cur.toList.take (k * 4) ++ xs.drop ((k + 1) * 4) ++ cur.toList.drop (k * 4 + (n - (k + 1)) * 4)).toArray.toList.take ((n - 1) * 4) ++ cs ++ (cur.toList.take (k * 4) ++ xs.drop ((k + 1) * 4) ++ cur.toList.drop (k * 4 + (n - (k + 1)) * 4)).toArray.toList.drop ((n - 1) * 4 + 4)).toArray).ownsRow 0 37 4
      (.slice (some ⟨g, 0, none⟩) (n - 1) c) (n - 1) (xs.take (k * 4) ++ xs.drop ((k + 1) * 4)) := by
  have e1 : (xs.take (k * 4)).length = k * 4 := by rw [List.length_take]; omega
  have e2 : (xs.drop ((k + 1) * 4)).length = (n - (k + 1)) * 4 := by rw [List.length_drop]; omega
  have e3 : cur.toList.take (k * 4) = xs.take (k * 4) := by rw [← hx, List.take_take, Nat.min_eq_left (by omega)]
  refine ⟨by rw [List.length_append, e1, e2]; omega, .inr ⟨g, c, _, rfl, Nat.zero_le _, setRow_heap _ g _ _ _ _ (setRow_heap _ g _ _ _ _ hg), by omega, hc, ?_, ?_⟩⟩
  · have e4 : (cur.toList.take (k * 4) ++ xs.drop ((k + 1) * 4) ++ cur.toList.drop (k * 4 + (n - (k + 1)) * 4)).length = c * 4 := by
      simp only [List.length_append, e2, e3, e1, List.length_drop, Array.length_toList, hs]; omega
    simp only [List.size_toArray, List.length_append, List.length_take, List.length_drop] at e4 ⊢
    omega
  · have e5 : (xs.take (k * 4) ++ xs.drop ((k + 1) * 4)).length = (n - 1) * 4 := by rw [List.length_append, e1, e2]; omega
    rw [e3]
    simp only [List.append_assoc]
    rw [List.take_append_of_le_length (by rw [List.length_take]; simp only [List.length_append, e1, e2]; omega), List.take_take, Nat.min_self, ← List.append_assoc, List.take_left' (by rw [e5])]
theorem oper_append_run {P : Program} {o : Oper} {a : Act} {K : Act → World → Prop} {Q : Exit → Act → World → Prop} (s x : Operand) (t : TypeId) (ho : o.op = .call { callee := .builtin .append, args := #[s, x], argTypes := #[t, t] })
    (sv xv v : Value) (W : World) (hs : a.eval s = sv) (hx : a.eval x = xv) (hr : (Builtin.append_ #[t, t] o.type #[sv, xv]).run P w = .ok v W) (h : K (a.put o.dst v) W) : Oper.wp P o a w K Q := by
  unfold Oper.wp execOp
  simp only [ho, resolve, invoke, builtin, Sem.run_bind, Sem.run_pure, Result.andThen_ok, List.map_toArray, List.map_cons, List.map_nil, hs, hx, hr]
  exact h
def DelPost (A : Option Addr) (n c k : Nat) (xs : List Value) (w : World) (e : Ending) (w' : World) : Prop :=
  e = .returned (.slice A (n - 1) c) ∧ w'.ownsRow 0 37 4 (.slice A (n - 1) c) (n - 1) (xs.take (k * 4) ++ xs.drop ((k + 1) * 4)) ∧ Moved (fun j => (Value.slice A n c).ownBlock = some j) w w'
set_option maxHeartbeats 4000000 in
set_option maxRecDepth 20000 in
theorem delete_any {n : Nat} {xs : List Value} (h : w.ownsRow 0 37 4 (.slice A n c) n xs) (h1 : ∀ u ∈ xs, u.oneCell' = true) (k : Nat) (hk : k < n) (hf : n ≤ 4096) :
    Calls Try.prog 32 #[.slice A n c, .int .i64 (k : Int), .int .i64 ((k : Int) + 1)] w (DelPost A n c k xs w) := by
  obtain ⟨hl, h2⟩ := h
  rcases h2 with ⟨h0, h3⟩ | ⟨g, cap, cur, h0, _, hg, hnc, hcm, hs, hx⟩
  · omega
  injection h0 with h0 _ h4
  subst h0; subst h4
  obtain ⟨i0, hinfo, hz0, hzs, hz2⟩ := info_parts (P := Try.prog) (e := 37) (z := zPk) (size := 4) (bytes := 48) (by kernel_rfl)
  -- the append in place
  have hsrc : ∀ j u, (xs.drop ((k + 1) * 4))[j]? = some u → w.cell? ⟨g, (k + 1) * 4 + j, none⟩ = some u := fun j u hu => by
    rw [List.getElem?_drop] at hu
    rw [cell_of_row _ _ _ _ _ _ hg, ← Array.getElem?_toList]
    have hj : (k + 1) * 4 + j < n * 4 := by
      rcases Nat.lt_or_ge ((k + 1) * 4 + j) xs.length with h | h
      · omega
      · rw [List.getElem?_eq_none h] at hu; cases hu
    rw [← hx, List.getElem?_take_of_lt hj] at hu
    exact hu
  have hlen : (xs.drop ((k + 1) * 4)).length = (n - (k + 1)) * i0.size := by rw [List.length_drop, hzs, hl]; omega
  have h1d : ∀ u ∈ xs.drop ((k + 1) * 4), u.oneCell' = true := fun u hu => h1 u (List.mem_of_mem_drop hu)
  obtain ⟨W1, hW1⟩ : ∃ W1, W1 = w.drew.setRow g (cur.toList.take (k * 4) ++ xs.drop ((k + 1) * 4) ++ cur.toList.drop (k * 4 + (n - (k + 1)) * 4)).toArray := ⟨_, rfl⟩
  obtain ⟨m, HNm⟩ : ∃ m, Hid (n = m + 1) := ⟨n - 1, Lib.hid (by omega)⟩
  have HAp : Hid (∀ (ad : Addr) cc ty, (k + 1 < n → ad = ⟨g, (k + 1) * 4, none⟩) → (Builtin.append_ #[48, 48] ty #[.slice (some ⟨g, 0, none⟩) k c, .slice (some ad) (n - (k + 1)) cc]).run Try.prog w.drew = .ok (.slice (some ⟨g, 0, none⟩) m c) W1) := Lib.hid (fun ad cc ty had => by
    have := run_append_room (P := Try.prog) w.drew 48 ty 37 i0 Try.underlying48 hinfo g k c cur hg ad (n - (k + 1)) cc (xs.drop ((k + 1) * 4)) hlen (fun j u hu => by
      by_cases hkn : k + 1 < n
      · rw [had hkn, show (⟨g, (k + 1) * 4, none⟩ : Addr).add j = ⟨g, (k + 1) * 4 + j, none⟩ by unfold Addr.add; split <;> simp_all]
        exact hsrc j u hu
      · have : (xs.drop ((k + 1) * 4)) = [] := List.eq_nil_of_length_eq_zero (by rw [List.length_drop]; omega)
        rw [this] at hu; simp at hu) h1d (by omega) (by rw [hlen, hzs, hs]; omega)
    rw [this, hW1, hlen, hzs, show k + (n - (k + 1)) = m by have := HNm.out; omega])
  have hg1 : W1.heap[g]? = some (.cells (cur.toList.take (k * 4) ++ xs.drop ((k + 1) * 4) ++ cur.toList.drop (k * 4 + (n - (k + 1)) * 4)).toArray 37 (0, 0)) := by rw [hW1]; exact setRow_heap _ g _ _ _ _ hg
  obtain ⟨cs, hcl, hcs⟩ : ∃ cs : List Value, (∀ ty cc, (Builtin.clear_ #[48] ty #[.slice (some ⟨g, (n - 1) * 4, none⟩) 1 cc]).run Try.prog W1 = .ok (.tuple #[]) (W1.setRow g ((cur.toList.take (k * 4) ++ xs.drop ((k + 1) * 4) ++ cur.toList.drop (k * 4 + (n - (k + 1)) * 4)).toArray.toList.take ((n - 1) * 4) ++ cs ++ (cur.toList.take (k * 4) ++ xs.drop ((k + 1) * 4) ++ cur.toList.drop (k * 4 + (n - (k + 1)) * 4)).toArray.toList.drop ((n - 1) * 4 + 4)).toArray)) ∧ cs.length = 4 := by
    have e4 : (cur.toList.take (k * 4) ++ xs.drop ((k + 1) * 4) ++ cur.toList.drop (k * 4 + (n - (k + 1)) * 4)).toArray.size = c * 4 := by
      simp only [List.size_toArray, List.length_append, List.length_take, List.length_drop, Array.length_toList, hs]; omega
    obtain ⟨cs, h1, h2⟩ := run_clear_k (P := Try.prog) W1 48 37 0 zPk 4 Try.underlying48 zeroPk rfl (by decide) (by decide) g ((n - 1) * 4) 1 0 _ 37 hg1 (by rw [e4]; omega)
    refine ⟨cs, fun ty cc => ?_, h2⟩
    rw [Nat.one_mul] at h1
    exact h1
  have HE : Hid (∀ cs2 : List Value, cs2.length = 4 → (W1.setRow g ((cur.toList.take (k * 4) ++ xs.drop ((k + 1) * 4) ++ cur.toList.drop (k * 4 + (n - (k + 1)) * 4)).toArray.toList.take ((n - 1) * 4) ++ cs2 ++ (cur.toList.take (k * 4) ++ xs.drop ((k + 1) * 4) ++ cur.toList.drop (k * 4 + (n - (k + 1)) * 4)).toArray.toList.drop ((n - 1) * 4 + 4)).toArray).ownsRow 0 37 4 (.slice (some ⟨g, 0, none⟩) (n - 1) c) (n - 1) (xs.take (k * 4) ++ xs.drop ((k + 1) * 4))) := Lib.hid (fun cs2 h => by rw [hW1]; exact row_del (w := w.drew) hg hl hk hnc hcm hs hx h)
  have HM : Hid (∀ X, Moved (fun j => (Value.slice (some ⟨g, 0, none⟩) n c).ownBlock = some j) w (W1.setRow g X)) := Lib.hid (fun X => by
    have m : ∀ (V : World) Y, Moved (fun j => j = g) V (V.setRow g Y) := fun V Y => ⟨rfl, rfl, rfl, by simp [World.setRow], fun k _ hn => setRow_other V g k Y hn⟩
    rw [hW1]
    exact (((Moved.refl (fun j => j = g) w).drew.trans (m _ _) (fun _ _ h => h)).trans (m _ _) (fun _ _ h => h)).weaken (fun j _ e => by subst e; rfl))
  obtain ⟨X, hX⟩ : ∃ X, X = ((cur.toList.take (k * 4) ++ xs.drop ((k + 1) * 4) ++ cur.toList.drop (k * 4 + (n - (k + 1)) * 4)).toArray.toList.take ((n - 1) * 4) ++ cs ++ (cur.toList.take (k * 4) ++ xs.drop ((k + 1) * 4) ++ cur.toList.drop (k * 4 + (n - (k + 1)) * 4)).toArray.toList.drop ((n - 1) * 4 + 4)).toArray := ⟨_, rfl⟩
  have HR := Lib.hid (HE.out cs hcs)
  have HWs : Hid (n = k + 1 → W1 = w.drew) := Lib.hid (fun e => by
    rw [hW1]
    have e2 : (cur.toList.take (k * 4) ++ xs.drop ((k + 1) * 4) ++ cur.toList.drop (k * 4 + (n - (k + 1)) * 4)).toArray = cur := by
      rw [List.drop_of_length_le (l := xs) (by omega), show k * 4 + (n - (k + 1)) * 4 = k * 4 by omega]; simp
    rw [e2]; exact setRow_self w.drew g cur _ _ hg)
  rw [← hX] at hcl HR
  unfold maxLen at hcm
  clear hX HE hcs hg1 hW1 h1d hlen hsrc hx hs hg hl h1 hinfo hz0 hzs hz2
  have hkn : (k : Int) + 1 ≤ (n : Int) := by omega
  have hnc' : (n : Int) ≤ (c : Int) := by omega
  have hkc : (k : Int) ≤ (c : Int) := by omega
  have hkz : (0 : Int) ≤ (k : Int) := by omega
  have hmz : (0 : Int) ≤ (m : Int) := by omega
  have hmn : (m : Int) ≤ (n : Int) := by have := HNm.out; omega
  have hcl2 : ∀ ty, (Builtin.clear_ #[48] ty #[.slice (some ⟨g, m * 4, none⟩) (n - m) (c - m)]).run Try.prog W1 = .ok (.tuple #[]) (W1.setRow g X) := fun ty => by
    have := HNm.out
    rw [show n - m = 1 by omega, show m = n - 1 by omega]
    exact hcl ty _
  clear hcl
  go_enter Try.func32, Try.ntmps32
  by_cases hc1 : c = k + 1
  · obtain rfl : n = k + 1 := by omega
    subst hc1
    go_wp2_with fail
    have hka : (k : Int) ≤ (k : Int) + 1 := by omega
    have hkw : IntKind.i64.wrap ((k : Int) + 1) = (k : Int) + 1 := by rw [IntKind.wrap_i64]; omega
    have hkp : (0 : Int) ≤ (k : Int) + 1 := by omega
    have hkt : ((k : Int) + 1).toNat = k + 1 := by omega
    have hWs : W1 = w.drew := by simpa using HWs.out
    rw [hWs] at hcl2 HR HM
    obtain rfl : m = k := by have := HNm.out; omega
    have hcl3 : ∀ ty, (Builtin.clear_ #[48] ty #[.slice (some ⟨g, m * 4, none⟩) 1 1]).run Try.prog w.drew = .ok (.tuple #[]) (w.drew.setRow g X) := fun ty => by have := hcl2 ty; rwa [show m + 1 - m = 1 by omega] at this
    refine wp_region_held_drew (S := (fun _ => True)) (by kernel_rfl) trivial (fun hHeld => ?_)
    refine wpAnyH_take (i := 0) (v := ?vv1) rfl (by kernel_rfl) (by kernel_rfl) (by kernel_rfl) (fun _ _ _ h => h) (Or.inl ⟨by rfl, ?hy1⟩) hHeld ?rr1
    case hy1 => (intro w' hSw; skip; go_simp; try with_reducible rfl)
    try simp only [Act.put, List.setIfInBounds_toArray, List.set_cons_zero, List.set_cons_succ, List.getElem_toArray, List.getElem_cons_succ, List.getElem_cons_zero]
    refine wpAnyH_take (i := 1) (v := ?vv2) rfl (by kernel_rfl) (by kernel_rfl) (by kernel_rfl) (fun _ _ _ h => h) (Or.inl ⟨by rfl, ?hy2⟩) hHeld ?rr2
    case hy2 => (intro w' hSw; skip; go_simp; try with_reducible rfl)
    try simp only [Act.put, List.setIfInBounds_toArray, List.set_cons_zero, List.set_cons_succ, List.getElem_toArray, List.getElem_cons_succ, List.getElem_cons_zero]
    refine wpAnyH_take (i := 2) (v := ?vv3) rfl (by kernel_rfl) (by kernel_rfl) (by kernel_rfl) (fun _ _ _ h => h) (Or.inl ⟨by rfl, ?hy3⟩) hHeld ?rr3
    case hy3 => (intro w' hSw; skip; go_simp; try with_reducible rfl)
    try simp only [Act.put, List.setIfInBounds_toArray, List.set_cons_zero, List.set_cons_succ, List.getElem_toArray, List.getElem_cons_succ, List.getElem_cons_zero]
    refine wpAnyH_take (i := 3) (v := ?vv4) rfl (by kernel_rfl) (by kernel_rfl) (by kernel_rfl) (fun _ _ _ h => h) (Or.inl ⟨by rfl, ?hy4⟩) hHeld ?rr4
    case hy4 => (intro w' hSw; skip; go_simp; try with_reducible rfl)
    try simp only [Act.put, List.setIfInBounds_toArray, List.set_cons_zero, List.set_cons_succ, List.getElem_toArray, List.getElem_cons_succ, List.getElem_cons_zero]
    refine wpAnyH_take (i := 4) (v := ?vv5) rfl (by kernel_rfl) (by kernel_rfl) (by kernel_rfl) (fun _ _ _ h => h) (Or.inl ⟨by rfl, ?hy5⟩) hHeld ?rr5
    case hy5 => (intro w' hSw; skip; go_simp; try with_reducible rfl)
    try simp only [Act.put, List.setIfInBounds_toArray, List.set_cons_zero, List.set_cons_succ, List.getElem_toArray, List.getElem_cons_succ, List.getElem_cons_zero]
    refine wpAnyH_take (i := 5) (v := ?vv6) rfl (by kernel_rfl) (by kernel_rfl) (by kernel_rfl) (fun _ _ _ h => h) (Or.inl ⟨by rfl, ?hy6⟩) hHeld ?rr6
    case hy6 => (intro w' hSw; skip; go_simp; try with_reducible rfl)
    try simp only [Act.put, List.setIfInBounds_toArray, List.set_cons_zero, List.set_cons_succ, List.getElem_toArray, List.getElem_cons_succ, List.getElem_cons_zero]
    refine wpAnyH_ready (rs := [6]) (by kernel_rfl) (by simp) ?_
    refine AllReadyH.cons rfl (fun K hK => ?_) AllReadyH.nil
    try rw [if_pos (by rfl)]
    go_simp
    refine hK.out _ _ trivial (fun hHeld2 => ?_)
    clear hK K hHeld
    have hHeld := hHeld2
    clear hHeld2
    try simp only [Act.put, List.setIfInBounds_toArray, List.set_cons_zero, List.set_cons_succ, List.getElem_toArray, List.getElem_cons_succ, List.getElem_cons_zero]
    refine wpAnyH_take (i := 7) (v := ?vv7) rfl (by kernel_rfl) (by kernel_rfl) (by kernel_rfl) (fun _ _ _ h => h) (Or.inl ⟨by rfl, ?hy7⟩) hHeld ?rr7
    case hy7 => (intro w' hSw; skip; go_simp; try with_reducible rfl)
    try simp only [Act.put, List.setIfInBounds_toArray, List.set_cons_zero, List.set_cons_succ, List.getElem_toArray, List.getElem_cons_succ, List.getElem_cons_zero]
    refine wpAnyH_done (by kernel_rfl) ?_ _
    clear hHeld
    go_wp2
    go_ret
    exact ⟨rfl, HR.out, HM.out _⟩
  · go_wp2_with fail
    have hcmne : ¬ c = m := by have := HNm.out; omega
    have hkw : IntKind.i64.wrap ((k : Int) + 1) = (k : Int) + 1 := by rw [IntKind.wrap_i64]; omega
    have hkp : (0 : Int) ≤ (k : Int) + 1 := by omega
    have hkt : ((k : Int) + 1).toNat = k + 1 := by omega
    refine wp_region_held_drew (S := (fun _ => True)) (by kernel_rfl) trivial (fun hHeld => ?_)
    refine wpAnyH_take (i := 0) (v := ?vv8) rfl (by kernel_rfl) (by kernel_rfl) (by kernel_rfl) (fun _ _ _ h => h) (Or.inl ⟨by rfl, ?hy8⟩) hHeld ?rr8
    case hy8 => (intro w' hSw; skip; go_simp; try with_reducible rfl)
    try simp only [Act.put, List.setIfInBounds_toArray, List.set_cons_zero, List.set_cons_succ, List.getElem_toArray, List.getElem_cons_succ, List.getElem_cons_zero]
    refine wpAnyH_take (i := 1) (v := ?vv9) rfl (by kernel_rfl) (by kernel_rfl) (by kernel_rfl) (fun _ _ _ h => h) (Or.inl ⟨by rfl, ?hy9⟩) hHeld ?rr9
    case hy9 => (intro w' hSw; skip; go_simp; try with_reducible rfl)
    try simp only [Act.put, List.setIfInBounds_toArray, List.set_cons_zero, List.set_cons_succ, List.getElem_toArray, List.getElem_cons_succ, List.getElem_cons_zero]
    refine wpAnyH_take (i := 2) (v := ?vv10) rfl (by kernel_rfl) (by kernel_rfl) (by kernel_rfl) (fun _ _ _ h => h) (Or.inl ⟨by rfl, ?hy10⟩) hHeld ?rr10
    case hy10 => (intro w' hSw; skip; go_simp; try with_reducible rfl)
    try simp only [Act.put, List.setIfInBounds_toArray, List.set_cons_zero, List.set_cons_succ, List.getElem_toArray, List.getElem_cons_succ, List.getElem_cons_zero]
    refine wpAnyH_take (i := 3) (v := ?vv11) rfl (by kernel_rfl) (by kernel_rfl) (by kernel_rfl) (fun _ _ _ h => h) (Or.inl ⟨by rfl, ?hy11⟩) hHeld ?rr11
    case hy11 => (intro w' hSw; skip; go_simp; try with_reducible rfl)
    try simp only [Act.put, List.setIfInBounds_toArray, List.set_cons_zero, List.set_cons_succ, List.getElem_toArray, List.getElem_cons_succ, List.getElem_cons_zero]
    refine wpAnyH_take (i := 4) (v := ?vv12) rfl (by kernel_rfl) (by kernel_rfl) (by kernel_rfl) (fun _ _ _ h => h) (Or.inl ⟨by rfl, ?hy12⟩) hHeld ?rr12
    case hy12 => (intro w' hSw; skip; go_simp; try with_reducible rfl)
    try simp only [Act.put, List.setIfInBounds_toArray, List.set_cons_zero, List.set_cons_succ, List.getElem_toArray, List.getElem_cons_succ, List.getElem_cons_zero]
    refine wpAnyH_take (i := 5) (v := ?vv13) rfl (by kernel_rfl) (by kernel_rfl) (by kernel_rfl) (fun _ _ _ h => h) (Or.inl ⟨by rfl, ?hy13⟩) hHeld ?rr13
    case hy13 => (intro w' hSw; skip; go_simp; try with_reducible rfl)
    try simp only [Act.put, List.setIfInBounds_toArray, List.set_cons_zero, List.set_cons_succ, List.getElem_toArray, List.getElem_cons_succ, List.getElem_cons_zero]
    refine wpAnyH_ready (rs := [6]) (by kernel_rfl) (by simp) ?_
    refine AllReadyH.cons rfl (fun K hK => ?_) AllReadyH.nil
    try rw [if_pos (by rfl)]
    refine oper_append_run (.tmp 22) (.tmp 25) 48 rfl _ _ _ _ rfl rfl (HAp.out ⟨g, (k + 1) * 4, none⟩ (c - (k + 1)) _ (fun h => rfl)) ?_
    refine hK.out _ _ trivial (fun hHeld2 => ?_)
    clear hK K hHeld
    have hHeld := hHeld2
    clear hHeld2
    try simp only [Act.put, List.setIfInBounds_toArray, List.set_cons_zero, List.set_cons_succ, List.getElem_toArray, List.getElem_cons_succ, List.getElem_cons_zero]
    refine wpAnyH_take (i := 7) (v := ?vv14) rfl (by kernel_rfl) (by kernel_rfl) (by kernel_rfl) (fun _ _ _ h => h) (Or.inl ⟨by rfl, ?hy14⟩) hHeld ?rr14
    case hy14 => (intro w' hSw; skip; go_simp; try with_reducible rfl)
    try simp only [Act.put, List.setIfInBounds_toArray, List.set_cons_zero, List.set_cons_succ, List.getElem_toArray, List.getElem_cons_succ, List.getElem_cons_zero]
    refine wpAnyH_done (by kernel_rfl) ?_ _
    clear hHeld
    go_wp2
    go_ret
    exact ⟨(by have := HNm.out; rw [show n - 1 = m by omega]; rfl), HR.out, HM.out _⟩

theorem map_eraseIdx {α β : Type} (f : α → β) : ∀ (l : List α) (k : Nat), (l.eraseIdx k).map f = (l.map f).eraseIdx k
  | [], _ => rfl
  | _ :: _, 0 => rfl
  | a :: l, k + 1 => by simp only [List.eraseIdx_cons_succ, List.map_cons, map_eraseIdx f l k]
theorem cellsP_erase (l : List PkV) (k : Nat) (h : k < l.length) : (cellsP l).take (k * 4) ++ (cellsP l).drop ((k + 1) * 4) = cellsP (l.eraseIdx k) := by
  rw [cellsP_take l k (by omega), cellsP_drop l (k + 1) (by omega), ← cellsP_append, List.eraseIdx_eq_take_drop_succ]
def TakePost (T : TypeId) (F : Nat → Prop) (p : Nat) (s : St) (i : Int) (w : World) (e : Ending) (w' : World) : Prop :=
  Moved F w w' ∧ (∀ q, s.l[idx s.l i]? = some q → NT T (fun k => F k ∨ w.heap.size ≤ k) w' p (takeS s i) ∧ ∃ A c, e = .returned (.tuple #[.agg #[.int .i64 q.id, .int .i64 q.fr, .int .i64 q.dst, .slice A q.body.length c], .int .i64 0]) ∧ Byt w' A q.body) ∧
    (s.l[idx s.l i]? = none → NT T (fun k => F k ∨ w.heap.size ≤ k) w' p s ∧ e = .returned (.tuple #[.agg #[.int .i64 0, .int .i64 0, .int .i64 0, .slice none 0 0], .int .i64 4]))
set_option maxHeartbeats 4000000 in
set_option maxRecDepth 20000 in
theorem take_any (h : NetX T w F p s A c vs) (i : Int) : Calls Try.prog 12 #[.pointer (some ⟨p, 0, none⟩), .int .i64 i] w (TakePost T F p s i w) := by
  have HB0 := Lib.hid (below_alloc w (.cells #[.int .i64 0, .int .i64 0, .int .i64 0, .slice none 0 0] 37))
  obtain ⟨W0, hW0⟩ : ∃ W0, W0 = w.alloc (.cells #[.int .i64 0, .int .i64 0, .int .i64 0, .slice none 0 0] 37) := ⟨_, rfl⟩
  have k0 : W0.heap[w.heap.size]? = some (.cells #[.int .i64 0, .int .i64 0, .int .i64 0, .slice none 0 0] 37 (0, 0)) := by rw [hW0]; exact heap_new w _
  rw [← hW0] at HB0
  have HK0 := Lib.hid k0
  have HW0 := Lib.hid hW0
  have h0 := h.later HB0.out
  have HFd := Lib.hid (find_any h0 i)
  have HX := Lib.hid h
  have HX0 := Lib.hid h0
  have hlen := h.len
  have hfew := h.few
  clear hW0 k0
  by_cases hI : idx s.l i < s.l.length
  · obtain ⟨k, hk⟩ : ∃ k, k = idx s.l i := ⟨_, rfl⟩
    have hI2 : k < s.l.length := by rw [hk]; exact hI
    have hkv : k < vs.length := by omega
    have he : vs[k].p = s.l[k] := by simp only [← h.is, List.getElem_map]
    have HFd2 : Hid (Calls Try.prog 31 #[.pointer (some ⟨p, 0, none⟩), .int .i64 i] W0 fun e w1 => e = .returned (.tuple #[.int .i64 (k : Int), .int .i64 0]) ∧ Below W0.heap.size W0 w1) := Lib.hid (HFd.out.mono fun e w1 ⟨hb, hr⟩ => by
      rw [if_pos hI, ← hk] at hr; exact ⟨hr, hb⟩)
    have HCl := Lib.hid (fun V (hV : Below W0.heap.size W0 V) => (h0.later hV).cells)
    have hkn : (k : Int) < (vs.length : Int) := by omega
    have hkz : (0 : Int) ≤ (k : Int) := by omega
    obtain ⟨g, rfl⟩ : ∃ g, A = some ⟨g, 0, none⟩ := by obtain ⟨g, e, _⟩ := rowP_at h.row hkv; exact ⟨g, e⟩
    have HAt2 : Hid (∀ V, Below W0.heap.size W0 V → V.cell? ⟨g, k * 4, none⟩ = some (.int .i64 vs[k].p.id) ∧ V.cell? ⟨g, k * 4 + 1, none⟩ = some (.int .i64 vs[k].p.fr) ∧ V.cell? ⟨g, k * 4 + 2, none⟩ = some (.int .i64 vs[k].p.dst) ∧ V.cell? ⟨g, k * 4 + 3, none⟩ = some (.slice vs[k].A vs[k].p.body.length vs[k].c)) := Lib.hid (fun V hV => by
      obtain ⟨g', e, h1⟩ := rowP_at (h0.later hV).row hkv
      injection e with e; injection e with e; subst e
      exact h1)
    -- the world behind the change
    have HD : Hid (∀ V, Below W0.heap.size W0 V → Calls Try.prog 32 #[.slice (some ⟨g, 0, none⟩) vs.length c, .int .i64 (k : Int), .int .i64 ((k : Int) + 1)] V fun e V' => e = .returned (.slice (some ⟨g, 0, none⟩) (vs.length - 1) c) ∧ Moved (fun j => F j ∧ j < w.heap.size) V V' ∧ V'.heap[p]? = some (.cells #[.int .i64 s.places, .slice (some ⟨g, 0, none⟩) vs.length c, .int .i64 s.last, .int .i64 s.lost] T (0, 0)) ∧
        NT T (fun k => F k ∧ k < w.heap.size) (V'.setCell ⟨p, 1, none⟩ (.slice (some ⟨g, 0, none⟩) (vs.length - 1) c)) p (takeS s i) ∧ Byt (V'.setCell ⟨p, 1, none⟩ (.slice (some ⟨g, 0, none⟩) (vs.length - 1) c)) vs[k].A vs[k].p.body) := Lib.hid (fun V hV => by
      have hVx := (h0.later hV).tightTo h
      refine (delete_any hVx.row (cellsP_one _) k hkv hVx.few).mono fun e V' ⟨he2, hr, hm⟩ => ?_
      have hp : V'.heap[p]? = some (.cells #[.int .i64 s.places, .slice (some ⟨g, 0, none⟩) vs.length c, .int .i64 s.last, .int .i64 s.lost] T (0, 0)) := hm.heap hVx.self (fun e => own_ne hVx.row hVx.self (Ne.symm hVx.ty.1) e)
      have hb3 : ∀ x ∈ vs, BodV V' (fun k => F k ∧ k < w.heap.size) x := fun x hx2 => by
        have hb2 := hVx.bod x hx2
        exact ⟨own_moved hb2.1 hm (fun j hj e => by
          rcases own_parts hb2.1 hVx.row (by decide) with h1 | h1
          · rw [h1] at hj; cases hj
          · exact h1 (hj.trans e.symm)), hb2.2⟩
      refine ⟨he2, hm.weaken (fun j _ e => hVx.inF.2 j e), hp, ⟨some ⟨g, 0, none⟩, c, vs.eraseIdx k, ?_⟩, byt_setCell (hb3 _ (List.getElem_mem _)).byt (cell_of_row _ _ 1 _ _ _ hp) (fun _ h => nomatch h)⟩
      have hl : (vs.eraseIdx k).length = vs.length - 1 := List.length_eraseIdx_of_lt hkv
      refine ⟨good_take h.good i, ?_, ?_, ?_, ⟨hVx.inF.1, fun j hj => hVx.inF.2 j hj⟩, fun x hx => ?_, hVx.ty⟩
      · show (vs.eraseIdx k).map (·.p) = s.l.eraseIdx (idx s.l i)
        rw [← hk, map_eraseIdx, h.is]
      · rw [heap_set hp 1 _, hl]; rfl
      · rw [hl]
        rw [cellsP_erase vs k hkv] at hr
        exact own_setSelf hr hp hVx.ty.1 _
      · exact (hb3 x ((List.eraseIdx_sublist ..).subset hx)).setSelf hp hVx.ty.2 _)
    have HI := Lib.hid hI
    have HEz : Hid (s.l[idx s.l i]? = some vs[k].p) := Lib.hid (by rw [he]; subst hk; exact List.getElem?_eq_getElem hI)
    obtain ⟨z, hz⟩ : ∃ z, z = vs[k] := ⟨_, rfl⟩
    rw [← hz] at HAt2 HD HEz
    have HPl : Hid (p < w.heap.size) := Lib.hid h.lt
    have HZw : Hid (w.heap.size < W0.heap.size) := Lib.hid (heap_lt HK0.out)
    obtain ⟨n, hn⟩ : ∃ n, n = vs.length := ⟨_, rfl⟩
    rw [← hn] at hkn hfew HCl HD
    clear h h0 hI hI2 hlen HFd he hk hz hn hkv
    go_enter Try.func12, Try.ntmps12
    go_wp2_with (first
      | rw [← HW0.out]
      | (go_at_call 31; refine Calls.mono HFd2.out ?_; rintro e w1 ⟨rfl, hb⟩; have HB := Lib.hid hb; obtain ⟨c0, c1, c2, c3⟩ := HCl.out w1 hb; obtain ⟨r0, r1, r2, r3⟩ := HAt2.out w1 hb; have hpw1 : p < w1.heap.size := Nat.lt_of_lt_of_le HPl.out (Nat.le_trans HB0.out.size hb.size); clear hb)
      | (go_at_call 32; refine Calls.mono (HD.out _ (HB.out.alloc HB.out.size (.cells #[.int .i64 z.p.id, .int .i64 z.p.fr, .int .i64 z.p.dst, .slice z.A z.p.body.length z.c] 37))) ?_; rintro e w3 ⟨rfl, hm3, hp3, hn3, hy3⟩; have hp31 : w3.cell? ⟨p, 1, none⟩ = some (.slice (some ⟨g, 0, none⟩) n c) := cell_of_row _ _ 1 _ _ _ hp3; have hf31 : w3.frozen? ⟨p, 1, none⟩ = false := (cells_of_heap hp3).2 1; have k8 := hm3.heap (heap_new w1 (.cells #[.int .i64 z.p.id, .int .i64 z.p.fr, .int .i64 z.p.dst, .slice z.A z.p.body.length z.c] 37)) (fun h => absurd h.2 (Nat.not_lt_of_le (Nat.le_trans HB0.out.size HB.out.size))); have k4 := hm3.heap (heap_old (.cells #[.int .i64 z.p.id, .int .i64 z.p.fr, .int .i64 z.p.dst, .slice z.A z.p.body.length z.c] 37) (heap_lt ((HB.out.block _ (heap_lt HK0.out)).trans HK0.out)) ((HB.out.block _ (heap_lt HK0.out)).trans HK0.out)) (fun h => Nat.lt_irrefl _ h.2); have HM3 := Lib.hid hm3; have HN3 := Lib.hid hn3; have HY3 := Lib.hid hy3; have HK4 := Lib.hid k4; have HP3 := Lib.hid hp3; have l81 : w.heap.size < w1.heap.size := Nat.lt_of_lt_of_le HZw.out HB.out.size; have l8p : ¬ w1.heap.size = p := Nat.ne_of_gt (Nat.lt_of_lt_of_le HPl.out (Nat.le_trans HB0.out.size HB.out.size)); have l4p : ¬ w.heap.size = p := Nat.ne_of_gt HPl.out; obtain ⟨u8, _⟩ := cells_of_heap k8; have u80 := u8 0; have u81 := u8 1; have u82 := u8 2; have u83 := u8 3; obtain ⟨u4, v4⟩ := cells_of_heap k4; have u40 := u4 0; have u41 := u4 1; have u42 := u4 2; have u43 := u4 3; have v40 := v4 0; have v41 := v4 1; have v42 := v4 2; have v43 := v4 3; clear hm3 hp3 hn3 hy3 k8 k4 u8 u4 v4))
    have b0 : (w3.setCell ⟨p, 1, none⟩ (.slice (some ⟨g, 0, none⟩) (n - 1) c)).heap[w.heap.size]? = some (.cells #[.int .i64 0, .int .i64 0, .int .i64 0, .slice none 0 0] 37 (0, 0)) := (Below.heap_setCell w3 _ _ w.heap.size l4p).trans HK4.out
    have HMw : Hid (Moved F w (w3.setCell ⟨p, 1, none⟩ (.slice (some ⟨g, 0, none⟩) (n - 1) c))) := Lib.hid ((((Below.movedNew HB0.out).trans (q := fun _ => False) (Below.movedNew (HB.out.alloc HB.out.size _)) (fun _ _ h => h.elim)).trans HM3.out (fun _ _ h => h.1)).setCell (.inr HX.out.inF.1) _)
    obtain ⟨W4, hW4⟩ : ∃ W4, W4 = w3.setCell ⟨p, 1, none⟩ (.slice (some ⟨g, 0, none⟩) (n - 1) c) := ⟨_, rfl⟩
    rw [← hW4] at b0 HMw HN3 HY3 ⊢
    clear hW4 u80 u81 u82 u83 u40 u41 u42 u43 v40 v41 v42 v43 hp31 hf31 c0 c1 c2 c3 r0 r1 r2 r3
    have b1 := heap_set b0 0 (.int .i64 z.p.id)
    have b2 := heap_set b1 1 (.int .i64 z.p.fr)
    have b3 := heap_set b2 2 (.int .i64 z.p.dst)
    have b4 := heap_set b3 3 (.slice z.A z.p.body.length z.c)
    have y1 := byt_setCell (u := .int .i64 z.p.id) HY3.out (cell_of_row _ _ 0 _ _ _ b0) (fun _ h => nomatch h)
    have y2 := byt_setCell (u := .int .i64 z.p.fr) y1 (cell_of_row _ _ 1 _ _ _ b1) (fun _ h => nomatch h)
    have y3 := byt_setCell (u := .int .i64 z.p.dst) y2 (cell_of_row _ _ 2 _ _ _ b2) (fun _ h => nomatch h)
    have y4 := byt_setCell (u := .slice z.A z.p.body.length z.c) y3 (cell_of_row _ _ 3 _ _ _ b3) (fun _ h => nomatch h)
    have m4 : Moved (fun k => k = w.heap.size) W4 ((((W4.setCell ⟨w.heap.size, 0, none⟩ (.int .i64 z.p.id)).setCell ⟨w.heap.size, 1, none⟩ (.int .i64 z.p.fr)).setCell ⟨w.heap.size, 2, none⟩ (.int .i64 z.p.dst)).setCell ⟨w.heap.size, 3, none⟩ (.slice z.A z.p.body.length z.c)) :=
      ((((Moved.refl (fun k => k = w.heap.size) W4).setCell (.inr rfl) _).setCell (.inr rfl) _).setCell (.inr rfl) _).setCell (.inr rfl) _
    have mw : Moved F w ((((W4.setCell ⟨w.heap.size, 0, none⟩ (.int .i64 z.p.id)).setCell ⟨w.heap.size, 1, none⟩ (.int .i64 z.p.fr)).setCell ⟨w.heap.size, 2, none⟩ (.int .i64 z.p.dst)).setCell ⟨w.heap.size, 3, none⟩ (.slice z.A z.p.body.length z.c)) :=
      (((HMw.out.setCell (.inl (Nat.le_refl _)) _).setCell (.inl (Nat.le_refl _)) _).setCell (.inl (Nat.le_refl _)) _).setCell (.inl (Nat.le_refl _)) _
    obtain ⟨Z, hZ⟩ : ∃ Z, Z = (((W4.setCell ⟨w.heap.size, 0, none⟩ (.int .i64 z.p.id)).setCell ⟨w.heap.size, 1, none⟩ (.int .i64 z.p.fr)).setCell ⟨w.heap.size, 2, none⟩ (.int .i64 z.p.dst)).setCell ⟨w.heap.size, 3, none⟩ (.slice z.A z.p.body.length z.c) := ⟨_, rfl⟩
    rw [← hZ] at b4 y4 m4 mw ⊢
    have z0 : Z.cell? ⟨w.heap.size, 0, none⟩ = some (.int .i64 z.p.id) := cell_of_row _ _ 0 _ _ _ b4
    have z1 : Z.cell? ⟨w.heap.size, 1, none⟩ = some (.int .i64 z.p.fr) := cell_of_row _ _ 1 _ _ _ b4
    have z2 : Z.cell? ⟨w.heap.size, 2, none⟩ = some (.int .i64 z.p.dst) := cell_of_row _ _ 2 _ _ _ b4
    have z3 : Z.cell? ⟨w.heap.size, 3, none⟩ = some (.slice z.A z.p.body.length z.c) := cell_of_row _ _ 3 _ _ _ b4
    have HY := Lib.hid y4
    have HN := Lib.hid ((HN3.out.kept m4 (fun k hk e => by have := hk.2; omega)).wide (G := fun k => F k ∨ w.heap.size ≤ k) (fun k hk => .inl hk.1))
    clear hZ b0 b1 b2 b3 b4 y1 y2 y3 y4 m4
    refine bodyPost_ret (v := .tuple #[.agg #[.int .i64 z.p.id, .int .i64 z.p.fr, .int .i64 z.p.dst, .slice z.A z.p.body.length z.c], .int .i64 0]) (by simp [results, Try.results12, go_sem, z0, z1, z2, z3]) rfl ⟨mw, ?_⟩
    refine ⟨fun q hq => ?_, fun hq => ?_⟩
    · rw [HEz.out] at hq
      obtain rfl := Option.some.inj hq
      exact ⟨HN.out, z.A, z.c, rfl, HY.out⟩
    · rw [HEz.out] at hq; cases hq
  · have HFd2 : Hid (Calls Try.prog 31 #[.pointer (some ⟨p, 0, none⟩), .int .i64 i] W0 fun e w1 => e = .returned (.tuple #[.int .i64 0, .int .i64 4]) ∧ Below W0.heap.size W0 w1) := Lib.hid (HFd.out.mono fun e w1 ⟨hb, hr⟩ => by
      rw [if_neg hI] at hr; exact ⟨hr, hb⟩)
    have HI := Lib.hid hI
    clear h h0 hI hlen HFd
    go_enter Try.func12, Try.ntmps12
    go_wp2_with (first
      | rw [← HW0.out]
      | (go_at_call 31; refine Calls.mono HFd2.out ?_; rintro e w1 ⟨rfl, hb⟩; have HB := Lib.hid hb; have k1 := (hb.block _ (heap_lt HK0.out)).trans HK0.out; have HK1 := Lib.hid k1; obtain ⟨u0, v0⟩ := cells_of_heap k1; have u00 := u0 0; have u01 := u0 1; have u02 := u0 2; have u03 := u0 3; have v00 := v0 0; have v01 := v0 1; have v02 := v0 2; have v03 := v0 3; clear hb k1 u0 v0))
    have kz := heap_set (heap_set (heap_set (heap_set HK1.out 0 (.int .i64 0)) 1 (.int .i64 0)) 2 (.int .i64 0)) 3 (.slice none 0 0)
    have hbz : Below w.heap.size w ((((w1.setCell ⟨w.heap.size, 0, none⟩ (.int .i64 0)).setCell ⟨w.heap.size, 1, none⟩ (.int .i64 0)).setCell ⟨w.heap.size, 2, none⟩ (.int .i64 0)).setCell ⟨w.heap.size, 3, none⟩ (.slice none 0 0)) :=
      ((((HB0.out.trans (HB.out.mono HB0.out.size)).setCell (Nat.le_refl _) _).setCell (Nat.le_refl _) _).setCell (Nat.le_refl _) _).setCell (Nat.le_refl _) _
    obtain ⟨Z, hZ⟩ : ∃ Z, Z = (((w1.setCell ⟨w.heap.size, 0, none⟩ (.int .i64 0)).setCell ⟨w.heap.size, 1, none⟩ (.int .i64 0)).setCell ⟨w.heap.size, 2, none⟩ (.int .i64 0)).setCell ⟨w.heap.size, 3, none⟩ (.slice none 0 0) := ⟨_, rfl⟩
    rw [← hZ] at kz hbz ⊢
    have z0 : Z.cell? ⟨w.heap.size, 0, none⟩ = some (.int .i64 0) := cell_of_row _ _ 0 _ _ _ kz
    have z1 : Z.cell? ⟨w.heap.size, 1, none⟩ = some (.int .i64 0) := cell_of_row _ _ 1 _ _ _ kz
    have z2 : Z.cell? ⟨w.heap.size, 2, none⟩ = some (.int .i64 0) := cell_of_row _ _ 2 _ _ _ kz
    have z3 : Z.cell? ⟨w.heap.size, 3, none⟩ = some (.slice none 0 0) := cell_of_row _ _ 3 _ _ _ kz
    clear hZ kz u00 u01 u02 u03 v00 v01 v02 v03
    refine bodyPost_ret (v := .tuple #[.agg #[.int .i64 0, .int .i64 0, .int .i64 0, .slice none 0 0], .int .i64 4]) (by simp [results, Try.results12, go_sem, z0, z1, z2, z3]) rfl ⟨Below.movedNew hbz, ?_⟩
    have hnone : s.l[idx s.l i]? = none := List.getElem?_eq_none (Nat.le_of_not_lt HI.out)
    refine ⟨fun q hq => ?_, fun _ => ⟨HX.out.stay hbz, rfl⟩⟩
    rw [hnone] at hq; cases hq
set_option maxHeartbeats 2000000 in
theorem drop_any (h : NetX T w F p s A c vs) (i : Int) (hk2 : s.lost + 1 ≤ 9223372036854775807) :
    Calls Try.prog 15 #[.pointer (some ⟨p, 0, none⟩), .int .i64 i] w (OpN T F p (dropS s i).2 (.int .i64 (dropS s i).1) w) := by
  have HT := Lib.hid (take_any h i)
  have g1 := h.good.lost0
  have HFp := Lib.hid h.inF.1
  clear h
  by_cases hI : idx s.l i < s.l.length
  · have HT2 : Hid (Calls Try.prog 12 #[.pointer (some ⟨p, 0, none⟩), .int .i64 i] w fun e w1 => ∃ (a b c : Int) (A' : Option Addr) (n c' : Nat), e = .returned (.tuple #[.agg #[.int .i64 a, .int .i64 b, .int .i64 c, .slice A' n c'], .int .i64 0]) ∧ NT T (fun k => F k ∨ w.heap.size ≤ k) w1 p (takeS s i) ∧ Moved F w w1) := Lib.hid (HT.out.mono fun e w1 ⟨hm, hr⟩ => by
      obtain ⟨hn, A', c', he, _⟩ := hr.1 _ (List.getElem?_eq_getElem hI)
      exact ⟨_, _, _, _, _, _, he, hn, hm⟩)
    have HE : Hid (dropS s i = (0, { takeS s i with lost := s.lost + 1 })) := Lib.hid (by unfold dropS; rw [if_pos hI])
    clear HT hI
    go_enter Try.func15, Try.ntmps15
    go_wp2_with (go_at_call 12; refine Calls.mono HT2.out ?_; rintro e w1 ⟨a, b, d, A1, n1, c1, rfl, ⟨A2, c2, vs2, hx⟩, hm⟩; have HX := Lib.hid hx; have q3 := (hx.cells).2.2.2; have f3 := hx.free 3; have hp1 : p < w1.heap.size := hx.lt; have HM := Lib.hid hm; clear hx hm; simp only [takeS] at q3)
    go_ret
    rw [HE.out]
    exact ⟨rfl, ⟨A2, c2, vs2, (HX.out.setLost (s.lost + 1) (by show s.lost ≤ s.lost + 1; omega)).later (below_alloc _ _)⟩, (HM.out.setCell (.inr HFp.out) _).trans (q := fun _ => False) (Below.movedNew (below_alloc _ _)) (fun _ _ h => h.elim)⟩
  · have HT2 : Hid (Calls Try.prog 12 #[.pointer (some ⟨p, 0, none⟩), .int .i64 i] w fun e w1 => e = .returned (.tuple #[.agg #[.int .i64 0, .int .i64 0, .int .i64 0, .slice none 0 0], .int .i64 4]) ∧ NT T (fun k => F k ∨ w.heap.size ≤ k) w1 p s ∧ Moved F w w1) := Lib.hid (HT.out.mono fun e w1 ⟨hm, hr⟩ => by
      have hr := hr.2 (List.getElem?_eq_none (Nat.le_of_not_lt hI))
      exact ⟨hr.2, hr.1, hm⟩)
    have HE : Hid (dropS s i = (4, s)) := Lib.hid (by unfold dropS; rw [if_neg hI])
    clear HT hI
    go_enter Try.func15, Try.ntmps15
    go_wp2_with (go_at_call 12; refine Calls.mono HT2.out ?_; rintro e w1 ⟨rfl, hn, hm⟩; have HN := Lib.hid hn; have HM := Lib.hid hm; clear hn hm)
    go_ret
    rw [HE.out]
    exact ⟨rfl, HN.out.later (below_alloc _ _), HM.out.trans (q := fun _ => False) (Below.movedNew (below_alloc _ _)) (fun _ _ h => h.elim)⟩
end
end Go.Proofs.Ytbmadhmcnjcdfaa
