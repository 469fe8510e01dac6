/- Package queue: a row's first timer; the last one taken away. -/
import Derived.Test.YtkdfkhebjhnbmaaQueD
set_option linter.unusedSimpArgs false
set_option linter.unusedVariables false
namespace Go.Proofs.Ytkdfkhebjhnbmaa
open Go.ChangeShapes Go.WideShapes Go.ChangeAt Go.RowKit Go.Base Go.Que

def tmV (t : Tm) : Value := .agg #[.int .i64 t.at_, .int .i64 t.id, .int .i64 t.turn]
section
variable {w w' : World} {b : Nat} {R : Rest} {A : Option Addr} {n c : Nat} {f : Nat → Tm}
set_option maxHeartbeats 1000000 in
theorem first_any (h : RowX w b R A n c f) (hn0 : 0 < n) : Calls Try.prog 62 #[.pointer (some ⟨b, 0, none⟩)] w fun e w' => e = .returned (tmV (f 0)) ∧ Below w.heap.size w w' := by
  have h1 := h.cell
  obtain ⟨g, rfl, i0, i1, i2⟩ := h.at_ hn0
  have hn := h.few
  have hb : b < w.heap.size := World.block_lt_of_cell? w _ h1
  have hg : g < w.heap.size := World.block_lt_of_cell? w _ i0
  rw [Nat.zero_mul] at i0 i1 i2
  rw [Nat.zero_add] at i1 i2
  obtain ⟨a, ha⟩ : ∃ a, a = f 0 := ⟨_, rfl⟩
  rw [← ha] at i0 i1 i2 ⊢
  clear ha h
  go_enter Try.func62, Try.ntmps62
  go_wp2
  exact bodyPost_ret (v := tmV a) (by simp [results, Try.results62, go_sem, tmV]) rfl ⟨rfl, (Below.refl _ _).alloc (Nat.le_refl _) _⟩
theorem tms_less {xs : List Value} {n m : Nat} {f : Nat → Tm} (h : Tms xs n f) (hm : m ≤ n) : Tms (xs.take (m * 3)) m f := fun k hk => by
  obtain ⟨h0, h1, h2⟩ := h k (by omega)
  rw [List.getElem?_take_of_lt (by omega), List.getElem?_take_of_lt (by omega), List.getElem?_take_of_lt (by omega)]
  exact ⟨h0, h1, h2⟩
theorem own_less {g : Nat} {xs : List Value} {m : Nat} (h : w.ownsRow 0 82 3 (.slice (some ⟨g, 0, none⟩) n c) n xs) (hm : m ≤ n) : w.ownsRow 0 82 3 (.slice (some ⟨g, 0, none⟩) m c) m (xs.take (m * 3)) := by
  obtain ⟨hl, h2⟩ := h
  refine ⟨by rw [List.length_take, hl]; omega, .inr ?_⟩
  rcases h2 with ⟨h0, _⟩ | ⟨g', cap, cur, h0, hb, hg, hn, hc, hs, ht⟩
  · cases h0
  · injection h0 with h0 _ h3
    injection h0 with h0
    injection h0 with h0
    subst h0; subst h3
    exact ⟨g, c, cur, rfl, hb, hg, by omega, hc, hs, by rw [← ht, List.take_take, Nat.min_eq_left (by omega)]⟩
/-- One less. -/
theorem RowX.less {g : Nat} {m : Nat} (h : RowX w b R (some ⟨g, 0, none⟩) n c f) (hm : m ≤ n) : RowX (w.setCell ⟨b, 0, none⟩ (.slice (some ⟨g, 0, none⟩) m c)) b R (some ⟨g, 0, none⟩) m c f := by
  obtain ⟨xs, ho, ht⟩ := h.own
  have hne := other_ne h.other ho
  have hmv : Moved (fun k => k = b) w (w.setCell ⟨b, 0, none⟩ (.slice (some ⟨g, 0, none⟩) m c)) := (Moved.refl (fun k => k = b) w).setCell (.inr rfl) _
  refine ⟨?_, ⟨_, own_less (own_moved ho hmv (fun k hk e => ?_)) hm, tms_less ht hm⟩, h.ty, by have := h.few; omega⟩
  · rw [heap_set h.self 0 _]; rfl
  · have : g = k := Option.some.inj hk
    omega
def PopPost (b : Nat) (R : Rest) (g n c : Nat) (f : Nat → Tm) (t : Tm) (w : World) (e : Ending) (w' : World) : Prop :=
  e = .returned (.iface 82 (tmV t)) ∧ RowX w' b R (some ⟨g, 0, none⟩) n c f ∧ Moved (fun k => k = b) w w'
set_option maxHeartbeats 1000000 in
theorem rpop_any {g m : Nat} (h : RowX w b R (some ⟨g, 0, none⟩) (m + 1) c f) : Calls Try.prog 65 #[.pointer (some ⟨b, 0, none⟩)] w (PopPost b R g m c f (f m) w) := by
  have h1 := h.cell
  obtain ⟨g', e, i0, i1, i2⟩ := h.at_ (Nat.lt_succ_self m)
  injection e with e; injection e with e; subst e
  have hn := h.few
  have hcap := h.cap.1
  have hcm := h.cap.2
  unfold maxLen at hcm
  have hb : b < w.heap.size := World.block_lt_of_cell? w _ h1
  have hg : g < w.heap.size := World.block_lt_of_cell? w _ i0
  have hf := h.free 0
  have H := Lib.hid h
  obtain ⟨a, ha⟩ : ∃ a, a = f m := ⟨_, rfl⟩
  rw [← ha] at i0 i1 i2 ⊢
  clear ha h
  go_enter Try.func65, Try.ntmps65
  go_wp2
  go_ret
  exact ⟨rfl, (H.out.less (m := m) (by omega)).later (below_alloc _ _), ((Moved.refl (fun k => k = b) w).setCell (.inr rfl) _).alloc _⟩
def PushPost (b : Nat) (R : Rest) (A : Option Addr) (n c : Nat) (f : Nat → Tm) (w : World) (e : Ending) (w' : World) : Prop :=
  ∃ A' c', e = .returned (.tuple #[]) ∧ RowX w' b R A' (n + 1) c' f ∧ Moved (fun k => k = b ∨ (Value.slice A n c).ownBlock = some k) w w' ∧ ∀ k, (Value.slice A' (n + 1) c').ownBlock = some k → (Value.slice A n c).ownBlock = some k ∨ w.heap.size ≤ k
theorem cells_add {w : World} {g : Nat} {cs : Array Value} {t : TypeId} {z : Nat × Nat} (h : w.heap[g]? = some (.cells cs t z)) : ∀ j u, cs.toList[j]? = some u → w.cell? ((⟨g, 0, none⟩ : Addr).add j) = some u := fun j u hu => by
  have e : (⟨g, 0, none⟩ : Addr).add j = ⟨g, j, none⟩ := by unfold Addr.add; split <;> simp_all
  rw [e, cell_of_row _ _ j _ _ _ h, ← Array.getElem?_toList]; exact hu
theorem tms_snoc {xs : List Value} (ht : Tms xs n f) (hl : xs.length = n * 3) (t : Tm) : Tms (xs ++ [.int .i64 t.at_, .int .i64 t.id, .int .i64 t.turn]) (n + 1) (snoc n f t) := fun k hk => by
  by_cases e : k = n
  · subst e
    rw [snoc_at, List.getElem?_append_right (by omega), List.getElem?_append_right (by omega), List.getElem?_append_right (by omega), hl, Nat.sub_self, show k * 3 + 1 - k * 3 = 1 by omega, show k * 3 + 2 - k * 3 = 2 by omega]
    exact ⟨rfl, rfl, rfl⟩
  · rw [snoc_o f t e, List.getElem?_append_left (by omega), List.getElem?_append_left (by omega), List.getElem?_append_left (by omega)]
    exact ht k (by omega)
theorem push_post {xs : List Value} {A' : Option Addr} {c' : Nat} {w7 : World} {t : Tm} (h : RowX w b R A n c f) (hn : n < 65536) (hl : w'.heap.size = w.heap.size + 1) (hb : Below w.heap.size w w') (ht : Tms xs n f) (hx : w'.ownsRow 0 82 3 (.slice A n c) n xs)
    (ho : w7.ownsRow 0 82 3 (.slice A' (n + 1) c') (n + 1) (xs ++ [.int .i64 t.at_, .int .i64 t.id, .int .i64 t.turn])) (hg : w'.grownBy w7 (Value.slice A n c).ownBlock)
    (hw : (Value.slice A' (n + 1) c').ownBlock = (Value.slice A n c).ownBlock ∨ (Value.slice A' (n + 1) c').ownBlock = some w'.heap.size) :
    PushPost b R A n c (snoc n f t) w (.returned (.tuple #[])) (w7.setCell ⟨b, 0, none⟩ (.slice A' (n + 1) c')) := by
  obtain ⟨cs0, t0, z0, hs0, hne0⟩ := h.other
  have hm : Moved (fun k => (Value.slice A n c).ownBlock = some k) w w7 := (Moved.grown (Moved.refl _ w') hg (fun k _ e => e) |> fun h2 => (Below.movedNew hb).trans h2 (q := fun k => (Value.slice A n c).ownBlock = some k) (p := fun k => (Value.slice A n c).ownBlock = some k) (fun _ _ e => e))
  have hnb : ∀ {V : World} {A : Option Addr} {n c : Nat} {xs : List Value} {cs : Array Value}, V.ownsRow 0 82 3 (.slice A n c) n xs → V.heap[b]? = some (.cells cs R.ty (0, 0)) → ¬ (Value.slice A n c).ownBlock = some b := fun ho hs => own_ne ho hs (fun e => h.ty e.symm)
  have hs := hm.heap h.self (hnb (h.own.choose_spec.1) h.self)
  refine ⟨A', c', rfl, ⟨by rw [heap_set hs 0 _]; rfl, ⟨_, own_moved (p := fun k => k = b) ho ((Moved.refl (fun k => k = b) w7).setCell (.inr rfl) _) (fun k hk e => hnb ho hs (by rw [hk, e])), tms_snoc ht hx.1 t⟩, h.ty, by omega⟩, (hm.weaken (fun k _ e => .inr e)).setCell (.inr (.inl rfl)) _, fun k hk => ?_⟩
  rcases hw with e | e
  · exact .inl (by rw [← e]; exact hk)
  · rw [e] at hk; injection hk with hk; exact .inr (by omega)
theorem assert_tm (x y z : Int) (V : World) : (Instr.typeAssert (.iface 82 (.agg #[.int .i64 x, .int .i64 y, .int .i64 z])) 20 82 false).run Try.prog V = .ok (.agg #[.int .i64 x, .int .i64 y, .int .i64 z]) V := by kernel_rfl
set_option maxHeartbeats 1000000 in
set_option maxRecDepth 20000 in
theorem rpush_any (h : RowX w b R A n c f) (t : Tm) (hn : n < 65536) : Calls Try.prog 66 #[.pointer (some ⟨b, 0, none⟩), .iface 82 (tmV t)] w (PushPost b R A n c (snoc n f t) w) := by
  obtain ⟨i0, hinfo, hz0, hz1, hz2⟩ := info_parts (P := Try.prog) (e := 82) (z := .agg #[.int .i64 0, .int .i64 0, .int .i64 0]) (size := 3) (bytes := 24) (by kernel_rfl)
  have h1 := h.cell
  have hb : b < w.heap.size := World.block_lt_of_cell? w _ h1
  have H := Lib.hid h
  obtain ⟨xs, ho, ht⟩ := h.own
  have HT := Lib.hid ht
  have hB := (Below.refl w.heap.size w).drew.alloc (Nat.le_refl _) (.cells #[.int .i64 t.at_, .int .i64 t.id, .int .i64 t.turn] 82)
  have HB := Lib.hid hB
  have HO : Hid (((w.alloc (.cells #[.int .i64 t.at_, .int .i64 t.id, .int .i64 t.turn] 82)).drew).ownsRow 0 82 3 (.slice A n c) n xs) := Lib.hid (own_moved (p := fun _ => False) ho (Below.movedNew hB) (fun _ _ h => h))
  have h2 : (w.alloc (.cells #[.int .i64 t.at_, .int .i64 t.id, .int .i64 t.turn] 82)).cell? ⟨b, 0, none⟩ = some (.slice A n c) := cell_old _ h1
  clear h ho ht hB
  go_enter Try.func66, Try.ntmps66
  simp only [tmV]
  have hTA := assert_tm t.at_ t.id t.turn
  go_wp2
  refine wp_region_held_drew (S := (fun _ => True)) (by kernel_rfl) trivial (fun hHeld => ?_)
  refine wpAnyH_take (i := 0) (v := ?vv1) rfl (by kernel_rfl) (by kernel_rfl) (by kernel_rfl) (fun _ _ _ h => h) (Or.inl ⟨by rfl, ?hy1⟩) hHeld ?rr1
  case hy1 => (intro w' hSw; skip; go_simp; try with_reducible rfl)
  try simp only [Act.put, List.setIfInBounds_toArray, List.set_cons_zero, List.set_cons_succ, List.getElem_toArray, List.getElem_cons_succ, List.getElem_cons_zero]
  refine wpAnyH_take (i := 1) (v := ?vv2) rfl (by kernel_rfl) (by kernel_rfl) (by kernel_rfl) (fun _ _ _ h => h) (Or.inl ⟨by rfl, ?hy2⟩) hHeld ?rr2
  case hy2 => (intro w' hSw; skip; go_simp; try with_reducible rfl)
  try simp only [Act.put, List.setIfInBounds_toArray, List.set_cons_zero, List.set_cons_succ, List.getElem_toArray, List.getElem_cons_succ, List.getElem_cons_zero]
  refine wpAnyH_take (i := 2) (v := ?vv3) rfl (by kernel_rfl) (by kernel_rfl) (by kernel_rfl) (fun _ _ _ h => h) (Or.inl ⟨by rfl, ?hy3⟩) hHeld ?rr3
  case hy3 => (intro w' hSw; skip; go_simp; try with_reducible rfl)
  try simp only [Act.put, List.setIfInBounds_toArray, List.set_cons_zero, List.set_cons_succ, List.getElem_toArray, List.getElem_cons_succ, List.getElem_cons_zero]
  refine wpAnyH_take (i := 4) (v := ?vv4) rfl (by kernel_rfl) (by kernel_rfl) (by kernel_rfl) (fun _ _ _ h => h) (Or.inl ⟨by rfl, ?hy4⟩) hHeld ?rr4
  case hy4 => (intro w' hSw; skip; go_simp; try with_reducible rfl)
  try simp only [Act.put, List.setIfInBounds_toArray, List.set_cons_zero, List.set_cons_succ, List.getElem_toArray, List.getElem_cons_succ, List.getElem_cons_zero]
  refine wpAnyH_take (i := 5) (v := ?vv5) rfl (by kernel_rfl) (by kernel_rfl) (by kernel_rfl) (fun _ _ _ h => h) (Or.inl ⟨by rfl, ?hy5⟩) hHeld ?rr5
  case hy5 => (intro w' hSw; skip; go_simp; try with_reducible rfl)
  try simp only [Act.put, List.setIfInBounds_toArray, List.set_cons_zero, List.set_cons_succ, List.getElem_toArray, List.getElem_cons_succ, List.getElem_cons_zero]
  refine wpAnyH_ready (rs := [3, 6]) (by kernel_rfl) (by simp) ?_
  refine AllReadyH.cons rfl (fun K hK => ?ra) (AllReadyH.cons rfl (fun K hK => ?rb) AllReadyH.nil)
  case ra =>
    try rw [if_pos (by rfl)]
    go_simp
    refine hK.out _ _ trivial (fun hHeld2 => ?_)
    clear hK K hHeld
    have hHeld := hHeld2
    clear hHeld2
    try simp only [Act.put, List.setIfInBounds_toArray, List.set_cons_zero, List.set_cons_succ, List.getElem_toArray, List.getElem_cons_succ, List.getElem_cons_zero]
    refine wpAnyH_ready (rs := [6]) (by kernel_rfl) (by simp) ?_
    refine AllReadyH.cons rfl (fun K hK => ?_) AllReadyH.nil
    try rw [if_pos (by rfl)]
    go_simp
    refine hK.out _ _ trivial (fun hHeld2 => ?_)
    clear hK K hHeld
    have hHeld := hHeld2
    clear hHeld2
    try simp only [Act.put, List.setIfInBounds_toArray, List.set_cons_zero, List.set_cons_succ, List.getElem_toArray, List.getElem_cons_succ, List.getElem_cons_zero]
    refine wpAnyH_ready (rs := [7]) (by kernel_rfl) (by simp) ?_
    refine AllReadyH.cons rfl (fun K hK => ?_) AllReadyH.nil
    try rw [if_pos (by rfl)]
    refine oper_append_k _ (.tmp 7) (.tmp 10) 74 rfl 82 i0 (.agg #[.int .i64 0, .int .i64 0, .int .i64 0]) 3 24 Try.underlying74 hinfo hz0 hz1 hz2 rfl (by decide) 0 _ n xs rfl HO.out (some ⟨w.heap.size, 0, none⟩) 1 1 [.int .i64 t.at_, .int .i64 t.id, .int .i64 t.turn] rfl rfl (fun _ => ⟨_, rfl, cells_add (heap_new w (.cells #[.int .i64 t.at_, .int .i64 t.id, .int .i64 t.turn] 82))⟩) (fun u hu => by simp at hu; rcases hu with rfl | rfl | rfl <;> rfl) (by unfold maxLen; omega) (by omega) (Nat.zero_le _) ?_
    intro A7 c7 w7 hown7 hgrow7 hwh7
    have HP : Hid (PushPost b R A n c (snoc n f t) w (.returned (.tuple #[])) (w7.setCell ⟨b, 0, none⟩ (.slice A7 (n + 1) c7))) := Lib.hid (push_post H.out hn (by simp) HB.out HT.out HO.out hown7 hgrow7 hwh7)
    have hs7 : w7.heap[b]? = some (.cells (Value.slice A n c :: R.cells).toArray R.ty (0, 0)) := (hgrow7.block b (by simp; omega) (fun e => own_ne HO.out ((H.out.later HB.out).self) (fun e => H.out.ty e.symm) e.symm)).trans ((H.out.later HB.out).self)
    have k7 : w7.cell? ⟨b, 0, none⟩ = some (.slice A n c) := cell_of_row w7 b 0 _ _ _ hs7
    have f7 : w7.frozen? ⟨b, 0, none⟩ = false := (cells_of_heap hs7).2 0
    clear hown7 hgrow7 hwh7 hs7
    refine hK.out _ _ trivial (fun hHeld2 => ?_)
    clear hK K hHeld
    have hHeld := hHeld2
    clear hHeld2
    try simp only [Act.put, List.setIfInBounds_toArray, List.set_cons_zero, List.set_cons_succ, List.getElem_toArray, List.getElem_cons_succ, List.getElem_cons_zero]
    refine wpAnyH_take (i := 8) (v := ?vv6) rfl (by kernel_rfl) (by kernel_rfl) (by kernel_rfl) (fun _ _ _ h => h) (Or.inl ⟨by rfl, ?hy6⟩) hHeld ?rr6
    case hy6 => (intro w' hSw; skip; go_simp; try with_reducible rfl)
    try simp only [Act.put, List.setIfInBounds_toArray, List.set_cons_zero, List.set_cons_succ, List.getElem_toArray, List.getElem_cons_succ, List.getElem_cons_zero]
    refine wpAnyH_ready (rs := [9]) (by kernel_rfl) (by simp) ?_
    refine AllReadyH.cons rfl (fun K hK => ?_) AllReadyH.nil
    try rw [if_pos (by rfl)]
    go_simp
    refine hK.out _ _ trivial (fun hHeld2 => ?_)
    clear hK K hHeld
    have hHeld := hHeld2
    clear hHeld2
    try simp only [Act.put, List.setIfInBounds_toArray, List.set_cons_zero, List.set_cons_succ, List.getElem_toArray, List.getElem_cons_succ, List.getElem_cons_zero]
    refine wpAnyH_done (by kernel_rfl) ?_ _
    clear hHeld
    go_wp2
    go_end0
    with_reducible exact HP.out
  case rb =>
    try rw [if_pos (by rfl)]
    go_simp
    refine hK.out _ _ trivial (fun hHeld2 => ?_)
    clear hK K hHeld
    have hHeld := hHeld2
    clear hHeld2
    try simp only [Act.put, List.setIfInBounds_toArray, List.set_cons_zero, List.set_cons_succ, List.getElem_toArray, List.getElem_cons_succ, List.getElem_cons_zero]
    refine wpAnyH_ready (rs := [3]) (by kernel_rfl) (by simp) ?_
    refine AllReadyH.cons rfl (fun K hK => ?_) AllReadyH.nil
    try rw [if_pos (by rfl)]
    go_simp
    refine hK.out _ _ trivial (fun hHeld2 => ?_)
    clear hK K hHeld
    have hHeld := hHeld2
    clear hHeld2
    try simp only [Act.put, List.setIfInBounds_toArray, List.set_cons_zero, List.set_cons_succ, List.getElem_toArray, List.getElem_cons_succ, List.getElem_cons_zero]
    refine wpAnyH_ready (rs := [7]) (by kernel_rfl) (by simp) ?_
    refine AllReadyH.cons rfl (fun K hK => ?_) AllReadyH.nil
    try rw [if_pos (by rfl)]
    refine oper_append_k _ (.tmp 7) (.tmp 10) 74 rfl 82 i0 (.agg #[.int .i64 0, .int .i64 0, .int .i64 0]) 3 24 Try.underlying74 hinfo hz0 hz1 hz2 rfl (by decide) 0 _ n xs rfl HO.out (some ⟨w.heap.size, 0, none⟩) 1 1 [.int .i64 t.at_, .int .i64 t.id, .int .i64 t.turn] rfl rfl (fun _ => ⟨_, rfl, cells_add (heap_new w (.cells #[.int .i64 t.at_, .int .i64 t.id, .int .i64 t.turn] 82))⟩) (fun u hu => by simp at hu; rcases hu with rfl | rfl | rfl <;> rfl) (by unfold maxLen; omega) (by omega) (Nat.zero_le _) ?_
    intro A7 c7 w7 hown7 hgrow7 hwh7
    have HP : Hid (PushPost b R A n c (snoc n f t) w (.returned (.tuple #[])) (w7.setCell ⟨b, 0, none⟩ (.slice A7 (n + 1) c7))) := Lib.hid (push_post H.out hn (by simp) HB.out HT.out HO.out hown7 hgrow7 hwh7)
    have hs7 : w7.heap[b]? = some (.cells (Value.slice A n c :: R.cells).toArray R.ty (0, 0)) := (hgrow7.block b (by simp; omega) (fun e => own_ne HO.out ((H.out.later HB.out).self) (fun e => H.out.ty e.symm) e.symm)).trans ((H.out.later HB.out).self)
    have k7 : w7.cell? ⟨b, 0, none⟩ = some (.slice A n c) := cell_of_row w7 b 0 _ _ _ hs7
    have f7 : w7.frozen? ⟨b, 0, none⟩ = false := (cells_of_heap hs7).2 0
    clear hown7 hgrow7 hwh7 hs7
    refine hK.out _ _ trivial (fun hHeld2 => ?_)
    clear hK K hHeld
    have hHeld := hHeld2
    clear hHeld2
    try simp only [Act.put, List.setIfInBounds_toArray, List.set_cons_zero, List.set_cons_succ, List.getElem_toArray, List.getElem_cons_succ, List.getElem_cons_zero]
    refine wpAnyH_take (i := 8) (v := ?vv7) rfl (by kernel_rfl) (by kernel_rfl) (by kernel_rfl) (fun _ _ _ h => h) (Or.inl ⟨by rfl, ?hy7⟩) hHeld ?rr7
    case hy7 => (intro w' hSw; skip; go_simp; try with_reducible rfl)
    try simp only [Act.put, List.setIfInBounds_toArray, List.set_cons_zero, List.set_cons_succ, List.getElem_toArray, List.getElem_cons_succ, List.getElem_cons_zero]
    refine wpAnyH_ready (rs := [9]) (by kernel_rfl) (by simp) ?_
    refine AllReadyH.cons rfl (fun K hK => ?_) AllReadyH.nil
    try rw [if_pos (by rfl)]
    go_simp
    refine hK.out _ _ trivial (fun hHeld2 => ?_)
    clear hK K hHeld
    have hHeld := hHeld2
    clear hHeld2
    try simp only [Act.put, List.setIfInBounds_toArray, List.set_cons_zero, List.set_cons_succ, List.getElem_toArray, List.getElem_cons_succ, List.getElem_cons_zero]
    refine wpAnyH_done (by kernel_rfl) ?_ _
    clear hHeld
    go_wp2
    go_end0
    with_reducible exact HP.out
end
end Go.Proofs.Ytkdfkhebjhnbmaa
