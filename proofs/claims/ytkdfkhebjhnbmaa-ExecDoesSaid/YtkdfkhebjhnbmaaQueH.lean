/- Package queue: a timer put, and the last one taken away, with the map of their places. -/
import Derived.Test.YtkdfkhebjhnbmaaQueG
set_option linter.unusedSimpArgs false
set_option linter.unusedVariables false
namespace Go.Proofs.Ytkdfkhebjhnbmaa
open Go.ChangeShapes Go.WideShapes Go.ChangeAt Go.RowKit Go.Base Go.Que

section
variable {w w' : World} {F G : Nat → Prop} {q c mb n : Nat} {A : Option Addr} {D : DataW Unit} {f : Nat → Tm} {turns : Int}
theorem Que.later (h : Que w F q f n turns) (hb : Below w.heap.size w w') : Que w' F q f n turns := by
  obtain ⟨A, c, mb, D, h⟩ := h
  exact ⟨A, c, mb, D, h.later hb⟩
theorem Que.wide (h : Que w F q f n turns) (hG : ∀ k, F k → G k) : Que w G q f n turns := by
  obtain ⟨A, c, mb, D, h⟩ := h
  exact ⟨A, c, mb, D, h.wide hG⟩
theorem Que.drew (h : Que w F q f n turns) : Que w.drew F q f n turns := h.later (Below.refl _ _).drew
theorem field_tm (x y z : Int) (V : World) : (Instr.field 82 (.agg #[.int .i64 x, .int .i64 y, .int .i64 z]) 0).run Try.prog V = .ok (.agg #[.int .i64 x, .int .i64 y]) V := by kernel_rfl
theorem field_id (x y : Int) (V : World) : (Instr.field 65 (.agg #[.int .i64 x, .int .i64 y]) 1).run Try.prog V = .ok (.int .i64 y) V := by kernel_rfl
theorem field_at (x y : Int) (V : World) : (Instr.field 65 (.agg #[.int .i64 x, .int .i64 y]) 0).run Try.prog V = .ok (.int .i64 x) V := by kernel_rfl
def PPush (F : Nat → Prop) (q : Nat) (f : Nat → Tm) (n : Nat) (turns : Int) (w : World) (e : Ending) (w' : World) : Prop := e = .returned (.tuple #[]) ∧ Que w' (fun k => F k ∨ w.heap.size ≤ k) q f n turns ∧ Moved F w w'
set_option maxHeartbeats 2000000 in
set_option maxRecDepth 20000 in
theorem ppush_any (h : Que w F q f n turns) (t : Tm) (ht : tfit t) (hn : n < 65536) (hid : ∀ k, k < n → (f k).id ≠ t.id) : Calls Try.prog 60 #[.pointer (some ⟨q, 0, none⟩), .iface 82 (tmV t)] w (PPush F q (snoc n f t) (n + 1) turns w) := by
  obtain ⟨A, c, mb, D, h⟩ := h
  have hq : q < w.heap.size := World.block_lt_of_cell? w _ h.cells.1
  have q1 := h.cells.2.1
  have hh : Maps.has D (.int .i64 t.id) = false := by
    rw [Bool.eq_false_iff]
    intro e
    obtain ⟨k, hk, e⟩ := (h.plc.has _).1 e
    exact hid k hk e
  have hsz := h.plc.size
  obtain ⟨w2, hup, how, hgr⟩ := (show w.drew.ownsMap Try.prog 3 (plainElem Try.prog 3) mb (Maps.size D) D from h.map).update law_int Try.underlying72 (by unfold maxLen; omega) (key_int ht.2.1.1 ht.2.1.2) (elem_int (x := n) (by omega))
  have hm2 : Moved (fun k => k = mb) w w2 := (Moved.refl (fun k => k = mb) w).drew.trans (q := fun k => k = mb) (Moved.grown (p := fun k => k = mb) (Moved.refl (fun k => k = mb) w.drew) hgr (fun k _ e => (Option.some.inj e).symm)) (fun _ _ e => e)
  have hrow2 : RowX w2 q (qR mb turns) A n c f := h.row.moved hm2 (map_ne h.map h.row.self) (fun k hk => map_apart h.map h.row.own.choose_spec.1 k hk)
  have HRP := Lib.hid (rpush_any hrow2 t hn)
  have HL := Lib.hid (rlen_any (w := w.drew) (h.row.later (Below.refl _ _).drew))
  have HM2 := Lib.hid hm2
  have hTA := assert_tm t.at_ t.id t.turn
  have hF1 := field_tm t.at_ t.id t.turn
  have hF2 := field_id t.at_ t.id
  have HP : Hid (∀ e w5, PushPost q (qR mb turns) A n c (snoc n f t) w2 e w5 → PPush F q (snoc n f t) (n + 1) turns w e w5) := Lib.hid (by
    rintro e w5 ⟨A', c', rfl, hr, hm, hbl⟩
    have hown := how
    have hmb5 : ¬ (mb = q ∨ (Value.slice A n c).ownBlock = some mb) := by
      rintro (e | e)
      · exact map_ne h.map h.row.self e.symm
      · exact map_apart h.map h.row.own.choose_spec.1 mb e rfl
    refine ⟨rfl, ⟨A', c', mb, _, ⟨hr, own_exact (own_map_moved hown hm hmb5), plc_push h.plc t hh, fun k hk => ?_, ⟨.inl h.inF.1, .inl h.inF.2.1, fun k hk => ?_⟩⟩⟩, ?_⟩
    · by_cases e : k = n
      · subst e; rw [snoc_at]; exact ht
      · rw [snoc_o f t e]; exact h.fit k (by omega)
    · rcases hbl k hk with e | e
      · exact .inl (h.inF.2.2 k e)
      · exact .inr (Nat.le_trans hm2.size e)
    · refine (hm2.weaken (fun k _ e => by rw [e]; exact h.inF.2.1)).trans hm (fun k _ e => ?_)
      rcases e with e | e
      · rw [e]; exact h.inF.1
      · exact h.inF.2.2 k e)
  have E1 := hup
  have HQM : Hid (q ≠ mb) := Lib.hid (map_ne h.map h.row.self)
  clear hup how hgr hm2 hrow2 hh hsz h hid ht
  go_enter Try.func60, Try.ntmps60
  have hRP := HRP.out
  simp only [tmV] at hRP ⊢
  have HRP2 := Lib.hid hRP
  clear hRP
  go_wp2_with fail
  refine wp_region_held_drew (S := (fun w' => w'.cell? ⟨q, 1, none⟩ = some (.map (some mb)))) (by kernel_rfl) q1 (fun hHeld => ?_)
  refine wpAnyH_take (i := 0) (v := ?vv1) rfl (by kernel_rfl) (by kernel_rfl) (by kernel_rfl) (fun _ _ _ h => h) (Or.inl ⟨by rfl, ?hy1⟩) hHeld ?rr1
  case hy1 => (intro w' hSw; skip; go_simp; try with_reducible rfl)
  try simp only [Act.put, List.setIfInBounds_toArray, List.set_cons_zero, List.set_cons_succ, List.getElem_toArray, List.getElem_cons_succ, List.getElem_cons_zero]
  refine wpAnyH_take (i := 1) (v := ?vv2) rfl (by kernel_rfl) (by kernel_rfl) (by kernel_rfl) (fun _ _ _ h => h) (Or.inl ⟨by rfl, ?hy2⟩) hHeld ?rr2
  case hy2 => (intro w' hSw; skip; go_simp; try with_reducible rfl)
  try simp only [Act.put, List.setIfInBounds_toArray, List.set_cons_zero, List.set_cons_succ, List.getElem_toArray, List.getElem_cons_succ, List.getElem_cons_zero]
  refine wpAnyH_take (i := 2) (v := ?vv3) rfl (by kernel_rfl) (by kernel_rfl) (by kernel_rfl) (fun _ _ _ h => h) (Or.inl ⟨by rfl, ?hy3⟩) hHeld ?rr3
  case hy3 => (intro w' hSw; skip; go_simp; try with_reducible rfl)
  try simp only [Act.put, List.setIfInBounds_toArray, List.set_cons_zero, List.set_cons_succ, List.getElem_toArray, List.getElem_cons_succ, List.getElem_cons_zero]
  refine wpAnyH_take (i := 3) (v := ?vv4) rfl (by kernel_rfl) (by kernel_rfl) (by kernel_rfl) (fun _ _ _ h => h) (Or.inl ⟨by rfl, ?hy4⟩) hHeld ?rr4
  case hy4 => (intro w' hSw; skip; go_simp; try with_reducible rfl)
  try simp only [Act.put, List.setIfInBounds_toArray, List.set_cons_zero, List.set_cons_succ, List.getElem_toArray, List.getElem_cons_succ, List.getElem_cons_zero]
  refine wpAnyH_take (i := 4) (v := ?vv5) rfl (by kernel_rfl) (by kernel_rfl) (by kernel_rfl) (fun _ _ _ h => h) (Or.inl ⟨by rfl, ?hy5⟩) hHeld ?rr5
  case hy5 => (intro w' hSw; skip; go_simp; try with_reducible rfl)
  try simp only [Act.put, List.setIfInBounds_toArray, List.set_cons_zero, List.set_cons_succ, List.getElem_toArray, List.getElem_cons_succ, List.getElem_cons_zero]
  refine wpAnyH_take (i := 5) (v := ?vv6) rfl (by kernel_rfl) (by kernel_rfl) (by kernel_rfl) (fun _ _ _ h => h) (Or.inl ⟨by rfl, ?hy6⟩) hHeld ?rr6
  case hy6 => (intro w' hSw; skip; go_simp; try with_reducible rfl)
  try simp only [Act.put, List.setIfInBounds_toArray, List.set_cons_zero, List.set_cons_succ, List.getElem_toArray, List.getElem_cons_succ, List.getElem_cons_zero]
  refine wpAnyH_take (i := 6) (v := ?vv7) rfl (by kernel_rfl) (by kernel_rfl) (by kernel_rfl) (fun _ _ _ h => h) (Or.inl ⟨by rfl, ?hy7⟩) hHeld ?rr7
  case hy7 => (intro w' hSw; skip; go_simp; try with_reducible rfl)
  try simp only [Act.put, List.setIfInBounds_toArray, List.set_cons_zero, List.set_cons_succ, List.getElem_toArray, List.getElem_cons_succ, List.getElem_cons_zero]
  refine wpAnyH_take (i := 7) (v := ?vv8) rfl (by kernel_rfl) (by kernel_rfl) (by kernel_rfl) (fun _ _ _ h => h) (Or.inl ⟨by rfl, ?hy8⟩) hHeld ?rr8
  case hy8 => (intro w' hSw; skip; go_simp; try with_reducible rfl)
  try simp only [Act.put, List.setIfInBounds_toArray, List.set_cons_zero, List.set_cons_succ, List.getElem_toArray, List.getElem_cons_succ, List.getElem_cons_zero]
  refine wpAnyH_take (i := 8) (v := ?vv9) rfl (by kernel_rfl) (by kernel_rfl) (by kernel_rfl) (fun _ _ _ h => h) (Or.inl ⟨by rfl, ?hy9⟩) hHeld ?rr9
  case hy9 => (intro w' hSw; skip; go_simp; try with_reducible rfl)
  try simp only [Act.put, List.setIfInBounds_toArray, List.set_cons_zero, List.set_cons_succ, List.getElem_toArray, List.getElem_cons_succ, List.getElem_cons_zero]
  refine wpAnyH_take (i := 9) (v := ?vv10) rfl (by kernel_rfl) (by kernel_rfl) (by kernel_rfl) (fun _ _ _ h => h) (Or.inl ⟨by rfl, ?hy10⟩) hHeld ?rr10
  case hy10 => (intro w' hSw; skip; go_simp; try with_reducible rfl)
  try simp only [Act.put, List.setIfInBounds_toArray, List.set_cons_zero, List.set_cons_succ, List.getElem_toArray, List.getElem_cons_succ, List.getElem_cons_zero]
  refine wpAnyH_take (i := 10) (v := ?vv11) rfl (by kernel_rfl) (by kernel_rfl) (by kernel_rfl) (fun _ _ _ h => h) (Or.inl ⟨by rfl, ?hy11⟩) hHeld ?rr11
  case hy11 => (intro w' hSw; skip; go_simp; try with_reducible rfl)
  try simp only [Act.put, List.setIfInBounds_toArray, List.set_cons_zero, List.set_cons_succ, List.getElem_toArray, List.getElem_cons_succ, List.getElem_cons_zero]
  refine wpAnyH_ready (rs := [11]) (by kernel_rfl) (by simp) ?_
  refine AllReadyH.cons rfl (fun K hK => ?_) AllReadyH.nil
  try rw [if_pos (by rfl)]
  go_simp
  go_at_call 31
  refine Calls.mono (by with_reducible exact HL.out) ?_
  rintro en w7 ⟨rfl, rfl⟩
  go_wp2_with fail
  refine hK.out _ _ q1 (fun hHeld2 => ?_)
  clear hK K hHeld
  have hHeld := hHeld2
  clear hHeld2
  try simp only [Act.put, List.setIfInBounds_toArray, List.set_cons_zero, List.set_cons_succ, List.getElem_toArray, List.getElem_cons_succ, List.getElem_cons_zero]
  refine wpAnyH_ready (rs := [12]) (by kernel_rfl) (by simp) ?_
  refine AllReadyH.cons rfl (fun K hK => ?_) AllReadyH.nil
  try rw [if_pos (by rfl)]
  go_simp
  refine hK.out _ _ (HM2.out.cell q1 HQM.out) (fun hHeld2 => ?_)
  clear hK K hHeld
  have hHeld := hHeld2
  clear hHeld2
  try simp only [Act.put, List.setIfInBounds_toArray, List.set_cons_zero, List.set_cons_succ, List.getElem_toArray, List.getElem_cons_succ, List.getElem_cons_zero]
  refine wpAnyH_done (by kernel_rfl) ?_ _
  clear hHeld
  go_wp2_with (go_at_call 66; refine Calls.mono (by with_reducible exact HRP2.out) ?_; intro en w5 hpp; have HP5 := Lib.hid (HP.out en w5 hpp); obtain ⟨A', c', rfl, _⟩ := hpp)
  go_end0
  exact HP5.out
end
end Go.Proofs.Ytkdfkhebjhnbmaa
