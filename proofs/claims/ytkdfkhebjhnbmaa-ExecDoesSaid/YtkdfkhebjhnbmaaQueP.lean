/- Package queue: Set. -/
import Derived.Test.YtkdfkhebjhnbmaaQueO
set_option linter.unusedSimpArgs false
set_option linter.unusedVariables false
namespace Go.Que
/-- Who is there behind a Set. -/
def SetS (n : Nat) (f : Nat → Tm) (n' : Nat) (g : Nat → Tm) (t0 : Tm) : Prop := ∀ t, (∃ k, k < n' ∧ g k = t) ↔ t = t0 ∨ ((∃ k, k < n ∧ f k = t) ∧ t.id ≠ t0.id)
theorem setS_miss {n : Nat} {f g : Nat → Tm} {t0 : Tm} (h : Same (n + 1) (snoc n f t0) g) (hn : ∀ k, k < n → (f k).id ≠ t0.id) : SetS n f (n + 1) g t0 := fun t => by
  rw [← h t]
  constructor
  · rintro ⟨k, hk, rfl⟩
    by_cases e : k = n
    · subst e; exact .inl (snoc_at _ _ _)
    · rw [snoc_o f t0 e]; exact .inr ⟨⟨k, by omega, rfl⟩, hn k (by omega)⟩
  · rintro (rfl | ⟨⟨k, hk, rfl⟩, _⟩)
    · exact ⟨n, by omega, snoc_at _ _ _⟩
    · exact ⟨k, by omega, snoc_o f t0 (by omega)⟩
theorem gone_id {m k : Nat} {f g : Nat → Tm} (h : Shuf (m + 1) f (snoc m g (f k))) (ho : Once (m + 1) f) : ∀ j, j < m → (g j).id ≠ (f k).id := fun j hj e => by
  have := h.2 ho j m (by omega) (by omega) (by rw [snoc_o g _ (by omega), snoc_at]; exact e)
  omega
theorem gone_mem {m k : Nat} {f g : Nat → Tm} (h : Shuf (m + 1) f (snoc m g (f k))) (ho : Once (m + 1) f) (hk : k < m + 1) (t : Tm) : (∃ j, j < m ∧ g j = t) ↔ ((∃ j, j < m + 1 ∧ f j = t) ∧ t.id ≠ (f k).id) := by
  constructor
  · rintro ⟨j, hj, rfl⟩
    exact ⟨(h.1 (g j)).2 ⟨j, by omega, snoc_o g _ (by omega)⟩, gone_id h ho j hj⟩
  · rintro ⟨⟨j, hj, rfl⟩, hne⟩
    obtain ⟨i, hi, e⟩ := (h.1 (f j)).1 ⟨j, hj, rfl⟩
    by_cases e2 : i = m
    · subst e2; rw [snoc_at] at e; exact absurd (by rw [e]) hne
    · rw [snoc_o g _ e2] at e; exact ⟨i, by omega, e⟩
theorem setS_hit {m k : Nat} {f g g' : Nat → Tm} {t0 : Tm} (h : Shuf (m + 1) f (snoc m g (f k))) (ho : Once (m + 1) f) (hk : k < m + 1) (hid : (f k).id = t0.id) (h2 : Same (m + 1) (snoc m g t0) g') : SetS (m + 1) f (m + 1) g' t0 := fun t => by
  rw [setS_miss h2 (fun j hj => by rw [← hid]; exact gone_id h ho j hj) t, gone_mem h ho hk t, hid]
  constructor
  · rintro (e | ⟨e, _⟩)
    · exact .inl e
    · exact .inr e
  · rintro (e | e)
    · exact .inl e
    · exact .inr ⟨e, e.2⟩
end Go.Que
namespace Go.Proofs.Ytkdfkhebjhnbmaa
open Go.ChangeShapes Go.WideShapes Go.ChangeAt Go.RowKit Go.Base Go.Que

section
variable {w w' : World} {F G : Nat → Prop} {q c mb n N m : Nat} {A : Option Addr} {D : DataW Unit} {f : Nat → Tm} {turns : Int}
theorem Que.once (h : Que w F q f n turns) : Once n f := by
  obtain ⟨A, c, mb, D, h⟩ := h
  exact h.plc.once
theorem Que.fits (h : Que w F q f n turns) {k : Nat} (hk : k < n) : tfit (f k) := by
  obtain ⟨A, c, mb, D, h⟩ := h
  exact h.fit k hk
theorem Que.cell2 (h : Que w F q f n turns) : w.cell? ⟨q, 2, none⟩ = some (.int .i64 turns) ∧ w.frozen? ⟨q, 2, none⟩ = false := by
  obtain ⟨A, c, mb, D, h⟩ := h
  exact ⟨h.cells.2.2, h.row.free 2⟩
theorem Que.inq (h : Que w F q f n turns) : F q := by
  obtain ⟨A, c, mb, D, h⟩ := h
  exact h.inF.1
/-- One more turn. -/
theorem Que.turn (h : Que w F q f n turns) (z : Int) : Que (w.setCell ⟨q, 2, none⟩ (.int .i64 z)) F q f n z := by
  obtain ⟨A, c, mb, D, h⟩ := h
  have hm : Moved (fun k => k = q) w (w.setCell ⟨q, 2, none⟩ (.int .i64 z)) := (Moved.refl (fun k => k = q) w).setCell (.inr rfl) _
  obtain ⟨xs, ho, ht⟩ := h.row.own
  refine ⟨A, c, mb, D, ⟨⟨?_, ⟨xs, own_moved ho hm (fun k hk e => own_ne ho h.row.self (fun e => h.row.ty e.symm) (by rw [hk, e])), ht⟩, h.row.ty, h.row.few⟩, own_map_moved h.map hm (fun e => map_ne h.map h.row.self e.symm), h.plc, h.fit, h.inF⟩⟩
  rw [heap_set h.row.self 2 _]; rfl
def QSet (F : Nat → Prop) (q : Nat) (f : Nat → Tm) (n n' : Nat) (turns : Int) (t0 : Tm) (w : World) (e : Ending) (w' : World) : Prop :=
  e = .returned (.int .i64 0) ∧ ∃ g, Que w' (fun k => F k ∨ w.heap.size ≤ k) q g n' (turns + 1) ∧ Heap n' g ∧ Moved F w w' ∧ SetS n f n' g t0
set_option maxHeartbeats 2000000 in
set_option maxRecDepth 20000 in
theorem set_full (h : Que w F q f n turns) {id at_ : Int} (h1 : -9223372036854775808 ≤ id) (h2 : id ≤ 9223372036854775807) (hn : ∀ k, k < n → (f k).id ≠ id) (hfull : 65536 ≤ n) :
    Calls Try.prog 24 #[.pointer (some ⟨q, 0, none⟩), .int .i64 id, .int .i64 at_] w fun e w' => e = .returned (.int .i64 2) ∧ w = w' := by
  have HC := Lib.hid (qclosed_any h)
  have HL := Lib.hid (plen_any h)
  obtain ⟨A, c, mb, D, h⟩ := h
  obtain ⟨q0, q1, q2⟩ := h.cells
  have hl := qlook_miss h h1 h2 hn
  have hf2 : (65536 : Int) ≤ (n : Int) := by omega
  clear h hn
  go_enter Try.func24, Try.ntmps24
  go_wp2_with (first
    | (go_at_call 30; refine Calls.mono (by with_reducible exact HC.out) ?_; rintro e w1 ⟨rfl, rfl⟩)
    | (go_at_call 31; refine Calls.mono (by with_reducible exact HL.out) ?_; rintro e w2 ⟨rfl, rfl⟩))
  go_ret
  exact ⟨rfl, rfl⟩
set_option maxHeartbeats 4000000 in
set_option maxRecDepth 20000 in
theorem set_miss (h : Que w F q f n turns) (hH : Heap n f) {id at_ : Int} (ht : tfit ⟨at_, id, turns + 1⟩) (hn : ∀ k, k < n → (f k).id ≠ id) (hfew : n < 65536) (ht0 : 0 ≤ turns) :
    Calls Try.prog 24 #[.pointer (some ⟨q, 0, none⟩), .int .i64 id, .int .i64 at_] w (QSet F q f n (n + 1) turns ⟨at_, id, turns + 1⟩ w) := by
  have HC := Lib.hid (qclosed_any h)
  have HL := Lib.hid (plen_any h)
  have HDr := Lib.hid (drop_miss h ht.2.1.1 ht.2.1.2 hn)
  have h3 := h.turn (turns + 1)
  have HC2 := Lib.hid h3.cell2.1
  have hf2 := h.cell2.2
  have HPu := Lib.hid (hpush_any h3.drew hH ⟨at_, id, turns + 1⟩ ht hfew hn)
  have HMv : Hid (Moved F w (w.setCell ⟨q, 2, none⟩ (.int .i64 (turns + 1)))) := Lib.hid ((Moved.refl F w).setCell (.inr h.inq) _)
  have HNn := Lib.hid hn
  have ht1 : turns + 1 ≤ 9223372036854775807 := ht.2.2.2
  obtain ⟨N, hN⟩ : ∃ N : Int, N = (n : Int) := ⟨_, rfl⟩
  rw [← hN] at HL
  have hnf : N < 65536 := by omega
  clear hN
  obtain ⟨A, c, mb, D, h⟩ := h
  obtain ⟨q0, q1, q2⟩ := h.cells
  have hl := qlook_miss h ht.2.1.1 ht.2.1.2 hn
  clear h hn hH h3 ht hfew
  go_enter Try.func24, Try.ntmps24
  go_wp2_with (first
    | (go_at_call 30; refine Calls.mono (by with_reducible exact HC.out) ?_; rintro e w1 ⟨rfl, rfl⟩)
    | (go_at_call 31; refine Calls.mono (by with_reducible exact HL.out) ?_; rintro e w2 ⟨rfl, rfl⟩)
    | (go_at_call 25; refine Calls.mono (by with_reducible exact HDr.out) ?_; rintro e w2 ⟨rfl, rfl⟩))
  simp only [tmV] at HPu
  have HPu2 := HPu
  have hc2 := HC2.out
  refine wp_region_held_drew (S := (fun w' => w'.cell? ⟨q, 2, none⟩ = some (.int .i64 (turns + 1)))) (by kernel_rfl) hc2 (fun hHeld => ?_)
  refine wpAnyH_take (i := 0) (v := ?vv1) rfl (by kernel_rfl) (by kernel_rfl) (by kernel_rfl) (fun _ _ _ h => h) (Or.inl ⟨by rfl, ?hy1⟩) hHeld ?rr1
  case hy1 => (intro w' hSw; skip; go_simp; try with_reducible rfl)
  try simp only [Act.put, List.setIfInBounds_toArray, List.set_cons_zero, List.set_cons_succ, List.getElem_toArray, List.getElem_cons_succ, List.getElem_cons_zero]
  refine wpAnyH_take (i := 1) (v := ?vv2) rfl (by kernel_rfl) (by kernel_rfl) (by kernel_rfl) (fun _ _ _ h => h) (Or.inl ⟨by rfl, ?hy2⟩) hHeld ?rr2
  case hy2 => (intro w' hSw; skip; go_simp; try with_reducible rfl)
  try simp only [Act.put, List.setIfInBounds_toArray, List.set_cons_zero, List.set_cons_succ, List.getElem_toArray, List.getElem_cons_succ, List.getElem_cons_zero]
  refine wpAnyH_take (i := 2) (v := ?vv3) rfl (by kernel_rfl) (by kernel_rfl) (by kernel_rfl) (fun _ _ _ h => h) (Or.inl ⟨by rfl, ?hy3⟩) hHeld ?rr3
  case hy3 => (intro w' hSw; skip; go_simp; try with_reducible rfl)
  try simp only [Act.put, List.setIfInBounds_toArray, List.set_cons_zero, List.set_cons_succ, List.getElem_toArray, List.getElem_cons_succ, List.getElem_cons_zero]
  refine wpAnyH_take (i := 3) (v := ?vv4) rfl (by kernel_rfl) (by kernel_rfl) (by kernel_rfl) (fun _ _ _ h => h) (Or.inl ⟨by rfl, ?hy4⟩) hHeld ?rr4
  case hy4 => (intro w' hSw; skip; go_simp; try with_reducible rfl)
  try simp only [Act.put, List.setIfInBounds_toArray, List.set_cons_zero, List.set_cons_succ, List.getElem_toArray, List.getElem_cons_succ, List.getElem_cons_zero]
  refine wpAnyH_take (i := 4) (v := ?vv5) rfl (by kernel_rfl) (by kernel_rfl) (by kernel_rfl) (fun _ _ _ h => h) (Or.inl ⟨by rfl, ?hy5⟩) hHeld ?rr5
  case hy5 => (intro w' hSw; skip; go_simp; try with_reducible rfl)
  try simp only [Act.put, List.setIfInBounds_toArray, List.set_cons_zero, List.set_cons_succ, List.getElem_toArray, List.getElem_cons_succ, List.getElem_cons_zero]
  refine wpAnyH_take (i := 5) (v := ?vv6) rfl (by kernel_rfl) (by kernel_rfl) (by kernel_rfl) (fun _ _ _ h => h) (Or.inl ⟨by rfl, ?hy6⟩) hHeld ?rr6
  case hy6 => (intro w' hSw; skip; go_simp; try with_reducible rfl)
  try simp only [Act.put, List.setIfInBounds_toArray, List.set_cons_zero, List.set_cons_succ, List.getElem_toArray, List.getElem_cons_succ, List.getElem_cons_zero]
  refine wpAnyH_take (i := 6) (v := ?vv7) rfl (by kernel_rfl) (by kernel_rfl) (by kernel_rfl) (fun _ _ _ h => h) (Or.inl ⟨by rfl, ?hy7⟩) hHeld ?rr7
  case hy7 => (intro w' hSw; skip; go_simp; try with_reducible rfl)
  try simp only [Act.put, List.setIfInBounds_toArray, List.set_cons_zero, List.set_cons_succ, List.getElem_toArray, List.getElem_cons_succ, List.getElem_cons_zero]
  refine wpAnyH_take (i := 7) (v := ?vv8) rfl (by kernel_rfl) (by kernel_rfl) (by kernel_rfl) (fun _ _ _ h => h) (Or.inl ⟨by rfl, ?hy8⟩) hHeld ?rr8
  case hy8 => (intro w' hSw; skip; go_simp; try with_reducible rfl)
  try simp only [Act.put, List.setIfInBounds_toArray, List.set_cons_zero, List.set_cons_succ, List.getElem_toArray, List.getElem_cons_succ, List.getElem_cons_zero]
  refine wpAnyH_take (i := 8) (v := ?vv9) rfl (by kernel_rfl) (by kernel_rfl) (by kernel_rfl) (fun _ _ _ h => h) (Or.inl ⟨by rfl, ?hy9⟩) hHeld ?rr9
  case hy9 => (intro w' hSw; skip; go_simp; try with_reducible rfl)
  try simp only [Act.put, List.setIfInBounds_toArray, List.set_cons_zero, List.set_cons_succ, List.getElem_toArray, List.getElem_cons_succ, List.getElem_cons_zero]
  refine wpAnyH_take (i := 9) (v := ?vv10) rfl (by kernel_rfl) (by kernel_rfl) (by kernel_rfl) (fun _ _ _ h => h) (Or.inl ⟨by rfl, ?hy10⟩) hHeld ?rr10
  case hy10 => (intro w' hSw; skip; go_simp; try with_reducible rfl)
  try simp only [Act.put, List.setIfInBounds_toArray, List.set_cons_zero, List.set_cons_succ, List.getElem_toArray, List.getElem_cons_succ, List.getElem_cons_zero]
  refine wpAnyH_take (i := 10) (v := ?vv11) rfl (by kernel_rfl) (by kernel_rfl) (by kernel_rfl) (fun _ _ _ h => h) (Or.inl ⟨by rfl, ?hy11⟩) hHeld ?rr11
  case hy11 => (intro w' hSw; skip; go_simp; try with_reducible rfl)
  try simp only [Act.put, List.setIfInBounds_toArray, List.set_cons_zero, List.set_cons_succ, List.getElem_toArray, List.getElem_cons_succ, List.getElem_cons_zero]
  refine wpAnyH_take (i := 11) (v := ?vv12) rfl (by kernel_rfl) (by kernel_rfl) (by kernel_rfl) (fun _ _ _ h => h) (Or.inl ⟨by rfl, ?hy12⟩) hHeld ?rr12
  case hy12 => (intro w' hSw; skip; go_simp; try with_reducible rfl)
  try simp only [Act.put, List.setIfInBounds_toArray, List.set_cons_zero, List.set_cons_succ, List.getElem_toArray, List.getElem_cons_succ, List.getElem_cons_zero]
  refine wpAnyH_take (i := 12) (v := ?vv13) rfl (by kernel_rfl) (by kernel_rfl) (by kernel_rfl) (fun _ _ _ h => h) (Or.inl ⟨by rfl, ?hy13⟩) hHeld ?rr13
  case hy13 => (intro w' hSw; skip; go_simp; try with_reducible rfl)
  try simp only [Act.put, List.setIfInBounds_toArray, List.set_cons_zero, List.set_cons_succ, List.getElem_toArray, List.getElem_cons_succ, List.getElem_cons_zero]
  refine wpAnyH_ready (rs := [13]) (by kernel_rfl) (by simp) ?_
  refine AllReadyH.cons rfl (fun K hK => ?_) AllReadyH.nil
  try rw [if_pos (by rfl)]
  go_simp
  go_at_call 32
  refine Calls.mono (by with_reducible exact HPu2.out) ?_
  rintro en w5 ⟨rfl, hpo⟩
  have HPo := Lib.hid hpo
  have hc5 : w5.cell? ⟨q, 2, none⟩ = some (.int .i64 (turns + 1)) := by (obtain ⟨g, hq, _⟩ := hpo; exact hq.cell2.1)
  clear hpo
  go_wp2_with fail
  refine hK.out _ _ hc5 (fun hHeld2 => ?_)
  clear hK K hHeld
  have hHeld := hHeld2
  clear hHeld2
  try simp only [Act.put, List.setIfInBounds_toArray, List.set_cons_zero, List.set_cons_succ, List.getElem_toArray, List.getElem_cons_succ, List.getElem_cons_zero]
  refine wpAnyH_done (by kernel_rfl) ?_ _
  clear hHeld
  go_wp2
  go_ret
  obtain ⟨g, hq, hm, hh, hs⟩ := HPo.out
  exact ⟨rfl, g, hq.wide (fun k hk => hk.imp (fun h => h) (fun h => by simpa using h)), hh, HMv.out.drew.trans hm (fun _ _ h => h), setS_miss hs HNn.out⟩
set_option maxHeartbeats 4000000 in
set_option maxRecDepth 20000 in
theorem set_hit (h : Que w F q f (m + 1) turns) (hH : Heap (m + 1) f) {k : Nat} (hk : k < m + 1) {at_ : Int} (ht : tfit ⟨at_, (f k).id, turns + 1⟩) (ht0 : 0 ≤ turns) :
    Calls Try.prog 24 #[.pointer (some ⟨q, 0, none⟩), .int .i64 (f k).id, .int .i64 at_] w (QSet F q f (m + 1) (m + 1) turns ⟨at_, (f k).id, turns + 1⟩ w) := by
  have HC := Lib.hid (qclosed_any h)
  have HDr := Lib.hid (drop_hit h hH hk)
  have hN := h.few
  have HOn := Lib.hid h.once
  have ht1 : turns + 1 ≤ 9223372036854775807 := ht.2.2.2
  have HTf := Lib.hid ht
  obtain ⟨A, c, mb, D, h⟩ := h
  obtain ⟨q0, q1, q2⟩ := h.cells
  have hl := qlook_hit h hk
  obtain ⟨id, hid⟩ : ∃ id, id = (f k).id := ⟨_, rfl⟩
  rw [← hid] at HDr HTf hl ⊢
  have HId := Lib.hid hid
  have HKk := Lib.hid hk
  have HPX : Hid (∀ g V, Que V F q g m turns → Heap m g → Shuf (m + 1) f (snoc m g (f k)) → Calls Try.prog 32 #[.iface 80 (.pointer (some ⟨q, 0, none⟩)), .iface 82 (.agg #[.int .i64 at_, .int .i64 id, .int .i64 (turns + 1)])] (V.setCell ⟨q, 2, none⟩ (.int .i64 (turns + 1))).drew (InPost F q g m (turns + 1) ⟨at_, id, turns + 1⟩ (V.setCell ⟨q, 2, none⟩ (.int .i64 (turns + 1))).drew)) := Lib.hid (fun g V hq hh hs =>
    hpush_any (hq.turn (turns + 1)).drew hh ⟨at_, id, turns + 1⟩ HTf.out (by omega) (fun j hj => by rw [show (Tm.mk at_ id (turns + 1)).id = (f k).id from HId.out]; exact gone_id hs HOn.out j hj))
  clear h hid hk hN hH ht
  go_enter Try.func24, Try.ntmps24
  go_wp2_with (first
    | (go_at_call 30; refine Calls.mono (by with_reducible exact HC.out) ?_; rintro e w1 ⟨rfl, rfl⟩)
    | (go_at_call 25; refine Calls.mono (by with_reducible exact HDr.out) ?_; rintro e w2 ⟨rfl, g, hq2, hm2, hh2, hs2⟩; have HQ2 := Lib.hid hq2; have HM2 := Lib.hid hm2; have HH2 := Lib.hid hh2; have HS2 := Lib.hid hs2; have d2 := hq2.cell2.1; have e2 := hq2.cell2.2; clear hq2 hm2 hh2 hs2))
  have hc2 := (HQ2.out.turn (turns + 1)).cell2.1
  have HPu2 := Lib.hid (HPX.out g w2 HQ2.out HH2.out HS2.out)
  have HMv : Hid (Moved F w (w2.setCell ⟨q, 2, none⟩ (.int .i64 (turns + 1)))) := Lib.hid (HM2.out.setCell (.inr HQ2.out.inq) _)
  refine wp_region_held_drew (S := (fun w' => w'.cell? ⟨q, 2, none⟩ = some (.int .i64 (turns + 1)))) (by kernel_rfl) hc2 (fun hHeld => ?_)
  refine wpAnyH_take (i := 0) (v := ?vv14) rfl (by kernel_rfl) (by kernel_rfl) (by kernel_rfl) (fun _ _ _ h => h) (Or.inl ⟨by rfl, ?hy14⟩) hHeld ?rr14
  case hy14 => (intro w' hSw; skip; go_simp; try with_reducible rfl)
  try simp only [Act.put, List.setIfInBounds_toArray, List.set_cons_zero, List.set_cons_succ, List.getElem_toArray, List.getElem_cons_succ, List.getElem_cons_zero]
  refine wpAnyH_take (i := 1) (v := ?vv15) rfl (by kernel_rfl) (by kernel_rfl) (by kernel_rfl) (fun _ _ _ h => h) (Or.inl ⟨by rfl, ?hy15⟩) hHeld ?rr15
  case hy15 => (intro w' hSw; skip; go_simp; try with_reducible rfl)
  try simp only [Act.put, List.setIfInBounds_toArray, List.set_cons_zero, List.set_cons_succ, List.getElem_toArray, List.getElem_cons_succ, List.getElem_cons_zero]
  refine wpAnyH_take (i := 2) (v := ?vv16) rfl (by kernel_rfl) (by kernel_rfl) (by kernel_rfl) (fun _ _ _ h => h) (Or.inl ⟨by rfl, ?hy16⟩) hHeld ?rr16
  case hy16 => (intro w' hSw; skip; go_simp; try with_reducible rfl)
  try simp only [Act.put, List.setIfInBounds_toArray, List.set_cons_zero, List.set_cons_succ, List.getElem_toArray, List.getElem_cons_succ, List.getElem_cons_zero]
  refine wpAnyH_take (i := 3) (v := ?vv17) rfl (by kernel_rfl) (by kernel_rfl) (by kernel_rfl) (fun _ _ _ h => h) (Or.inl ⟨by rfl, ?hy17⟩) hHeld ?rr17
  case hy17 => (intro w' hSw; skip; go_simp; try with_reducible rfl)
  try simp only [Act.put, List.setIfInBounds_toArray, List.set_cons_zero, List.set_cons_succ, List.getElem_toArray, List.getElem_cons_succ, List.getElem_cons_zero]
  refine wpAnyH_take (i := 4) (v := ?vv18) rfl (by kernel_rfl) (by kernel_rfl) (by kernel_rfl) (fun _ _ _ h => h) (Or.inl ⟨by rfl, ?hy18⟩) hHeld ?rr18
  case hy18 => (intro w' hSw; skip; go_simp; try with_reducible rfl)
  try simp only [Act.put, List.setIfInBounds_toArray, List.set_cons_zero, List.set_cons_succ, List.getElem_toArray, List.getElem_cons_succ, List.getElem_cons_zero]
  refine wpAnyH_take (i := 5) (v := ?vv19) rfl (by kernel_rfl) (by kernel_rfl) (by kernel_rfl) (fun _ _ _ h => h) (Or.inl ⟨by rfl, ?hy19⟩) hHeld ?rr19
  case hy19 => (intro w' hSw; skip; go_simp; try with_reducible rfl)
  try simp only [Act.put, List.setIfInBounds_toArray, List.set_cons_zero, List.set_cons_succ, List.getElem_toArray, List.getElem_cons_succ, List.getElem_cons_zero]
  refine wpAnyH_take (i := 6) (v := ?vv20) rfl (by kernel_rfl) (by kernel_rfl) (by kernel_rfl) (fun _ _ _ h => h) (Or.inl ⟨by rfl, ?hy20⟩) hHeld ?rr20
  case hy20 => (intro w' hSw; skip; go_simp; try with_reducible rfl)
  try simp only [Act.put, List.setIfInBounds_toArray, List.set_cons_zero, List.set_cons_succ, List.getElem_toArray, List.getElem_cons_succ, List.getElem_cons_zero]
  refine wpAnyH_take (i := 7) (v := ?vv21) rfl (by kernel_rfl) (by kernel_rfl) (by kernel_rfl) (fun _ _ _ h => h) (Or.inl ⟨by rfl, ?hy21⟩) hHeld ?rr21
  case hy21 => (intro w' hSw; skip; go_simp; try with_reducible rfl)
  try simp only [Act.put, List.setIfInBounds_toArray, List.set_cons_zero, List.set_cons_succ, List.getElem_toArray, List.getElem_cons_succ, List.getElem_cons_zero]
  refine wpAnyH_take (i := 8) (v := ?vv22) rfl (by kernel_rfl) (by kernel_rfl) (by kernel_rfl) (fun _ _ _ h => h) (Or.inl ⟨by rfl, ?hy22⟩) hHeld ?rr22
  case hy22 => (intro w' hSw; skip; go_simp; try with_reducible rfl)
  try simp only [Act.put, List.setIfInBounds_toArray, List.set_cons_zero, List.set_cons_succ, List.getElem_toArray, List.getElem_cons_succ, List.getElem_cons_zero]
  refine wpAnyH_take (i := 9) (v := ?vv23) rfl (by kernel_rfl) (by kernel_rfl) (by kernel_rfl) (fun _ _ _ h => h) (Or.inl ⟨by rfl, ?hy23⟩) hHeld ?rr23
  case hy23 => (intro w' hSw; skip; go_simp; try with_reducible rfl)
  try simp only [Act.put, List.setIfInBounds_toArray, List.set_cons_zero, List.set_cons_succ, List.getElem_toArray, List.getElem_cons_succ, List.getElem_cons_zero]
  refine wpAnyH_take (i := 10) (v := ?vv24) rfl (by kernel_rfl) (by kernel_rfl) (by kernel_rfl) (fun _ _ _ h => h) (Or.inl ⟨by rfl, ?hy24⟩) hHeld ?rr24
  case hy24 => (intro w' hSw; skip; go_simp; try with_reducible rfl)
  try simp only [Act.put, List.setIfInBounds_toArray, List.set_cons_zero, List.set_cons_succ, List.getElem_toArray, List.getElem_cons_succ, List.getElem_cons_zero]
  refine wpAnyH_take (i := 11) (v := ?vv25) rfl (by kernel_rfl) (by kernel_rfl) (by kernel_rfl) (fun _ _ _ h => h) (Or.inl ⟨by rfl, ?hy25⟩) hHeld ?rr25
  case hy25 => (intro w' hSw; skip; go_simp; try with_reducible rfl)
  try simp only [Act.put, List.setIfInBounds_toArray, List.set_cons_zero, List.set_cons_succ, List.getElem_toArray, List.getElem_cons_succ, List.getElem_cons_zero]
  refine wpAnyH_take (i := 12) (v := ?vv26) rfl (by kernel_rfl) (by kernel_rfl) (by kernel_rfl) (fun _ _ _ h => h) (Or.inl ⟨by rfl, ?hy26⟩) hHeld ?rr26
  case hy26 => (intro w' hSw; skip; go_simp; try with_reducible rfl)
  try simp only [Act.put, List.setIfInBounds_toArray, List.set_cons_zero, List.set_cons_succ, List.getElem_toArray, List.getElem_cons_succ, List.getElem_cons_zero]
  refine wpAnyH_ready (rs := [13]) (by kernel_rfl) (by simp) ?_
  refine AllReadyH.cons rfl (fun K hK => ?_) AllReadyH.nil
  try rw [if_pos (by rfl)]
  go_simp
  go_at_call 32
  refine Calls.mono (by with_reducible exact HPu2.out) ?_
  rintro en w5 ⟨rfl, hpo⟩
  have HPo := Lib.hid hpo
  have hc5 : w5.cell? ⟨q, 2, none⟩ = some (.int .i64 (turns + 1)) := by (obtain ⟨g, hq, _⟩ := hpo; exact hq.cell2.1)
  clear hpo
  go_wp2_with fail
  refine hK.out _ _ hc5 (fun hHeld2 => ?_)
  clear hK K hHeld
  have hHeld := hHeld2
  clear hHeld2
  try simp only [Act.put, List.setIfInBounds_toArray, List.set_cons_zero, List.set_cons_succ, List.getElem_toArray, List.getElem_cons_succ, List.getElem_cons_zero]
  refine wpAnyH_done (by kernel_rfl) ?_ _
  clear hHeld
  go_wp2
  go_ret
  obtain ⟨g', hq, hm, hh, hs⟩ := HPo.out
  have hsz := HM2.out.size
  exact ⟨rfl, g', hq.wide (fun k hk => hk.imp (fun h => h) (fun h => by simp at h; omega)), hh, HMv.out.drew.trans hm (fun _ _ h => h), setS_hit HS2.out HOn.out HKk.out HId.out.symm hs⟩
end
end Go.Proofs.Ytkdfkhebjhnbmaa
