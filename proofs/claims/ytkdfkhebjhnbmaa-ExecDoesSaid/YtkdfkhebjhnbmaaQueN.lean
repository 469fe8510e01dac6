/- Package queue: Pop, Next. -/
import Derived.Test.YtkdfkhebjhnbmaaQueM
set_option linter.unusedSimpArgs false
set_option linter.unusedVariables false
namespace Go.Proofs.Ytkdfkhebjhnbmaa
open Go.ChangeShapes Go.WideShapes Go.ChangeAt Go.RowKit Go.Base Go.Que

section
variable {w w' : World} {F G : Nat → Prop} {q c mb n N m : Nat} {A : Option Addr} {D : DataW Unit} {f : Nat → Tm} {turns : Int}
/-- The queue's own blocks alone. -/
theorem Que.tight (h : Que w F q f n turns) : ∃ F0 : Nat → Prop, Que w F0 q f n turns ∧ (∀ k, F0 k → F k) ∧ ∀ k, F0 k → k < w.heap.size := by
  obtain ⟨A, c, mb, D, h⟩ := h
  refine ⟨fun k => k = q ∨ k = mb ∨ (Value.slice A n c).ownBlock = some k, ⟨A, c, mb, D, { h with inF := ⟨.inl rfl, .inr (.inl rfl), fun k hk => .inr (.inr hk)⟩ }⟩, fun k hk => ?_, fun k hk => ?_⟩
  · rcases hk with e | e | e
    · rw [e]; exact h.inF.1
    · rw [e]; exact h.inF.2.1
    · exact h.inF.2.2 k e
  · rcases hk with e | e | e
    · rw [e]; exact heap_lt h.row.self
    · obtain ⟨es, clock, hb⟩ := h.map_lies
      rw [e]; exact heap_lt hb
    · exact (h.row.own.choose_spec.1.lt k e).2
theorem Que.kept {p : Nat → Prop} (h : Que w F q f n turns) (hm : Moved p w w') (hn : ∀ k, F k → ¬ p k) : Que w' F q f n turns := by
  obtain ⟨A, c, mb, D, h⟩ := h
  exact ⟨A, c, mb, D, h.kept hm hn⟩
theorem Que.put2 (h : Que w F q f n turns) {b : Nat} (hb : ¬ F b) (x y : Value) : Que ((w.setCell ⟨b, 0, none⟩ x).setCell ⟨b, 1, none⟩ y) F q f n turns :=
  h.kept (p := fun k => k = b) (((Moved.refl (fun k => k = b) w).setCell (.inr rfl) _).setCell (.inr rfl) _) (fun k hk e => hb (e ▸ hk))
def QPop (F : Nat → Prop) (q : Nat) (f : Nat → Tm) (n : Nat) (turns : Int) (now : Int) (w : World) (e : Ending) (w' : World) : Prop :=
  e = .returned (dueV f n now) ∧ ((0 < n ∧ (f 0).at_ ≤ now) → ∃ m g, n = m + 1 ∧ Que w' F q g m turns ∧ Heap m g ∧ Shuf (m + 1) f (snoc m g (f 0))) ∧ (¬ (0 < n ∧ (f 0).at_ ≤ now) → Que w' F q f n turns) ∧ Moved F w w'
theorem QPop.wide {now : Int} {e : Ending} (h : QPop F q f n turns now w e w') (hG : ∀ k, F k → G k) : QPop G q f n turns now w e w' := by
  obtain ⟨h1, h2, h3, h4⟩ := h
  refine ⟨h1, fun hh => ?_, fun hh => (h3 hh).wide hG, h4.weaken (fun k _ => hG k)⟩
  obtain ⟨m, g, e, hq, r⟩ := h2 hh
  exact ⟨m, g, e, hq.wide hG, r⟩
set_option maxHeartbeats 2000000 in
set_option maxRecDepth 20000 in
theorem pop_tight (h : Que w F q f n turns) (hF : ∀ k, F k → k < w.heap.size) (hH : Heap n f) (now : Int) : Calls Try.prog 34 #[.iface 80 (.pointer (some ⟨q, 0, none⟩)), .int .i64 now] w (QPop F q f n turns now w) := by
  have HD := Lib.hid (fun V (hV : Below w.heap.size w V) => due_any (h.later hV) now)
  have H := Lib.hid h
  have HA := Lib.hid (below_alloc w (.cells #[.int .i64 0, .int .i64 0] 65))
  have HFl := Lib.hid hF
  by_cases hd : 0 < n ∧ (f 0).at_ ≤ now
  · obtain ⟨m, rfl⟩ : ∃ m, n = m + 1 := ⟨n - 1, by omega⟩
    have HPo := Lib.hid (fun V (hV : Below w.heap.size w V) => hpop_any (h.later hV) hH)
    obtain ⟨a, ha⟩ : ∃ a, a = f 0 := ⟨_, rfl⟩
    have HV : Hid (dueV f (m + 1) now = .tuple #[.agg #[.int .i64 a.at_, .int .i64 a.id], .bool true]) := Lib.hid (by unfold dueV; rw [if_pos hd, ha])
    have HDu := Lib.hid hd
    clear h hH ha hd hF
    go_enter Try.func34, Try.ntmps34
    go_wp2_with (first
      | (go_at_call 35; refine Calls.mono (HD.out _ HA.out) ?_; rintro e w1 ⟨rfl, hb⟩; rw [HV.out]; have HB1 := Lib.hid (HA.out.trans (hb.mono (by simp))); have hsz : w.heap.size + 1 ≤ w1.heap.size := (by have := hb.size; simp at this; omega); have HK4 := Lib.hid (kept_new hb); clear hb)
      | (go_at_call 40; refine Calls.mono (HPo.out _ (HB1.out.alloc HB1.out.size _)) ?_; rintro e w2 ⟨rfl, g, hq2, hm2, hh2, hs2⟩; have HQ2 := Lib.hid hq2; have HM2 := Lib.hid ((Below.movedNew (HB1.out.alloc HB1.out.size _)).trans hm2 (fun _ _ h => h)); have HH2 := Lib.hid hh2; have HS2 := Lib.hid hs2; have k4 := hm2.heap (heap_old _ (by omega) HK4.out) (fun h => by have := HFl.out _ h; omega); have k6 := hm2.heap (heap_new w1 _) (fun h => by have := HFl.out _ h; omega); obtain ⟨u4, f4⟩ := cells_of_heap k4; obtain ⟨u6, f6⟩ := cells_of_heap k6; have c40 := u4 0; have c41 := u4 1; have c60 := u6 0; have c61 := u6 1; have f40 := f4 0; have f41 := f4 1; clear hq2 hm2 hh2 hs2 k4 k6 u4 u6 f4 f6))
    refine bodyPost_ret (v := .tuple #[.agg #[.int .i64 a.at_, .int .i64 a.id], .bool true]) (by simp [results, Try.results34, go_sem, c40, c41]) rfl ⟨by rw [HV.out], fun _ => ⟨m, g, rfl, HQ2.out.put2 (fun h => by have := HFl.out _ h; omega) _ _, HH2.out, HS2.out⟩, fun h => absurd HDu.out h, (HM2.out.setCell (.inl (Nat.le_refl _)) _).setCell (.inl (Nat.le_refl _)) _⟩
  · have HV : Hid (dueV f n now = .tuple #[.agg #[.int .i64 0, .int .i64 0], .bool false]) := Lib.hid (by unfold dueV; rw [if_neg hd])
    have HDu := Lib.hid hd
    clear h hH hd hF
    go_enter Try.func34, Try.ntmps34
    go_wp2_with (go_at_call 35; refine Calls.mono (HD.out _ HA.out) ?_; rintro e w1 ⟨rfl, hb⟩; rw [HV.out]; have HB1 := Lib.hid (HA.out.trans (hb.mono (by simp))); have hsz : w.heap.size + 1 ≤ w1.heap.size := (by have := hb.size; simp at this; omega); have k4 := heap_old (.cells #[.int .i64 0, .int .i64 0] 65) (by omega) (kept_new hb); obtain ⟨u4, f4⟩ := cells_of_heap k4; have c40 := u4 0; have c41 := u4 1; have f40 := f4 0; have f41 := f4 1; clear hb k4 u4 f4)
    exact bodyPost_ret (v := .tuple #[.agg #[.int .i64 0, .int .i64 0], .bool false]) (by simp [results, Try.results34, go_sem, c40, c41]) rfl ⟨by rw [HV.out], fun h => absurd h HDu.out, fun _ => (H.out.later (HB1.out.alloc HB1.out.size _)).put2 (fun h => by have := HFl.out _ h; omega) _ _, ((Below.movedNew (HB1.out.alloc HB1.out.size _)).setCell (.inl (Nat.le_refl _)) _).setCell (.inl (Nat.le_refl _)) _⟩
theorem pop_any (h : Que w F q f n turns) (hH : Heap n f) (now : Int) : Calls Try.prog 34 #[.iface 80 (.pointer (some ⟨q, 0, none⟩)), .int .i64 now] w (QPop F q f n turns now w) := by
  obtain ⟨F0, h0, hG, hF⟩ := h.tight
  exact (pop_tight h0 hF hH now).mono fun e w' hp => hp.wide hG
end
end Go.Proofs.Ytkdfkhebjhnbmaa
