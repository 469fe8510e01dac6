/- Package session: Send. -/
import Derived.Test.YtihkjdoajfjnpaaSesG
import Derived.Test.YtihkjdoajfjnpaaHeldZ
set_option linter.unusedSimpArgs false
set_option linter.unusedVariables false
namespace Go.Proofs.Ytihkjdoajfjnpaa
open Go.ChangeShapes Go.WideShapes Go.ChangeAt Go.RowKit Go.Base Go.Ses

section
variable {F G : Nat → Prop} {w w1 w' : World} {p : Nat} {s s2 : Ss} {A : Option Addr} {c : Nat} {vs : List SlV} {bm : Nat} {D : DataW Value} {q : Nat → Prop}
theorem own_zero {b n k : Nat} {e : TypeId} {v : Value} {xs : List Value} (h : w.ownsRow b e k v n xs) : w.ownsRow 0 e k v n xs := by
  refine ⟨h.1, ?_⟩
  rcases h.2 with h0 | ⟨g', cap, cur, h1, h2, h3⟩
  · exact .inl h0
  · exact .inr ⟨g', cap, cur, h1, Nat.zero_le _, h3⟩
theorem cells_of_block {g : Nat} {cs : Array Value} {t : TypeId} {z : Nat × Nat} (h : w.heap[g]? = some (.cells cs t z)) : ∀ j u, cs.toList[j]? = some u → w.cell? ((⟨g, 0, none⟩ : Addr).add j) = some u := fun j u hu => by
  have e : (⟨g, 0, none⟩ : Addr).add j = ⟨g, j, none⟩ := by unfold Addr.add; split <;> simp_all
  rw [e, cell_of_row _ _ j _ _ _ h, ← Array.getElem?_toList]; exact hu
/-- Appended to what is out. -/
theorem send_end {w7 : World} {A7 : Option Addr} {c7 : Nat} {x : SlV} (h : SesX w1 F p s A c vs bm D) (hok : Ok ⟨s.mine, { s.l with out := s.l.out ++ [x.b] }⟩) (hx : ByU w1 x.A x.b)
    (hown : w7.ownsRow 0 27 1 (.slice A7 (vs.length + 1) c7) (vs.length + 1) (vs.map SlV.val ++ [x.val])) (hg : w1.grownBy w7 (Value.slice A vs.length c).ownBlock)
    (hw : (Value.slice A7 (vs.length + 1) c7).ownBlock = (Value.slice A vs.length c).ownBlock ∨ (Value.slice A7 (vs.length + 1) c7).ownBlock = some w1.heap.size) :
    SE (fun k => F k ∨ w1.heap.size ≤ k) (w7.setCell ⟨p, 6, none⟩ (.slice A7 (vs.length + 1) c7)) p ⟨s.mine, { s.l with out := s.l.out ++ [x.b] }⟩ ∧ Moved F w1 (w7.setCell ⟨p, 6, none⟩ (.slice A7 (vs.length + 1) c7)) ∧ Ku w1 (w7.setCell ⟨p, 6, none⟩ (.slice A7 (vs.length + 1) c7)) ∧ w7.cell? ⟨p, 6, none⟩ = some (.slice A vs.length c) ∧ w7.frozen? ⟨p, 6, none⟩ = false := by
  have hs7 : w7.heap[p]? = some (.cells (sesC s A vs.length c bm) 60 (0, 0)) := (hg.block p h.lt (fun e => h.row_ne.1 e.symm)).trans h.self
  have hm7 : Moved (fun k => (Value.slice A vs.length c).ownBlock = some k) w1 w7 := Moved.grown (p := fun k => (Value.slice A vs.length c).ownBlock = some k) (Moved.refl _ w1) hg (fun k _ e => e)
  obtain ⟨W, hW⟩ : ∃ W, W = w7.setCell ⟨p, 6, none⟩ (.slice A7 (vs.length + 1) c7) := ⟨_, rfl⟩
  have hmp : Moved (fun k => k = p) w7 W := by rw [hW]; exact (Moved.refl (fun k => k = p) w7).setCell (.inr rfl) _
  have hself := heap_set hs7 6 (.slice A7 (vs.length + 1) c7)
  rw [← hW] at hself ⊢
  clear hW
  have hmv : Moved (fun k => k = p ∨ (Value.slice A vs.length c).ownBlock = some k) w1 W := (hm7.weaken (fun k _ e => .inr e)).trans hmp (fun k _ e => .inl e)
  have hku : Ku w1 W := h.row_ku hmv
  have hln : (vs ++ [x]).length = vs.length + 1 := by simp
  refine ⟨⟨A7, c7, vs ++ [x], bm, D, h.row_set (s2 := ⟨s.mine, { s.l with out := s.l.out ++ [x.b] }⟩) hmv (fun e => e.elim (fun e => h.bm_ne h.self e) (fun e => h.row_ne.2 e)) hku ?_ ?_ ?_ (fun y hy => ?_) hok rfl rfl ⟨.inl h.inF.1, .inl h.inF.2.1, fun k hk => ?_⟩⟩, ?_, hku, cell_of_row _ _ 6 _ _ _ hs7, (cells_of_heap hs7).2 6⟩
  · rw [hself, hln]; rfl
  · rw [hln, List.map_append]
    exact own_moved hown hmp (fun k hk e => by
      subst e
      rcases hown.2 with ⟨h0, _⟩ | ⟨g, cap, cur, h0, _, hg, _⟩
      · rw [h0] at hk; cases hk
      · rw [h0] at hk
        have hk : g = k := Option.some.inj hk
        subst hk
        exact block_ne hg hs7 (by decide) rfl)
  · rw [List.map_append, h.outs]; rfl
  · rcases List.mem_append.1 hy with hy | hy
    · exact (h.bod y hy).kept hku
    · rw [List.mem_singleton.1 hy]; exact hx.kept hku
  · rw [hln] at hk
    rcases hw with e | e
    · exact .inl (h.inF.2.2 k (e ▸ hk))
    · rw [e] at hk; injection hk with hk; exact .inr (by omega)
  · exact hmv.weaken (fun k _ e => e.elim (fun e => e ▸ h.inF.1) (fun e => h.inF.2.2 k e))
set_option maxHeartbeats 4000000 in
set_option maxRecDepth 20000 in
theorem send_any (h : SesX w F p s A c vs bm D) (A0 : Option Addr) (b : List UInt8) (c0 : Nat) (hy : Byt w A0 b) (hm : b.length ≤ 9223372036854775807) :
    Calls Try.prog 11 #[.pointer (some ⟨p, 0, none⟩), .slice A0 b.length c0] w (OpS F p (sendS s b).2 (.int .i64 (sendS s b).1) w) := by
  have HX := Lib.hid h
  have HC := Lib.hid (closed_any h)
  have HNx := Lib.hid (next_any h)
  have c1 := h.c1
  have c6 := h.c6
  have hfew := h.ok.few
  have hl := h.len
  have HSame : Hid (SE (fun k => F k ∨ w.heap.size ≤ k) w p s) := Lib.hid (h.wide (fun k h => .inl h)).se
  by_cases hL : 32768 < b.length
  · have hL' : (32768 : Int) < (b.length : Int) := by omega
    have HE : Hid (sendS s b = (3, s)) := Lib.hid (by unfold sendS; rw [if_pos hL])
    clear h hl hfew hL
    go_enter Try.func11, Try.ntmps11
    go_wp2_with (go_at_call 19; refine Calls.mono HC.out ?_; rintro e w1 ⟨rfl, rfl⟩)
    go_ret
    rw [HE.out]
    exact ⟨rfl, HSame.out, Moved.refl _ _, Ku.refl _⟩
  have hL' : ¬ (32768 : Int) < (b.length : Int) := by omega
  by_cases hY : s.l.yours = 0
  · have HE : Hid (sendS s b = (130, s)) := Lib.hid (by unfold sendS; rw [if_neg hL, if_pos hY])
    rw [hY] at c1
    clear h hl hfew hL hY
    go_enter Try.func11, Try.ntmps11
    go_wp2_with (go_at_call 19; refine Calls.mono HC.out ?_; rintro e w1 ⟨rfl, rfl⟩)
    go_ret
    rw [HE.out]
    exact ⟨rfl, HSame.out, Moved.refl _ _, Ku.refl _⟩
  by_cases hF : 64 ≤ s.l.out.length
  · have HE : Hid (sendS s b = (2, s)) := Lib.hid (by unfold sendS; rw [if_neg hL, if_neg hY, if_pos (.inl hF)])
    have hF' : (64 : Int) ≤ (vs.length : Int) := by omega
    have hY' : (s.l.yours == 0) = false := by simpa using hY
    generalize s.l.yours = y at *
    clear h hl hfew hL hY hF
    generalize vs.length = n at *
    go_enter Try.func11, Try.ntmps11
    go_wp2_with (go_at_call 19; refine Calls.mono HC.out ?_; rintro e w1 ⟨rfl, rfl⟩)
    go_ret
    rw [HE.out]
    exact ⟨rfl, HSame.out, Moved.refl _ _, Ku.refl _⟩
  have hF' : ¬ (64 : Int) ≤ (vs.length : Int) := by omega
  have hY' : (s.l.yours == 0) = false := by simpa using hY
  by_cases hN : 2147483647 < s.l.next
  · have HE : Hid (sendS s b = (2, s)) := Lib.hid (by unfold sendS; rw [if_neg hL, if_neg hY, if_pos (.inr hN)])
    generalize s.l.yours = y at *
    clear h hl hfew hL hY hF
    generalize vs.length = n at *
    generalize s.l.next = nx at *
    go_enter Try.func11, Try.ntmps11
    go_wp2_with (first
      | (go_at_call 19; refine Calls.mono HC.out ?_; rintro e w1 ⟨rfl, rfl⟩)
      | (go_at_call 24; refine Calls.mono (by with_reducible exact HNx.out) ?_; rintro e w1 ⟨rfl, hb⟩; have HB := Lib.hid hb; clear hb))
    go_ret
    rw [HE.out]
    exact ⟨rfl, ((HX.out.later HB.out).wide (fun k h => .inl h)).se, Below.movedNew HB.out, Below.ku HB.out⟩
  have HE : Hid (sendS s b = (0, ⟨s.mine, { s.l with out := s.l.out ++ [b] }⟩)) := Lib.hid (by unfold sendS; rw [if_neg hL, if_neg hY, if_neg (fun e => e.elim hF hN)])
  have HOk : Hid (Ok ⟨s.mine, { s.l with out := s.l.out ++ [b] }⟩) := Lib.hid (by have := ok_send h.ok b; rw [HE.out] at this; exact this)
  have HBy := Lib.hid hy
  have HL := Lib.hid hL
  obtain ⟨i0, hinfo, hz0, hzs, hz2⟩ := info_parts (P := Try.prog) (e := 27) (z := .slice none 0 0) (size := 1) (bytes := 24) (by kernel_rfl)
  obtain ⟨n, hn⟩ : ∃ n, n = vs.length := ⟨_, rfl⟩
  rw [← hn] at c6 hF' hl
  have hn64 : n ≤ 64 := by omega
  have HNn := Lib.hid hn
  have hN' : ¬ 2147483647 < s.l.next := hN
  generalize s.l.yours = y at *
  clear h hl hfew hL hY hF hn hy hN
  generalize s.l.next = nx at *
  go_enter Try.func11, Try.ntmps11
  go_wp2_with (first
    | (go_at_call 19; refine Calls.mono HC.out ?_; rintro e w1 ⟨rfl, rfl⟩)
    | (go_at_call 24; refine Calls.mono (by with_reducible exact HNx.out) ?_; rintro e w1 ⟨rfl, hb⟩; have HB := Lib.hid hb; clear hb))
  have HX1 := Lib.hid (HX.out.later HB.out)
  have q6 := HX1.out.c6
  rw [← HNn.out] at q6
  clear c1 c6
  refine wp_region_heldz_drew (S := (fun V => V.cell? ⟨p, 6, none⟩ = some (.slice A n c))) 13 (by kernel_rfl) q6 (fun hHeld => ?_)
  refine wpAnyZ_take (i := 0) (v := ?vv1) rfl (by kernel_rfl) (by kernel_rfl) (by kernel_rfl) (fun _ _ _ h => h) (Or.inl ⟨by rfl, ?hy1⟩) hHeld ?rr1
  case hy1 => (intro w' hSw; have s0 := hSw; go_simp; try with_reducible rfl)
  try simp only [Act.put, List.setIfInBounds_toArray, List.set_cons_zero, List.set_cons_succ, List.getElem_toArray, List.getElem_cons_succ, List.getElem_cons_zero]
  refine wpAnyZ_take (i := 1) (v := ?vv2) rfl (by kernel_rfl) (by kernel_rfl) (by kernel_rfl) (fun _ _ _ h => h) (Or.inl ⟨by rfl, ?hy2⟩) hHeld ?rr2
  case hy2 => (intro w' hSw; have s0 := hSw; go_simp; try with_reducible rfl)
  try simp only [Act.put, List.setIfInBounds_toArray, List.set_cons_zero, List.set_cons_succ, List.getElem_toArray, List.getElem_cons_succ, List.getElem_cons_zero]
  refine wpAnyZ_take (i := 2) (v := ?vv3) rfl (by kernel_rfl) (by kernel_rfl) (by kernel_rfl) (fun _ _ _ h => h) (Or.inl ⟨by rfl, ?hy3⟩) hHeld ?rr3
  case hy3 => (intro w' hSw; have s0 := hSw; go_simp; try with_reducible rfl)
  try simp only [Act.put, List.setIfInBounds_toArray, List.set_cons_zero, List.set_cons_succ, List.getElem_toArray, List.getElem_cons_succ, List.getElem_cons_zero]
  refine wpAnyZ_take (i := 3) (v := ?vv4) rfl (by kernel_rfl) (by kernel_rfl) (by kernel_rfl) (fun _ _ _ h => h) (Or.inl ⟨by rfl, ?hy4⟩) hHeld ?rr4
  case hy4 => (intro w' hSw; have s0 := hSw; go_simp; try with_reducible rfl)
  try simp only [Act.put, List.setIfInBounds_toArray, List.set_cons_zero, List.set_cons_succ, List.getElem_toArray, List.getElem_cons_succ, List.getElem_cons_zero]
  refine wpAnyZ_take (i := 4) (v := ?vv5) rfl (by kernel_rfl) (by kernel_rfl) (by kernel_rfl) (fun _ _ _ h => h) (Or.inl ⟨by rfl, ?hy5⟩) hHeld ?rr5
  case hy5 => (intro w' hSw; have s0 := hSw; go_simp; try with_reducible rfl)
  try simp only [Act.put, List.setIfInBounds_toArray, List.set_cons_zero, List.set_cons_succ, List.getElem_toArray, List.getElem_cons_succ, List.getElem_cons_zero]
  refine wpAnyZ_take (i := 5) (v := ?vv6) rfl (by kernel_rfl) (by kernel_rfl) (by kernel_rfl) (fun _ _ _ h => h) (Or.inl ⟨by rfl, ?hy6⟩) hHeld ?rr6
  case hy6 => (intro w' hSw; have s0 := hSw; go_simp; try with_reducible rfl)
  try simp only [Act.put, List.setIfInBounds_toArray, List.set_cons_zero, List.set_cons_succ, List.getElem_toArray, List.getElem_cons_succ, List.getElem_cons_zero]
  refine wpAnyZ_take (i := 6) (v := ?vv7) rfl (by kernel_rfl) (by kernel_rfl) (by kernel_rfl) (fun _ _ _ h => h) (Or.inl ⟨by rfl, ?hy7⟩) hHeld ?rr7
  case hy7 => (intro w' hSw; have s0 := hSw; go_simp; try with_reducible rfl)
  try simp only [Act.put, List.setIfInBounds_toArray, List.set_cons_zero, List.set_cons_succ, List.getElem_toArray, List.getElem_cons_succ, List.getElem_cons_zero]
  refine wpAnyZ_ready (rs := [7]) (by kernel_rfl) (by simp) ?_
  refine AllReadyZ.cons rfl (fun K hK => ?_) AllReadyZ.nil
  try rw [if_pos (by rfl)]
  go_simp
  go_at_call 25
  refine Calls.mono (clone_any A0 b c0 _ ((HBy.out.later HB.out).later (Below.refl _ _).drew) (by have := HL.out; omega)) ?_
  rintro e w3 ⟨A3, c3, rfl, hby3, hb3, hl3, hc31, hc32, hown3⟩
  have HB3 : Hid (Below w1.heap.size w1 w3) := Lib.hid ((Below.refl _ _).drew.trans hb3)
  have HX3 := Lib.hid (HX1.out.later HB3.out)
  have q3 := HX3.out.c6
  rw [← HNn.out] at q3
  have HU3 := Lib.hid (own_byu hown3)
  clear hby3 hb3 hl3 hc31 hc32 hown3
  go_wp2_with fail
  refine hK.out _ _ q3 (fun hHeld2 => ?_)
  clear hK K hHeld
  have hHeld := hHeld2
  clear hHeld2
  try simp only [Act.put, List.setIfInBounds_toArray, List.set_cons_zero, List.set_cons_succ, List.getElem_toArray, List.getElem_cons_succ, List.getElem_cons_zero]
  refine wpAnyZ_ready (rs := [8]) (by kernel_rfl) (by simp) ?_
  refine AllReadyZ.cons rfl (fun K hK => ?_) AllReadyZ.nil
  try rw [if_pos (by rfl)]
  go_simp
  refine hK.out _ _ (cell_old _ q3) (fun hHeld2 => ?_)
  clear hK K hHeld
  have hHeld := hHeld2
  clear hHeld2
  try simp only [Act.put, List.setIfInBounds_toArray, List.set_cons_zero, List.set_cons_succ, List.getElem_toArray, List.getElem_cons_succ, List.getElem_cons_zero]
  have HB4 : Hid (Below w3.heap.size w3 (w3.alloc (.cells #[.slice A3 b.length c3] 27))) := Lib.hid (below_alloc _ _)
  have HX4 := Lib.hid (HX3.out.later HB4.out)
  refine wpAnyZ_ready (rs := [9]) (by kernel_rfl) (by simp) ?_
  refine AllReadyZ.cons rfl (fun K hK => ?_) AllReadyZ.nil
  try rw [if_pos (by rfl)]
  refine oper_append_k _ (.tmp 39) (.tmp 42) 34 rfl 27 i0 (.slice none 0 0) 1 24 Try.underlying34 hinfo hz0 hzs hz2 rfl (by decide) 0 _ n (vs.map SlV.val) rfl (by rw [HNn.out]; exact HX4.out.row) (some ⟨w3.heap.size, 0, none⟩) 1 1 [.slice A3 b.length c3] rfl rfl (fun _ => ⟨_, rfl, cells_of_block (heap_new w3 (.cells #[.slice A3 b.length c3] 27))⟩) (fun u hu => by rw [List.mem_singleton.1 hu]; rfl) (by unfold maxLen; omega) (by omega) (Nat.zero_le _) ?_
  intro A7 c7 w7 hown7 hgrow7 hwh7
  rw [HNn.out] at hown7 hgrow7 hwh7
  obtain ⟨e1, e2, e3, q7, f7⟩ := send_end (x := ⟨b, A3, c3⟩) HX4.out HOk.out (HU3.out.later HB4.out) hown7 hgrow7 hwh7
  have HR : Hid (SE (fun k => F k ∨ w.heap.size ≤ k) (w7.setCell ⟨p, 6, none⟩ (.slice A7 (vs.length + 1) c7)) p ⟨s.mine, { s.l with out := s.l.out ++ [b] }⟩ ∧ Moved F w (w7.setCell ⟨p, 6, none⟩ (.slice A7 (vs.length + 1) c7)) ∧ Ku w (w7.setCell ⟨p, 6, none⟩ (.slice A7 (vs.length + 1) c7))) := Lib.hid (by
    have hb := HB.out.trans ((HB3.out.trans (HB4.out.mono HB3.out.size)).mono HB.out.size)
    exact ⟨e1.wide (fun k hk => hk.imp id (fun hk => Nat.le_trans hb.size hk)), (Below.movedNew hb).trans e2 (fun _ _ h => h), (Below.ku hb).trans e3⟩)
  rw [← HNn.out] at q7 HR
  clear e1 e2 e3 hown7 hgrow7 hwh7
  refine hK.out _ _ q7 (fun hHeld2 => ?_)
  clear hK K hHeld
  have hHeld := hHeld2
  clear hHeld2
  try simp only [Act.put, List.setIfInBounds_toArray, List.set_cons_zero, List.set_cons_succ, List.getElem_toArray, List.getElem_cons_succ, List.getElem_cons_zero]
  refine wpAnyZ_ready (rs := [10]) (by kernel_rfl) (by simp) ?_
  refine AllReadyZ.cons rfl (fun K hK => ?_) AllReadyZ.nil
  try rw [if_pos (by rfl)]
  go_simp
  refine hK.out _ _ q7 (fun hHeld2 => ?_)
  clear hK K hHeld
  have hHeld := hHeld2
  clear hHeld2
  try simp only [Act.put, List.setIfInBounds_toArray, List.set_cons_zero, List.set_cons_succ, List.getElem_toArray, List.getElem_cons_succ, List.getElem_cons_zero]
  refine wpAnyZ_ready (rs := [11]) (by kernel_rfl) (by simp) ?_
  refine AllReadyZ.cons rfl (fun K hK => ?_) AllReadyZ.nil
  try rw [if_pos (by rfl)]
  go_simp
  refine hK.out _ _ q7 (fun hHeld2 => ?_)
  clear hK K hHeld
  have hHeld := hHeld2
  clear hHeld2
  try simp only [Act.put, List.setIfInBounds_toArray, List.set_cons_zero, List.set_cons_succ, List.getElem_toArray, List.getElem_cons_succ, List.getElem_cons_zero]
  refine wpAnyZ_take (i := 12) (v := ?vv8) rfl (by kernel_rfl) (by kernel_rfl) (by kernel_rfl) (fun _ _ _ h => h) (Or.inl ⟨by rfl, ?hy8⟩) hHeld ?rr8
  case hy8 => (intro w' hSw; have s0 := hSw; go_simp; try with_reducible rfl)
  try simp only [Act.put, List.setIfInBounds_toArray, List.set_cons_zero, List.set_cons_succ, List.getElem_toArray, List.getElem_cons_succ, List.getElem_cons_zero]
  refine wpAnyZ_ready (rs := [13]) (by kernel_rfl) (by simp) ?_
  refine AllReadyZ.last rfl (fun K hK => ?_)
  try rw [if_pos (by rfl)]
  go_simp
  refine hK.out _ _ ?_
  clear hK K hHeld
  try simp only [Act.put, List.setIfInBounds_toArray, List.set_cons_zero, List.set_cons_succ, List.getElem_toArray, List.getElem_cons_succ, List.getElem_cons_zero]
  refine wpAnyZ_done (by kernel_rfl) ?_ _
  go_wp2
  go_ret
  rw [HE.out]
  exact ⟨rfl, HR.out⟩
end
end Go.Proofs.Ytihkjdoajfjnpaa
