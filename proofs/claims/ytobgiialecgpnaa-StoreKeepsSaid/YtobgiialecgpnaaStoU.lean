/- Walks of package store: Rename, whole. -/
import Derived.Test.YtobgiialecgpnaaStoT
set_option linter.unusedSimpArgs false
set_option linter.unusedVariables false
namespace Go.Proofs.Ytobgiialecgpnaa
open Go.ChangeShapes Go.WideShapes Go.ChangeAt Go.RowKit Go.Base Go.Sto Go.Maps

section
variable {w w1 w' : World} {F G : Nat → Prop} {p bm : Nat} {D : DataW Unit} {es : List Ent} {room : Nat} {left : Int}
theorem StoX.lt (h : StoX w F p bm D es room left) : StoX w (fun k => F k ∧ k < w.heap.size) p bm D es room left :=
  { h with inF := ⟨⟨h.inF.1, heap_lt h.self⟩, ⟨h.inF.2.1, by obtain ⟨E, clock, hb, _⟩ := h.map; exact heap_lt hb⟩, fun e he => ⟨⟨(h.inF.2.2 e he).1, heap_lt (h.file e he)⟩, fun k hk => ⟨(h.inF.2.2 e he).2 k hk, by
    rcases (h.row e he).2 with ⟨h0, _⟩ | ⟨g, cap, cur, h0, _, hg, _⟩
    · rw [h0] at hk; cases hk
    · rw [h0] at hk; have hk := Option.some.inj hk; rw [← hk]; exact heap_lt hg⟩⟩⟩ }
set_option maxHeartbeats 1000000 in
theorem change_ren (h : StoX w F p bm D es room left) (s t : ByteArray) (hs : s.size ≤ maxLen) (ht : t.size ≤ maxLen) (hto : okName t.data.toList = true) (hl : left ≠ 0) {e : Ent} (he : e ∈ es) (hn : e.f.name = s.data.toList) (k0 k1 k2 : Nat)
    (b0 : w.heap[k0]? = some (.cells #[.pointer (some ⟨p, 0, none⟩)] 23 (0, 0))) (b1 : w.heap[k1]? = some (.cells #[.string s] 9 (0, 0))) (b2 : w.heap[k2]? = some (.cells #[.string t] 9 (0, 0))) :
    Calls Try.prog 40 #[.pointer (some ⟨p, 0, none⟩), .string s, .bool true, .func (.func 44) #[] #[.pointer (some ⟨k0, 0, none⟩), .pointer (some ⟨k1, 0, none⟩), .pointer (some ⟨k2, 0, none⟩)]] w
      (StepPost F F p (0, ⟨ins ⟨t.data.toList, e.f.bytes, e.f.bytes.length, true⟩ (del s.data.toList (es.map (·.f))), room, wear left⟩) w) := by
  have HF := Lib.hid (find_some h s hs hl he hn)
  have HS := Lib.hid (renc_any h s t hs ht hto he hn k0 k1 k2 b0 b1 b2)
  have HI := Lib.hid h.inF
  have HE := Lib.hid he
  clear h hs hn b0 b1 b2 he
  go_enter Try.func40, Try.ntmps40
  go_wp2_with (first
    | (go_at_call 47; refine Calls.mono (by with_reducible exact HF.out) ?_; rintro e' w1 ⟨rfl, rfl⟩)
    | (go_at_call 44; refine Calls.mono (by with_reducible exact HS.out) ?_; rintro e' w2 ⟨rfl, ⟨D2, es2, hx, hes⟩, hm⟩; have HX2 := Lib.hid hx; have HE2 := Lib.hid hes; have HM2 := Lib.hid hm; clear hx hes hm)
    | (go_at_call 27; refine Calls.mono (by with_reducible exact wear_any HX2.out) ?_; rintro e' w3 ⟨rfl, hx, hm, hz⟩; have HX3 := Lib.hid hx; have HM3 := Lib.hid hm; clear hx hm hz))
  go_ret
  refine ⟨rfl, ⟨bm, D2, es2, HX3.out, HE2.out⟩, (HM2.out.weaken (fun k _ h => ?_)).trans HM3.out (fun k _ h => by rw [h]; exact HI.out.1)⟩
  rcases h with rfl | rfl
  · exact (HI.out.2.2 e HE.out).1
  · exact HI.out.2.1
theorem at_world2 {C P : World → Prop} {W : World} (h : P W) (h2 : ∀ V, P V → C V) : C W := h2 _ h
set_option maxHeartbeats 4000000 in
set_option maxRecDepth 20000 in
theorem rename_any {st : St} (h : Sto w F p st) (s t : ByteArray) (hs : s.size ≤ maxLen) (ht : t.size ≤ maxLen) :
    Calls Try.prog 17 #[.pointer (some ⟨p, 0, none⟩), .string s, .string t] w (StepPost F (fun k => F k ∨ w.heap.size ≤ k) p (renameR st s.data.toList t.data.toList) w) := by
  obtain ⟨bm, D, es, hx, hes⟩ := h
  have HX := Lib.hid hx.lt
  have HE := Lib.hid hes
  have HSs := Lib.hid hs
  have HTs := Lib.hid ht
  obtain ⟨r, hr⟩ : ∃ r, r = renameR st s.data.toList t.data.toList := ⟨_, rfl⟩
  rw [← hr]
  have HRr := Lib.hid hr
  clear hx hes hs ht hr
  go_enter Try.func17, Try.ntmps17
  go_wp2_with fail
  refine at_world2 (C := fun V => Code.wp _ _ _ _ V) (P := fun V => Below w.heap.size w V ∧ V.heap[w.heap.size]? = some (.cells #[.pointer (some ⟨p, 0, none⟩)] 23 (0, 0)) ∧ V.heap[w.heap.size + 1]? = some (.cells #[.string s] 9 (0, 0)) ∧ V.heap[w.heap.size + 1 + 1]? = some (.cells #[.string t] 9 (0, 0))) ?hW0 (fun W0 hW0 => ?_)
  case hW0 =>
    have a1 := heap_new w (.cells #[.pointer (some ⟨p, 0, none⟩)] 23)
    have a2 := heap_new (w.alloc (.cells #[.pointer (some ⟨p, 0, none⟩)] 23)) (.cells #[.string s] 9)
    have a3 := heap_new ((w.alloc (.cells #[.pointer (some ⟨p, 0, none⟩)] 23)).alloc (.cells #[.string s] 9)) (.cells #[.string t] 9)
    have b2 := below_alloc (w.alloc (.cells #[.pointer (some ⟨p, 0, none⟩)] 23)) (.cells #[.string s] 9)
    have b3 := below_alloc ((w.alloc (.cells #[.pointer (some ⟨p, 0, none⟩)] 23)).alloc (.cells #[.string s] 9)) (.cells #[.string t] 9)
    have c1 := (b3.block _ (heap_lt ((b2.block _ (heap_lt a1)).trans a1))).trans ((b2.block _ (heap_lt a1)).trans a1)
    have c2 := (b3.block _ (heap_lt a2)).trans a2
    simp only [World.size_alloc] at c2 a3
    exact ⟨(((below_alloc w _).alloc (by simp) _).alloc (by simp; omega) _), c1, c2, a3⟩
  obtain ⟨hWb, e0, e1, e2⟩ := hW0
  have hDb : Below W0.heap.size W0 W0.drew := (Below.refl W0.heap.size W0).drew
  have hAb : Below W0.heap.size W0 (W0.alloc (.cells #[.string s, .string t] 9)).drew := (below_alloc W0 _).drew
  have d0 := kept_cell e0 (Below.movedNew (p := fun _ => False) hDb) (fun h => h)
  have d1 := kept_cell e1 (Below.movedNew (p := fun _ => False) hDb) (fun h => h)
  have d2 := kept_cell e2 (Below.movedNew (p := fun _ => False) hDb) (fun h => h)
  have f0 := kept_cell e0 (Below.movedNew (p := fun _ => False) hAb) (fun h => h)
  have f1 := kept_cell e1 (Below.movedNew (p := fun _ => False) hAb) (fun h => h)
  have f2 := kept_cell e2 (Below.movedNew (p := fun _ => False) hAb) (fun h => h)
  have HS0 : Hid ((fun w' => w'.cell? ⟨w.heap.size, 0, none⟩ = some (.pointer (some ⟨p, 0, none⟩)) ∧ w'.cell? ⟨w.heap.size + 1, 0, none⟩ = some (.string s) ∧ w'.cell? ⟨w.heap.size + 1 + 1, 0, none⟩ = some (.string t)) W0.drew) := Lib.hid ⟨d0.2, d1.2, d2.2⟩
  have HS1 : Hid ((fun w' => w'.cell? ⟨w.heap.size, 0, none⟩ = some (.pointer (some ⟨p, 0, none⟩)) ∧ w'.cell? ⟨w.heap.size + 1, 0, none⟩ = some (.string s) ∧ w'.cell? ⟨w.heap.size + 1 + 1, 0, none⟩ = some (.string t)) (W0.alloc (.cells #[.string s, .string t] 9)).drew) := Lib.hid ⟨f0.2, f1.2, f2.2⟩
  have HKeep : Hid (∀ w2, Moved (fun k => F k ∧ k < w.heap.size) (W0.alloc (.cells #[.string s, .string t] 9)).drew w2 → (fun w' => w'.cell? ⟨w.heap.size, 0, none⟩ = some (.pointer (some ⟨p, 0, none⟩)) ∧ w'.cell? ⟨w.heap.size + 1, 0, none⟩ = some (.string s) ∧ w'.cell? ⟨w.heap.size + 1 + 1, 0, none⟩ = some (.string t)) w2) := Lib.hid (fun w2 hm => ⟨(kept_cell f0.1 hm (fun h => by omega)).2, (kept_cell f1.1 hm (fun h => by omega)).2, (kept_cell f2.1 hm (fun h => by omega)).2⟩)
  have hW1 := hWb.trans (hAb.mono hWb.size)
  have HW1 := Lib.hid hW1
  have hx1 := HX.out.later hW1
  have HM : Hid (Calls Try.prog 26 #[.slice (some ⟨W0.heap.size, 0, none⟩) 2 2] (W0.alloc (.cells #[.string s, .string t] 9)).drew fun e w' => e = .returned (.bool (okS s && okS t)) ∧ (W0.alloc (.cells #[.string s, .string t] 9)).drew = w') := Lib.hid (by
    have := mayBe_any W0.heap.size 2 [s, t] (W0.alloc (.cells #[.string s, .string t] 9)).drew rfl (fun i hi => ?_) (by omega) (fun r hr => ?_)
    · rw [show [s, t].all okS = (okS s && okS t) by simp] at this; exact this
    · have hi2 : i < 2 := hi
      rw [cell_of_row _ _ i _ _ _ (show (W0.alloc (.cells #[.string s, .string t] 9)).drew.heap[W0.heap.size]? = _ from heap_new W0 (.cells #[.string s, .string t] 9))]
      rcases Nat.lt_or_ge i 1 with h | h
      · obtain rfl : i = 0 := by omega
        rfl
      · obtain rfl : i = 1 := by omega
        rfl
    · rcases List.mem_cons.1 hr with rfl | hr
      · exact HSs.out
      · rw [List.mem_singleton.1 hr]; exact HTs.out)
  have HC : Hid (Calls Try.prog 40 #[.pointer (some ⟨p, 0, none⟩), .string s, .bool (okS s && okS t), .func (.func 44) #[] #[.pointer (some ⟨w.heap.size, 0, none⟩), .pointer (some ⟨w.heap.size + 1, 0, none⟩), .pointer (some ⟨w.heap.size + 1 + 1, 0, none⟩)]] (W0.alloc (.cells #[.string s, .string t] 9)).drew (StepPost (fun k => F k ∧ k < w.heap.size) (fun k => F k ∨ w.heap.size ≤ k) p r (W0.alloc (.cells #[.string s, .string t] 9)).drew)) := Lib.hid (by
    rw [HRr.out]
    unfold renameR
    cases hok : (okS s && okS t)
    · rw [show (okName s.data.toList && okName t.data.toList) = false from hok]
      exact (change_bad hx1 s false _ 1 rfl (by omega)).mono fun e w' ⟨he, hw⟩ => by
        subst hw
        exact ⟨he, ⟨bm, D, es, hx1.wide (fun k h => .inl h.1), HE.out⟩, Moved.refl _ _⟩
    · rw [show (okName s.data.toList && okName t.data.toList) = true from hok]
      rw [Bool.and_eq_true] at hok
      refine change_any hx1 HE.out (fun k h => .inl h.1) s HSs.out true _ _ (fun e he hn hl => ?_)
      refine (change_ren hx1 s t HSs.out HTs.out hok.2 hl he hn _ _ _ f0.1 f1.1 f2.1).mono fun e' w' ⟨h1, ⟨bm2, D2, es2, h2, h3⟩, h4⟩ => ⟨h1, ⟨bm2, D2, es2, h2.wide (fun k h => .inl h.1), ?_⟩, h4⟩
      rw [h3, HE.out])
  clear hWb e0 e1 e2 hDb hAb d0 d1 d2 f0 f1 f2 hW1 hx1
  generalize (okS s && okS t) = ok at *
  refine wp_region_held_drew (S := (fun w' => w'.cell? ⟨w.heap.size, 0, none⟩ = some (.pointer (some ⟨p, 0, none⟩)) ∧ w'.cell? ⟨w.heap.size + 1, 0, none⟩ = some (.string s) ∧ w'.cell? ⟨w.heap.size + 1 + 1, 0, none⟩ = some (.string t))) (by kernel_rfl) HS0.out (fun hHeld => ?_)
  refine wpAnyH_take (i := 0) (v := ?vv1) rfl (by kernel_rfl) (by kernel_rfl) (by kernel_rfl) (fun _ _ _ h => h) (Or.inl ⟨by rfl, ?hy1⟩) hHeld ?rr1
  case hy1 => (intro w' hSw; obtain ⟨g1, g2, g3⟩ := hSw; go_simp; try with_reducible rfl)
  try simp only [Act.put, List.setIfInBounds_toArray, List.set_cons_zero, List.set_cons_succ, List.getElem_toArray, List.getElem_cons_succ, List.getElem_cons_zero]
  refine wpAnyH_take (i := 1) (v := ?vv2) rfl (by kernel_rfl) (by kernel_rfl) (by kernel_rfl) (fun _ _ _ h => h) (Or.inl ⟨by rfl, ?hy2⟩) hHeld ?rr2
  case hy2 => (intro w' hSw; obtain ⟨g1, g2, g3⟩ := hSw; go_simp; try with_reducible rfl)
  try simp only [Act.put, List.setIfInBounds_toArray, List.set_cons_zero, List.set_cons_succ, List.getElem_toArray, List.getElem_cons_succ, List.getElem_cons_zero]
  refine wpAnyH_take (i := 2) (v := ?vv3) rfl (by kernel_rfl) (by kernel_rfl) (by kernel_rfl) (fun _ _ _ h => h) (Or.inl ⟨by rfl, ?hy3⟩) hHeld ?rr3
  case hy3 => (intro w' hSw; obtain ⟨g1, g2, g3⟩ := hSw; go_simp; try with_reducible rfl)
  try simp only [Act.put, List.setIfInBounds_toArray, List.set_cons_zero, List.set_cons_succ, List.getElem_toArray, List.getElem_cons_succ, List.getElem_cons_zero]
  refine wpAnyH_take (i := 3) (v := ?vv4) rfl (by kernel_rfl) (by kernel_rfl) (by kernel_rfl) (fun _ _ _ h => h) (Or.inl ⟨by rfl, ?hy4⟩) hHeld ?rr4
  case hy4 => (intro w' hSw; obtain ⟨g1, g2, g3⟩ := hSw; go_simp; try with_reducible rfl)
  try simp only [Act.put, List.setIfInBounds_toArray, List.set_cons_zero, List.set_cons_succ, List.getElem_toArray, List.getElem_cons_succ, List.getElem_cons_zero]
  refine wpAnyH_take (i := 6) (v := ?vv5) rfl (by kernel_rfl) (by kernel_rfl) (by kernel_rfl) (fun _ _ _ h => h) (Or.inl ⟨by rfl, ?hy5⟩) hHeld ?rr5
  case hy5 => (intro w' hSw; obtain ⟨g1, g2, g3⟩ := hSw; go_simp; try with_reducible rfl)
  try simp only [Act.put, List.setIfInBounds_toArray, List.set_cons_zero, List.set_cons_succ, List.getElem_toArray, List.getElem_cons_succ, List.getElem_cons_zero]
  refine wpAnyH_ready (rs := [4]) (by kernel_rfl) (by simp) ?_
  refine AllReadyH.cons rfl (fun K hK => ?_) AllReadyH.nil
  try rw [if_pos (by rfl)]
  go_simp
  refine hK.out _ _ HS1.out (fun hHeld2 => ?_)
  clear hK K hHeld
  have hHeld := hHeld2
  clear hHeld2
  try simp only [Act.put, List.setIfInBounds_toArray, List.set_cons_zero, List.set_cons_succ, List.getElem_toArray, List.getElem_cons_succ, List.getElem_cons_zero]
  refine wpAnyH_ready (rs := [5]) (by kernel_rfl) (by simp) ?_
  refine AllReadyH.cons rfl (fun K hK => ?_) AllReadyH.nil
  try rw [if_pos (by rfl)]
  go_simp
  go_at_call 26
  refine Calls.mono (by with_reducible exact HM.out) ?_
  rintro e w1 ⟨rfl, rfl⟩
  go_wp2_with fail
  refine hK.out _ _ HS1.out (fun hHeld2 => ?_)
  clear hK K hHeld
  have hHeld := hHeld2
  clear hHeld2
  try simp only [Act.put, List.setIfInBounds_toArray, List.set_cons_zero, List.set_cons_succ, List.getElem_toArray, List.getElem_cons_succ, List.getElem_cons_zero]
  refine wpAnyH_ready (rs := [7]) (by kernel_rfl) (by simp) ?_
  refine AllReadyH.cons rfl (fun K hK => ?_) AllReadyH.nil
  try rw [if_pos (by rfl)]
  go_simp
  go_at_call 40
  refine Calls.mono (by with_reducible exact HC.out) ?_
  rintro e w2 ⟨rfl, hst, hm⟩
  have HSt := Lib.hid hst
  have HM2 := Lib.hid hm
  have HS2 := Lib.hid (HKeep.out w2 hm)
  clear hst hm
  go_wp2_with fail
  refine hK.out _ _ HS2.out (fun hHeld2 => ?_)
  clear hK K hHeld
  have hHeld := hHeld2
  clear hHeld2
  try simp only [Act.put, List.setIfInBounds_toArray, List.set_cons_zero, List.set_cons_succ, List.getElem_toArray, List.getElem_cons_succ, List.getElem_cons_zero]
  refine wpAnyH_take (i := 8) (v := ?vv6) rfl (by kernel_rfl) (by kernel_rfl) (by kernel_rfl) (fun _ _ _ h => h) (Or.inl ⟨by rfl, ?hy6⟩) hHeld ?rr6
  case hy6 => (intro w' hSw; obtain ⟨g1, g2, g3⟩ := hSw; go_simp; try with_reducible rfl)
  try simp only [Act.put, List.setIfInBounds_toArray, List.set_cons_zero, List.set_cons_succ, List.getElem_toArray, List.getElem_cons_succ, List.getElem_cons_zero]
  refine wpAnyH_done (by kernel_rfl) ?_ _
  clear hHeld
  go_wp2
  go_ret
  exact ⟨rfl, HSt.out, (Below.movedNew HW1.out).trans HM2.out (fun _ _ h => h.1)⟩
end
end Go.Proofs.Ytobgiialecgpnaa
