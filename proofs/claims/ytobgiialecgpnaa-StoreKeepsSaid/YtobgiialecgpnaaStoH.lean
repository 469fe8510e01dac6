/- Walks of package store: Sync, Cut. -/
import Derived.Test.YtobgiialecgpnaaStoG
set_option linter.unusedSimpArgs false
set_option linter.unusedVariables false
namespace Go.Proofs.Ytobgiialecgpnaa
open Go.ChangeShapes Go.WideShapes Go.ChangeAt Go.RowKit Go.Base Go.Sto Go.Maps

theorem own_take {w : World} {base n cap m : Nat} {e : TypeId} {A : Option Addr} {xs : List Value} (h : w.ownsRow base e 1 (.slice A n cap) n xs) (hm : m ≤ n) : w.ownsRow base e 1 (.slice A m cap) m (xs.take m) := by
  refine ⟨by rw [List.length_take, h.1]; omega, ?_⟩
  rcases h.2 with ⟨h1, h2⟩ | ⟨g, cap', cur, hv, hb, hg, hn, hc, hs, ht⟩
  · injection h1 with h1 _ h3; subst h1; subst h3
    have : m = 0 := by omega
    subst this
    exact .inl ⟨rfl, rfl⟩
  · injection hv with h1 h3 h4; subst h1; subst h4
    exact .inr ⟨g, cap, cur, rfl, hb, hg, by omega, hc, hs, by rw [← ht, List.take_take]; congr 1; omega⟩
theorem own_le {w : World} {base n cap : Nat} {e : TypeId} {A : Option Addr} {xs : List Value} (h : w.ownsRow base e 1 (.slice A n cap) n xs) : n ≤ cap ∧ cap ≤ maxLen := by
  rcases h.2 with ⟨h, rfl⟩ | ⟨g', cap', cur, hv, hb, hg, hn, hc, _⟩
  · injection h with _ _ h; subst h; exact ⟨Nat.le_refl _, Nat.zero_le _⟩
  · injection hv with _ _ hv; subst hv; exact ⟨hn, hc⟩
theorem length_insE {e : Ent} : ∀ {l : List Ent}, Rising (l.map (·.f)) → (∃ d ∈ l, d.f.name = e.f.name) → (insE e l).length = l.length
  | [], _, ⟨d, hd, _⟩ => by cases hd
  | g :: l, h, ⟨d, hd, hn⟩ => by
    obtain ⟨h1, h2⟩ := List.pairwise_cons.1 h
    have h1' : ∀ x ∈ l, g.f.name < x.f.name := fun x hx => h1 _ (List.mem_map.2 ⟨x, hx, rfl⟩)
    unfold insE
    by_cases e1 : e.f.name = g.f.name
    · rw [if_pos e1]; rfl
    · have hd2 : d ∈ l := by
        rcases List.mem_cons.1 hd with rfl | hd
        · exact absurd hn.symm e1
        · exact hd
      rw [if_neg e1, if_neg (fun h3 => lt_irr e.f.name (lt_tr h3 (by have := h1' d hd2; rwa [hn] at this))), List.length_cons, List.length_cons, length_insE h2 ⟨d, hd2, hn⟩]
theorem used_ins {f g : Fil} : ∀ {l : List Fil}, Rising l → g ∈ l → g.name = f.name → used (ins f l) + g.bytes.length = used l + f.bytes.length
  | [], _, h, _ => by cases h
  | x :: l, h, hg, hn => by
    obtain ⟨h1, h2⟩ := List.pairwise_cons.1 h
    unfold ins
    by_cases e1 : f.name = x.name
    · have : g = x := by
        rcases List.mem_cons.1 hg with rfl | hg
        · rfl
        · exact absurd (h1 g hg) (by rw [hn, e1]; exact lt_irr _)
      subst this
      rw [if_pos e1]; unfold used; simp only [List.map_cons, List.sum_cons]; omega
    · have hg2 : g ∈ l := by
        rcases List.mem_cons.1 hg with rfl | hg
        · exact absurd hn.symm e1
        · exact hg
      have := used_ins h2 hg2 hn
      rw [if_neg e1, if_neg (fun h3 => lt_irr f.name (lt_tr h3 (by have := h1 g hg2; rwa [hn] at this)))]
      unfold used at *; simp only [List.map_cons, List.sum_cons]; omega
section
variable {w w' : World} {F : Nat → Prop} {p bm : Nat} {D : DataW Unit} {es : List Ent} {room : Nat} {left : Int}
/-- A file whose cells were written: the same row, maybe cut. -/
theorem StoX.refile (h : StoX w F p bm D es room left) {e : Ent} (he : e ∈ es) {m sure : Nat} {stays : Bool} {en : Ending} (hm : m ≤ e.f.bytes.length) (hs : sure ≤ m) (hp : FilePost e.a (.slice e.A m e.c) sure stays w en w') :
    StoX w' F p bm D (insE ⟨⟨e.f.name, e.f.bytes.take m, sure, stays⟩, e.a, e.A, e.c⟩ es) room left := by
  obtain ⟨_, hh, hmv, hsz⟩ := hp
  have hlen : (e.f.bytes.take m).length = m := by rw [List.length_take]; omega
  have hpn := h.p_ne he
  have hlE := length_insE (e := ⟨⟨e.f.name, e.f.bytes.take m, sure, stays⟩, e.a, e.A, e.c⟩) h.rising ⟨e, he, rfl⟩
  have hrow : w'.ownsRow 0 5 1 (.slice e.A m e.c) m ((e.f.bytes.take m).map u8v) := by
    have := own_take (own_moved (h.row e he) hmv (fun k hk e2 => own_ne (h.row e he) (h.file e he) (by decide) (by have hk2 : e.sl.ownBlock = some k := hk; rw [hk2, e2]))) hm
    rw [List.map_take]; exact this
  refine h.set _ hmv (fun d hd hn => ⟨fun e2 => (h.others hd he hn).1 (.inl e2), fun k hk e2 => (h.others hd he hn).2 k hk (.inl e2)⟩)
    (hmv.heap h.self (fun e2 => hpn.1 (.inl e2))) (owns_moved h.map hmv (fun e2 => hpn.2 (.inl e2))) (fun s => ⟨.inr, fun h2 => h2.elim (fun h3 => by rw [h3]; exact (h.has _).2 ⟨e, he, rfl⟩) id⟩)
    (h.at_ e he) (fun _ _ _ => rfl) ?_ ?_ ?_ (fun d hd hn => ?_) (fun _ h => h) ⟨(h.inF.2.2 e he).1, fun k hk => ?_⟩ ?_ ?_ ?_ (h.named e he) h.lefts
  · rw [hlE]; exact h.size
  · show w'.heap[e.a]? = some (.cells #[.slice e.A (e.f.bytes.take m).length e.c, _, _] _ _)
    rw [hlen]; exact hh
  · show w'.ownsRow 0 _ 1 (.slice e.A (e.f.bytes.take m).length e.c) (e.f.bytes.take m).length _
    rw [hlen]; exact hrow
  · obtain ⟨h1, h2⟩ := h.apart d hd e he hn
    refine ⟨h1, fun k hk hk' => h2 k hk ?_⟩
    rcases hA : e.A with _ | ad
    · rw [Ent.sl, hA] at hk'; cases hk'
    · have : e.sl.ownBlock = (Value.slice e.A (e.f.bytes.take m).length e.c).ownBlock := by unfold Ent.sl; rw [hA]; rfl
      rw [this]; exact hk'
  · refine (h.inF.2.2 e he).2 k ?_
    rcases hA : e.A with _ | ad
    · rw [Ent.sl, hA] at hk; cases hk
    · have : e.sl.ownBlock = (Value.slice e.A (e.f.bytes.take m).length e.c).ownBlock := by unfold Ent.sl; rw [hA]; rfl
      rw [this]; exact hk
  · rw [hlE]; exact h.few
  · have := used_ins (f := ⟨e.f.name, e.f.bytes.take m, sure, stays⟩) (g := e.f) h.rising (List.mem_map.2 ⟨e, he, rfl⟩) rfl
    have h2 := h.fits.1
    show used (ins ⟨e.f.name, e.f.bytes.take m, sure, stays⟩ _) ≤ room
    simp only at this
    omega
  · show sure ≤ (e.f.bytes.take m).length
    omega
theorem mayBe_one (s : ByteArray) (hs : s.size ≤ maxLen) (w : World) : Calls Try.prog 26 #[.slice (some ⟨w.heap.size, 0, none⟩) 1 1] (w.alloc (.cells #[.string s] 9)) fun e w' => e = .returned (.bool (okS s)) ∧ w.alloc (.cells #[.string s] 9) = w' := by
  have := mayBe_any w.heap.size 1 [s] (w.alloc (.cells #[.string s] 9)) rfl (fun i hi => ?_) (by omega) (fun t ht => by rw [List.mem_singleton.1 ht]; exact hs)
  · simpa using this
  · have : i = 0 := by simp at hi; omega
    subst this
    exact cell_of_row _ _ 0 _ _ _ (heap_new _ _)
def ChangePost (F : Nat → Prop) (p bm : Nat) (D : DataW Unit) (es : List Ent) (room : Nat) (left : Int) (a : Nat) (w : World) (e : Ending) (w' : World) : Prop :=
  e = .returned (.int .i64 0) ∧ StoX w' F p bm D es room left ∧ Moved (fun k => k = a ∨ k = p) w w' ∧ w'.heap.size = w.heap.size
theorem change_sync (h : StoX w F p bm D es room left) (s : ByteArray) (hs : s.size ≤ maxLen) (hl : left ≠ 0) {e : Ent} (he : e ∈ es) (hn : e.f.name = s.data.toList) :
    Calls Try.prog 40 #[.pointer (some ⟨p, 0, none⟩), .string s, .bool true, .func (.func 41) #[] #[]] w
      (ChangePost F p bm D (insE ⟨⟨e.f.name, e.f.bytes.take e.f.bytes.length, e.f.bytes.length, true⟩, e.a, e.A, e.c⟩ es) room (wear left) e.a w) := by
  have HF := Lib.hid (find_some h s hs hl he hn)
  have HS := Lib.hid (settle_any e.a e.f.bytes.length e.c e.f.sure e.A e.f.stays w (h.file e he))
  have HX := Lib.hid (fun en w1 (hp : FilePost e.a (.slice e.A e.f.bytes.length e.c) e.f.bytes.length true w en w1) => h.refile he (Nat.le_refl _) (Nat.le_refl _) hp)
  clear h hs hn
  go_enter Try.func40, Try.ntmps40
  go_wp2_with (first
    | (go_at_call 47; refine Calls.mono (by with_reducible exact HF.out) ?_; rintro e' w1 ⟨rfl, rfl⟩)
    | (go_at_call 41; refine Calls.mono (by with_reducible exact HS.out) ?_; intro e' w2 hp; have HX2 := Lib.hid (HX.out e' w2 hp); obtain ⟨rfl, _, hm2, hz2⟩ := hp; have HM2 := Lib.hid hm2; have HZ2 := Lib.hid hz2; clear hm2 hz2)
    | (go_at_call 27; refine Calls.mono (by with_reducible exact wear_any HX2.out) ?_; rintro e' w3 ⟨rfl, hx, hm, hz⟩; have HX3 := Lib.hid hx; have HM3 := Lib.hid hm; have HZ3 := Lib.hid hz; clear hx hm hz))
  go_ret
  exact ⟨rfl, HX3.out, (HM2.out.weaken (fun k _ h => .inl h)).trans HM3.out (fun k _ h => .inr h), HZ3.out.trans HZ2.out⟩
end
end Go.Proofs.Ytobgiialecgpnaa
