/- Package store: bytes behind a file's bytes; a new file. No function of the program. -/
import Derived.Test.YtobgiialecgpnaaStoJ
set_option linter.unusedSimpArgs false
set_option linter.unusedVariables false
namespace Go.Sto
theorem ins_cons (f g : Fil) (l : List Fil) : ins f (g :: l) = if f.name = g.name then f :: l else if f.name < g.name then f :: g :: l else g :: ins f l := rfl
theorem ins_nil (f : Fil) : ins f [] = [f] := rfl
theorem ins_ins {f g : Fil} (hn : g.name = f.name) : ∀ l : List Fil, ins f (ins g l) = ins f l
  | [] => by rw [ins_nil, ins_nil, ins_cons, if_pos hn.symm]
  | x :: l => by
    rw [ins_cons g x l, ins_cons f x l]
    by_cases e : g.name = x.name
    · rw [if_pos e, if_pos (hn.symm.trans e), ins_cons, if_pos hn.symm]
    · have e3 : ¬ f.name = x.name := fun h => e (hn.trans h)
      rw [if_neg e, if_neg e3]
      by_cases e2 : g.name < x.name
      · rw [if_pos e2, if_pos (by rw [← hn]; exact e2), ins_cons, if_pos hn.symm]
      · have e4 : ¬ f.name < x.name := by rw [← hn]; exact e2
        rw [if_neg e2, if_neg e4, ins_cons, if_neg e3, if_neg e4, ins_ins hn l]
theorem length_ins_new {f : Fil} : ∀ {l : List Fil}, (∀ g ∈ l, g.name ≠ f.name) → (ins f l).length = l.length + 1
  | [], _ => rfl
  | x :: l, h => by
    unfold ins
    rw [if_neg (fun e => h x (List.mem_cons_self ..) e.symm)]
    split
    · rfl
    · rw [List.length_cons, length_ins_new (fun g hg => h g (List.mem_cons_of_mem _ hg)), List.length_cons]
theorem used_ins_new {f : Fil} : ∀ {l : List Fil}, (∀ g ∈ l, g.name ≠ f.name) → used (ins f l) = used l + f.bytes.length
  | [], _ => by unfold used ins; simp
  | x :: l, h => by
    have := used_ins_new (f := f) (fun g hg => h g (List.mem_cons_of_mem _ hg))
    unfold ins
    rw [if_neg (fun e => h x (List.mem_cons_self ..) e.symm)]
    split
    · unfold used; simp only [List.map_cons, List.sum_cons]; omega
    · unfold used at *; simp only [List.map_cons, List.sum_cons]; omega
end Go.Sto
namespace Go.Proofs.Ytobgiialecgpnaa
open Go.ChangeShapes Go.WideShapes Go.ChangeAt Go.RowKit Go.Base Go.Sto Go.Maps

section
variable {w w1 w' : World} {F G : Nat → Prop} {p bm : Nat} {D : DataW Unit} {es : List Ent} {room : Nat} {left : Int}
theorem ownBlock_len {A : Option Addr} {n m c c' : Nat} : (Value.slice A n c).ownBlock = (Value.slice A m c').ownBlock := by
  rcases A with _ | ⟨g, o, s⟩ <;> rfl
/-- Bytes behind a file's bytes: behind the append, and the store of the slice. -/
theorem StoX.grow (h : StoX w F p bm D es room left) {e : Ent} (he : e ∈ es) {b : List UInt8} {A' : Option Addr} {N c' : Nat} (hN : N = (e.f.bytes ++ b).length)
    (hown : w1.ownsRow 0 5 1 (.slice A' N c') N ((e.f.bytes ++ b).map u8v)) (hg : w.grownBy w1 e.sl.ownBlock) (hloc : (Value.slice A' N c').ownBlock = e.sl.ownBlock ∨ (Value.slice A' N c').ownBlock = some w.heap.size)
    (hfit : used (es.map (·.f)) + b.length ≤ room) :
    StoX (w1.setCell ⟨e.a, 0, none⟩ (.slice A' N c')) (fun k => F k ∨ w.heap.size ≤ k) p bm D (insE ⟨⟨e.f.name, e.f.bytes ++ b, e.f.sure, e.f.stays⟩, e.a, A', c'⟩ es) room left ∧ Moved (fun k => k = e.a ∨ e.sl.ownBlock = some k) w (w1.setCell ⟨e.a, 0, none⟩ (.slice A' N c')) := by
  subst hN
  have hm : Moved (fun k => k = e.a ∨ e.sl.ownBlock = some k) w (w1.setCell ⟨e.a, 0, none⟩ (.slice A' (e.f.bytes ++ b).length c')) :=
    ((Moved.refl _ w).grown hg (fun k _ e => .inr e)).setCell (.inr (.inl rfl)) _
  have hm1 : Moved (fun k => e.sl.ownBlock = some k) w w1 := (Moved.refl _ w).grown hg (fun k _ e => e)
  have hlE := length_insE (e := ⟨⟨e.f.name, e.f.bytes ++ b, e.f.sure, e.f.stays⟩, e.a, A', c'⟩) h.rising ⟨e, he, rfl⟩
  have hpn := h.p_ne he
  have hfa : w1.heap[e.a]? = some (.cells e.cells 67 (0, 0)) := hm1.heap (h.file e he) (own_ne (h.row e he) (h.file e he) (by decide))
  refine ⟨h.set _ hm (fun d hd hn => h.others hd he hn) (hm.heap h.self hpn.1) (owns_moved h.map hm hpn.2) (fun s => ⟨.inr, fun h2 => h2.elim (fun h3 => by rw [h3]; exact (h.has _).2 ⟨e, he, rfl⟩) id⟩)
    (h.at_ e he) (fun _ _ _ => rfl) (by rw [hlE]; exact h.size) ?_ ?_ (fun d hd hn => ⟨(h.apart d hd e he hn).1, fun k hk hk' => ?_⟩) (fun _ h => .inl h) ⟨.inl (h.inF.2.2 e he).1, fun k hk => ?_⟩ (by rw [hlE]; exact h.few) ?_ ?_ (h.named e he) h.lefts, hm⟩
  · exact heap_set hfa 0 _
  · refine own_moved (w := w1) (p := fun k => k = e.a) hown (Moved.setCell (p := fun k => k = e.a) (Moved.refl _ w1) (.inr rfl) _) (fun k hk e2 => ?_)
    have hk2 : (Value.slice A' (e.f.bytes ++ b).length c').ownBlock = some k := hk
    exact own_ne hown hfa (by decide) (by rw [hk2, e2])
  · have hk2 : (Value.slice A' (e.f.bytes ++ b).length c').ownBlock = some k := hk'
    rcases hloc with hl | hl
    · exact (h.apart d hd e he hn).2 k hk (by rw [← hl]; exact hk2)
    · rw [hk2] at hl
      have hl := Option.some.inj hl
      rcases (h.row d hd).2 with ⟨h0, _⟩ | ⟨g, cap, cur, h0, _, hgh, _⟩
      · rw [h0] at hk; cases hk
      · rw [h0] at hk
        have hk3 : g = k := Option.some.inj hk
        have := heap_lt hgh
        omega
  · have hk2 : (Value.slice A' (e.f.bytes ++ b).length c').ownBlock = some k := hk
    rcases hloc with hl | hl
    · exact .inl ((h.inF.2.2 e he).2 k (by rw [← hl]; exact hk2))
    · rw [hk2] at hl; injection hl with hl; exact .inr (Nat.le_of_eq hl.symm)
  · have := used_ins (f := ⟨e.f.name, e.f.bytes ++ b, e.f.sure, e.f.stays⟩) (g := e.f) h.rising (List.mem_map.2 ⟨e, he, rfl⟩) rfl
    have h3 : (⟨e.f.name, e.f.bytes ++ b, e.f.sure, e.f.stays⟩ : Fil).bytes.length = e.f.bytes.length + b.length := List.length_append ..
    rw [h3] at this
    have h4 : used (ins ⟨e.f.name, e.f.bytes ++ b, e.f.sure, e.f.stays⟩ (es.map (·.f))) ≤ room := by omega
    exact h4
  · have := h.sures e he
    show e.f.sure ≤ (e.f.bytes ++ b).length
    rw [List.length_append]; omega
/-- A new file, empty: behind its laying and the map's store. -/
theorem StoX.add (h : StoX w F p bm D es room left) {s : List UInt8} (hn : ∀ e ∈ es, e.f.name ≠ s) (h64 : es.length < 64) (hok : okName s = true)
    (hmap : w'.ownsMap Try.prog 9 ptrE bm (Maps.size D + 1) (D.put (.string s) (.lit (.int .i64 (w.heap.size : Int))))) (hg : (w.alloc (.cells #[.slice none 0 0, .int .i64 0, .bool false] 67)).grownBy w' (some bm)) (hT : Maps.Tidy D) :
    StoX w' (fun k => F k ∨ w.heap.size ≤ k) p bm (D.put (.string s) (.lit (.int .i64 (w.heap.size : Int)))) (insE ⟨⟨s, [], 0, false⟩, w.heap.size, none, 0⟩ es) room left ∧ Moved (fun k => k = bm) w w' := by
  have hm : Moved (fun k => k = bm) w w' := ((Moved.refl _ w).alloc _).grown hg (fun k _ e => by injection e with e; exact e.symm)
  have hb := below_alloc w (.cells #[.slice none 0 0, .int .i64 0, .bool false] 67)
  have hnew := heap_new w (.cells #[.slice none 0 0, .int .i64 0, .bool false] 67)
  have hbm : bm < w.heap.size := by obtain ⟨E, clock, hb, _⟩ := h.map; exact heap_lt hb
  have hf : Maps.has D (.string s) = false := by
    rw [Bool.eq_false_iff]; intro h2
    obtain ⟨e, he, e2⟩ := (h.has _).1 h2
    exact hn e he e2
  have hsz : Maps.size (D.put (.string s) (.lit (.int .i64 (w.heap.size : Int)))) = Maps.size D + 1 := by
    rw [Maps.size_put hT, hf]; rfl
  have hlen : (insE ⟨⟨s, [], 0, false⟩, w.heap.size, none, 0⟩ es).length = es.length + 1 := by
    have := congrArg List.length (map_insE ⟨⟨s, [], 0, false⟩, w.heap.size, none, 0⟩ es)
    rw [List.length_map, length_ins_new (fun g hg => by obtain ⟨e, he, rfl⟩ := List.mem_map.1 hg; exact hn e he), List.length_map] at this
    exact this
  have hne : ∀ k cs t z, w.heap[k]? = some (.cells cs t z) → ¬ k = bm := fun k cs t z hk e => h.bm_ne hk e.symm
  refine ⟨h.set _ hm (fun d hd _ => ⟨hne _ _ _ _ (h.file d hd), fun k hk e => (h.p_ne hd).2 (.inr (by rw [hk, e]))⟩) (hm.heap h.self (hne _ _ _ _ h.self)) (by rw [hsz]; exact hmap)
    (fun t => ?_) (fun z => Maps.atKey_put_same hT.isMap (by trivial) _ z) (fun t ht z => Maps.atKey_put_other (by intro e; injection e with e; exact ht e) _ z) (by rw [hsz, hlen, h.size]) ?_ ?_ (fun d hd _ => ⟨?_, fun k _ hk => by cases hk⟩) (fun _ h => .inl h) ⟨.inr (Nat.le_refl _), fun k hk => by cases hk⟩ (by rw [hlen]; omega) ?_ (Nat.le_refl _) hok h.lefts, hm⟩
  · by_cases e : t = s
    · subst e
      rw [Maps.has_put_same hT.isMap (by trivial)]
      exact ⟨fun _ => .inl rfl, fun _ => rfl⟩
    · rw [Maps.has_put_other (by intro h; injection h with h; exact e h)]
      exact ⟨.inr, fun h => h.elim (fun h => absurd h e) id⟩
  · have := hg.block w.heap.size (by simp) (by intro e; have := Option.some.inj e; omega)
    rw [this]; exact hnew
  · exact World.ownsRow_nil _ _ _ _
  · have := heap_lt (h.file d hd)
    show d.a ≠ w.heap.size
    omega
  · rw [used_ins_new (fun g hg => by obtain ⟨e, he, rfl⟩ := List.mem_map.1 hg; exact hn e he)]
    exact h.fits.1
end
end Go.Proofs.Ytobgiialecgpnaa
