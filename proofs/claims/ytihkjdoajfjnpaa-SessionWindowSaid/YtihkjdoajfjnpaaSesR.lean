/- The laws' pair: a queue grown in place; a side begun anew; which side an act is of. -/
import Derived.Test.YtihkjdoajfjnpaaSesQ
import Derived.Laws.BitsLemmas
set_option linter.unusedSimpArgs false
set_option linter.unusedVariables false
namespace Go.Proofs.Ytihkjdoajfjnpaa
open Go.ChangeShapes Go.WideShapes Go.ChangeAt Go.RowKit Go.Base Go.Ses

theorem and_one (x : Int) (h0 : -9223372036854775808 ≤ x) (h1 : x ≤ 9223372036854775807) : bits BinOp.and IntKind.i64 x 1 = x % 2 := by
  have e1 : (BitVec.ofInt 64 x).toNat = (x % 18446744073709551616).toNat := by simp [BitVec.toNat_ofInt]
  have e2 : ((BitVec.ofInt 64 x) &&& (BitVec.ofInt 64 1)).toNat = (x % 18446744073709551616).toNat % 2 := by
    rw [BitVec.toNat_and, e1]
    have : (BitVec.ofInt 64 1).toNat = 1 := rfl
    rw [this, Nat.and_one_is_mod]
  have : bits BinOp.and IntKind.i64 x 1 = IntKind.i64.wrap (((x % 18446744073709551616).toNat % 2 : Nat) : Int) := by
    rw [← e2]; rfl
  rw [this, IntKind.wrap_i64]
  omega
section
variable {B pp i : Nat} {w w1 w' : World} {X : Nat → Side} {P : Nat → Nat} {F : Nat → Nat → Prop} {G : Nat → Prop} {Q S C : Nat → Value} {q : Nat → Prop}
/-- A queue grown in place. -/
theorem PairX.growQ (h : PairX B w pp X P F G Q S C) (hi : i < 2) {w9 : World} {A9 : Option Addr} {c9 N : Nat} {vs : List EvV} (hg : w.grownBy w9 (Q i).ownBlock) (hN : vs.length = N) (hown : w9.ownsRow B 29 6 (.slice A9 N c9) N (cellsE vs))
    (hwh : (Value.slice A9 N c9).ownBlock = (Q i).ownBlock ∨ (Value.slice A9 N c9).ownBlock = some w.heap.size) (hbd : ∀ x ∈ vs, ByU w9 x.A x.e.body) :
    PairX B (w9.setCell ⟨pp, 4 + i, none⟩ (.slice A9 N c9)) pp (upd X i { X i with q := vs.map EvV.e }) P F (fun k => G k ∨ (Value.slice A9 N c9).ownBlock = some k) (upd Q i (.slice A9 N c9)) S C ∧ Below B w (w9.setCell ⟨pp, 4 + i, none⟩ (.slice A9 N c9)) ∧ Ku w (w9.setCell ⟨pp, 4 + i, none⟩ (.slice A9 N c9)) ∧ w9.cell? ⟨pp, 4 + i, none⟩ = some (Q i) ∧ w9.frozen? ⟨pp, 4 + i, none⟩ = false := by
  obtain ⟨Aq, cq, es, hq, hqe, hqo, hqb⟩ := h.q i hi
  have hm9 : Moved (fun k => (Q i).ownBlock = some k) w w9 := Moved.grown (p := fun k => (Q i).ownBlock = some k) (Moved.refl _ w) hg (fun k _ e => e)
  have hu9 : Ku w w9 := grown_ku hqo (by decide) hg
  have hqG : ∀ k, (Q i).ownBlock = some k → G k := fun k hk => (h.own.2 i hi k).1 hk
  have hb9 : Below B w w9 := hm9.below (fun k _ e => (h.g k (hqG k e)).1) h.lowle
  have hpp : (Q i).ownBlock ≠ some pp := own_ne hqo h.self (by decide)
  have hself9 : w9.heap[pp]? = _ := hm9.heap h.self hpp
  obtain ⟨w', hw'⟩ : ∃ w', w' = w9.setCell ⟨pp, 4 + i, none⟩ (.slice A9 N c9) := ⟨_, rfl⟩
  have hm' : Moved (fun k => k = pp) w9 w' := by rw [hw']; exact (Moved.refl (fun k => k = pp) w9).setCell (.inr rfl) _
  have hu' : Ku w9 w' := hm'.ku (fun T hT k cs z e hk => by subst e; rw [hself9] at hk; injection hk with hk; injection hk with _ hk _; rcases hT with rfl | rfl <;> revert hk <;> decide)
  have hm : Moved (fun k => k = pp ∨ (Q i).ownBlock = some k) w w' := (hm9.weaken (fun k _ e => .inr e)).trans hm' (fun k _ e => .inl e)
  have hb' : Below B w w' := hm.below (fun k _ e => e.elim (fun e => e ▸ h.low) (fun e => (h.g k (hqG k e)).1)) h.lowle
  have hk : Ku w w' := hu9.trans hu'
  have hcell : w9.cell? ⟨pp, 4 + i, none⟩ = some (Q i) := (World.cell?_of_block (w := w) (a := ⟨pp, 4 + i, none⟩) (hg.block pp h.lt (fun e => hpp e.symm))).trans (h.cell hi).2.2.1
  have hfr := (cells_of_heap hself9).2 (4 + i)
  have hself' := heap_set hself9 (4 + i) (.slice A9 N c9)
  rw [← hw'] at hself' ⊢
  have hFq : ∀ j, j < 2 → ∀ k, F j k → ¬ (k = pp ∨ (Q i).ownBlock = some k) := fun j hj k hk2 e => e.elim (fun e => (h.g pp h.own.1).2.2 j hj (e ▸ hk2)) (fun e => (h.g k (hqG k e)).2.2 j hj hk2)
  have hnew : ∀ k, (Value.slice A9 N c9).ownBlock = some k → (Q i).ownBlock = some k ∨ k = w.heap.size := fun k hk2 => by
    rcases hwh with e | e
    · exact .inl (e ▸ hk2)
    · rw [e] at hk2; exact .inr (Option.some.inj hk2).symm
  have hlt9 : ∀ k, (Value.slice A9 N c9).ownBlock = some k → k < w9.heap.size := fun k hk2 => (hown.lt k hk2).2
  have hX : ∀ j, (upd X i { X i with q := vs.map EvV.e } j).ss = (X j).ss ∧ (upd X i { X i with q := vs.map EvV.e } j).sent = (X j).sent ∧ (upd X i { X i with q := vs.map EvV.e } j).came = (X j).came ∧ (upd X i { X i with q := vs.map EvV.e } j).boot = (X j).boot ∧ (upd X i { X i with q := vs.map EvV.e } j).fr = (X j).fr := fun j => by
    unfold upd
    split
    · rename_i e; subst e; exact ⟨rfl, rfl, rfl, rfl, rfl⟩
    · exact ⟨rfl, rfl, rfl, rfl, rfl⟩
  refine ⟨⟨?_, fun j hj => ?_, fun j hj k hk2 => ⟨(h.tight j hj k hk2).1, Nat.lt_of_lt_of_le (h.tight j hj k hk2).2 hm.size⟩, h.apart, fun j hj => ?_, fun j hj => ?_, fun j hj => ?_, ⟨.inl h.own.1, fun j hj k => ⟨fun hk2 => ?_, fun hk2 => .inl ((h.own.2 j hj k).2.1 hk2), fun hk2 => .inl ((h.own.2 j hj k).2.2 hk2)⟩⟩, fun k hk2 => ?_, fun j hj k hk2 hk3 => ?_⟩, hb', hk, hcell, hfr⟩
  · rw [(hX 0).2.2.2.1, (hX 1).2.2.2.1, (hX 0).2.2.2.2, (hX 1).2.2.2.2, hself']
    match i, hi with
    | 0, _ => rfl
    | 1, _ => rfl
  · rw [(hX j).1]; exact (h.ses j hj).kept hm (fun k hk2 e => hFq j hj k hk2 e) hk
  · by_cases e : j = i
    · subst e
      rw [upd_same, upd_same]
      have hr : RowE B w9 (.slice A9 N c9) (vs.map EvV.e) := ⟨A9, c9, vs, by rw [List.length_map, hN], rfl, by rw [List.length_map, hN]; exact hown, hbd⟩
      exact hr.kept hm' (fun k hk2 e2 => own_ne hown hself9 (by decide) (by rw [hk2, e2])) hu'
    · have e2 : (upd X i { X i with q := vs.map EvV.e } j).q = (X j).q := by rw [upd_other _ _ e]
      rw [upd_other Q _ e, e2]
      refine (h.q j hj).kept hm (fun k hk2 e3 => ?_) hk
      obtain ⟨_, _, _, _, _, o, _⟩ := h.q j hj
      rcases e3 with e3 | e3
      · exact own_ne o h.self (by decide) (by rw [hk2, e3])
      · exact h.qs j hj k hk2 (by rw [show 1 - j = i by omega]; exact e3)
  · rw [(hX j).2.1]
    refine (h.s j hj).kept hm (fun k hk2 e3 => ?_) hb' hk
    obtain ⟨_, _, _, _, _, o, _⟩ := h.s j hj
    rcases e3 with e3 | e3
    · exact own_ne o h.self (by decide) (by rw [hk2, e3])
    · obtain ⟨cs, z, hh⟩ := own_ty hqo e3
      exact own_ne o hh (by decide) hk2
  · rw [(hX j).2.2.1]
    refine (h.c j hj).kept hm (fun k hk2 e3 => ?_) hb' hk
    obtain ⟨_, _, _, _, _, o, _⟩ := h.c j hj
    rcases e3 with e3 | e3
    · exact own_ne o h.self (by decide) (by rw [hk2, e3])
    · obtain ⟨cs, z, hh⟩ := own_ty hqo e3
      exact own_ne o hh (by decide) hk2
  · by_cases e : j = i
    · subst e; rw [upd_same] at hk2; exact .inr hk2
    · rw [upd_other _ _ e] at hk2; exact .inl ((h.own.2 j hj k).1 hk2)
  · rcases hk2 with hk2 | hk2
    · exact ⟨(h.g k hk2).1, Nat.lt_of_lt_of_le (h.g k hk2).2.1 hm.size, (h.g k hk2).2.2⟩
    · refine ⟨(hown.lt k hk2).1, Nat.lt_of_lt_of_le (hlt9 k hk2) hm'.size, fun j hj e => ?_⟩
      rcases hnew k hk2 with e2 | e2
      · exact (h.g k (hqG k e2)).2.2 j hj e
      · have := (h.tight j hj k e).2; omega
  · have hother : ∀ j, j < 2 → j ≠ i → ∀ k, (Q j).ownBlock = some k → (Value.slice A9 N c9).ownBlock ≠ some k := fun j hj hne k hk4 hk5 => by
      rcases hnew k hk5 with e2 | e2
      · exact h.qs j hj k hk4 (by rw [show 1 - j = i by omega]; exact e2)
      · have := (h.g k ((h.own.2 j hj k).1 hk4)).2.1; omega
    by_cases e : j = i
    · subst e
      rw [upd_same] at hk2
      rw [upd_other _ _ (by omega)] at hk3
      exact hother (1 - j) (by omega) (by omega) k hk3 hk2
    · rw [upd_other _ _ e] at hk2
      rw [show 1 - j = i by omega, upd_same] at hk3
      exact hother j hj e k hk2 hk3
/-- A side's boot is one more. -/
theorem PairX.boot (h : PairX B w pp X P F G Q S C) (hi : i < 2) (m : Int) : PairX B (w.setCell ⟨pp, 2 + i, none⟩ (.int .i64 m)) pp (upd X i { X i with boot := m }) P F G Q S C ∧ Below B w (w.setCell ⟨pp, 2 + i, none⟩ (.int .i64 m)) ∧ Ku w (w.setCell ⟨pp, 2 + i, none⟩ (.int .i64 m)) := by
  have hm : Moved (fun k => k = pp) w (w.setCell ⟨pp, 2 + i, none⟩ (.int .i64 m)) := (Moved.refl (fun k => k = pp) w).setCell (.inr rfl) _
  have hX : ∀ j, (upd X i { X i with boot := m } j).ss = (X j).ss ∧ (upd X i { X i with boot := m } j).sent = (X j).sent ∧ (upd X i { X i with boot := m } j).came = (X j).came ∧ (upd X i { X i with boot := m } j).q = (X j).q := fun j => by
    unfold upd
    split
    · rename_i e; subst e; exact ⟨rfl, rfl, rfl, rfl⟩
    · exact ⟨rfl, rfl, rfl, rfl⟩
  refine h.set hm ?_ (fun j => (hX j).1) (fun j hj => by rw [(hX j).2.2.2]; exact h.q j hj) (fun j hj => by rw [(hX j).2.1]; exact h.s j hj) (fun j hj => by rw [(hX j).2.2.1]; exact h.c j hj) h.own h.g h.qs
  refine (heap_set h.self (2 + i) _).trans ?_
  match i, hi with
  | 0, _ => rfl
  | 1, _ => rfl
/-- A side with a session of its own anew. -/
theorem PairX.anew (h : PairX B w pp X P F G Q S C) (hi : i < 2) {p2 : Nat} {s2 : Ss} {w5 : World} {F2 : Nat → Prop} (hb : Below w.heap.size w w5) (hs : SE F2 w5 p2 s2) (hF2 : ∀ k, F2 k → w.heap.size ≤ k) :
    PairX B ((((w5.setCell ⟨pp, i, none⟩ (.pointer (some ⟨p2, 0, none⟩))).setCell ⟨pp, 6 + i, none⟩ (.slice none 0 0)).setCell ⟨pp, 8 + i, none⟩ (.slice none 0 0)).setCell ⟨pp, 10 + i, none⟩ (.int .i64 0)).drew pp (upd X i { X i with ss := s2, sent := [], came := [], fr := 0 }) (upd P i p2) (upd F i (fun k => F2 k ∧ k < w5.heap.size)) G Q (upd S i (.slice none 0 0)) (upd C i (.slice none 0 0)) ∧
    Below B w ((((w5.setCell ⟨pp, i, none⟩ (.pointer (some ⟨p2, 0, none⟩))).setCell ⟨pp, 6 + i, none⟩ (.slice none 0 0)).setCell ⟨pp, 8 + i, none⟩ (.slice none 0 0)).setCell ⟨pp, 10 + i, none⟩ (.int .i64 0)).drew ∧ Ku w ((((w5.setCell ⟨pp, i, none⟩ (.pointer (some ⟨p2, 0, none⟩))).setCell ⟨pp, 6 + i, none⟩ (.slice none 0 0)).setCell ⟨pp, 8 + i, none⟩ (.slice none 0 0)).setCell ⟨pp, 10 + i, none⟩ (.int .i64 0)).drew := by
  have h5 := h.later hb
  obtain ⟨w', hw'⟩ : ∃ w', w' = ((((w5.setCell ⟨pp, i, none⟩ (.pointer (some ⟨p2, 0, none⟩))).setCell ⟨pp, 6 + i, none⟩ (.slice none 0 0)).setCell ⟨pp, 8 + i, none⟩ (.slice none 0 0)).setCell ⟨pp, 10 + i, none⟩ (.int .i64 0)).drew := ⟨_, rfl⟩
  have hm : Moved (fun k => k = pp) w5 w' := by rw [hw']; exact (((((Moved.refl (fun k => k = pp) w5).setCell (.inr rfl) _).setCell (.inr rfl) _).setCell (.inr rfl) _).setCell (.inr rfl) _).drew
  have hself := heap_set (heap_set (heap_set (heap_set h5.self i (.pointer (some ⟨p2, 0, none⟩))) (6 + i) (.slice none 0 0)) (8 + i) (.slice none 0 0)) (10 + i) (.int .i64 0)
  have hd : w'.heap[pp]? = ((((w5.setCell ⟨pp, i, none⟩ (.pointer (some ⟨p2, 0, none⟩))).setCell ⟨pp, 6 + i, none⟩ (.slice none 0 0)).setCell ⟨pp, 8 + i, none⟩ (.slice none 0 0)).setCell ⟨pp, 10 + i, none⟩ (.int .i64 0)).heap[pp]? := by rw [hw']; rfl
  rw [← hw']
  have hk5 : Ku w5 w' := hm.ku (fun T hT k cs z e hk => by subst e; rw [h5.self] at hk; injection hk with hk; injection hk with _ hk _; rcases hT with rfl | rfl <;> revert hk <;> decide)
  have hb5 : Below B w5 w' := hm.below (fun k _ e => by rw [e]; exact h.low) h5.lowle
  have hF : ∀ j, j < 2 → ∀ k, upd F i (fun k => F2 k ∧ k < w5.heap.size) j k → (j ≠ i ∧ F j k) ∨ (j = i ∧ w.heap.size ≤ k ∧ k < w5.heap.size) := fun j hj k hk2 => by
    unfold upd at hk2
    split at hk2
    · rename_i e; exact .inr ⟨e, hF2 k hk2.1, hk2.2⟩
    · rename_i e; exact .inl ⟨e, hk2⟩
  have hX : ∀ j, (upd X i { X i with ss := s2, sent := [], came := [], fr := 0 } j).q = (X j).q ∧ (upd X i { X i with ss := s2, sent := [], came := [], fr := 0 } j).boot = (X j).boot := fun j => by
    unfold upd
    split
    · rename_i e; subst e; exact ⟨rfl, rfl⟩
    · exact ⟨rfl, rfl⟩
  refine ⟨⟨?_, fun j hj => ?_, fun j hj k hk2 => ?_, fun j hj k hk2 hk3 => ?_, fun j hj => ?_, fun j hj => ?_, fun j hj => ?_, ⟨h.own.1, fun j hj k => ⟨fun hk2 => (h.own.2 j hj k).1 hk2, fun hk2 => ?_, fun hk2 => ?_⟩⟩, fun k hk2 => ⟨(h.g k hk2).1, Nat.lt_of_lt_of_le (Nat.lt_of_lt_of_le (h.g k hk2).2.1 hb.size) hm.size, fun j hj e => ?_⟩, h.qs⟩, (hb.mono h.lowle).trans hb5, (Below.ku hb).trans hk5⟩
  · rw [hd, hself, (hX 0).2, (hX 1).2]
    clear hself hd hm hk5 hb5 hw' hX hF hs h5
    match i, hi with
    | 0, _ => simp [upd]
    | 1, _ => simp [upd]
  · by_cases e : j = i
    · subst e
      rw [upd_same, upd_same, upd_same]
      exact hs.tight.kept hm (fun k hk2 e2 => by have := hF2 k hk2.1; have := h.lt; omega) hk5
    · rw [upd_other _ _ e, upd_other _ _ e, upd_other _ _ e]
      exact (h5.ses j hj).kept hm (fun k hk2 e2 => (h.g pp h.own.1).2.2 j hj (e2 ▸ hk2)) hk5
  · rcases hF j hj k hk2 with ⟨_, h1⟩ | ⟨_, h1, h2⟩
    · exact ⟨(h5.tight j hj k h1).1, Nat.lt_of_lt_of_le (h5.tight j hj k h1).2 hm.size⟩
    · exact ⟨Nat.le_trans h.lowle h1, Nat.lt_of_lt_of_le h2 hm.size⟩
  · rcases hF j hj k hk2 with ⟨e1, h1⟩ | ⟨e1, h1, h2⟩
    · rcases hF (1 - j) (by omega) k hk3 with ⟨e3, h3⟩ | ⟨e3, h3, h4⟩
      · exact h.apart j hj k h1 h3
      · have := (h.tight j hj k h1).2; omega
    · rcases hF (1 - j) (by omega) k hk3 with ⟨e3, h3⟩ | ⟨e3, h3, h4⟩
      · have := (h.tight (1 - j) (by omega) k h3).2; omega
      · omega
  · rw [(hX j).1]; exact (h5.q j hj).kept hm (fun k hk2 e2 => by obtain ⟨_, _, _, _, _, o, _⟩ := h5.q j hj; exact own_ne o h5.self (by decide) (by rw [hk2, e2])) hk5
  · by_cases e : j = i
    · subst e; rw [upd_same, upd_same]; exact RowB.nil _ _
    · rw [upd_other _ _ e, upd_other _ _ e]; exact (h5.s j hj).kept hm (fun k hk2 e2 => by obtain ⟨_, _, _, _, _, o, _⟩ := h5.s j hj; exact own_ne o h5.self (by decide) (by rw [hk2, e2])) hb5 hk5
  · by_cases e : j = i
    · subst e; rw [upd_same, upd_same]; exact RowB.nil _ _
    · rw [upd_other _ _ e, upd_other _ _ e]; exact (h5.c j hj).kept hm (fun k hk2 e2 => by obtain ⟨_, _, _, _, _, o, _⟩ := h5.c j hj; exact own_ne o h5.self (by decide) (by rw [hk2, e2])) hb5 hk5
  · by_cases e : j = i
    · subst e; rw [upd_same] at hk2; cases hk2
    · rw [upd_other _ _ e] at hk2; exact (h.own.2 j hj k).2.1 hk2
  · by_cases e : j = i
    · subst e; rw [upd_same] at hk2; cases hk2
    · rw [upd_other _ _ e] at hk2; exact (h.own.2 j hj k).2.2 hk2
  · rcases hF j hj k e with ⟨_, h1⟩ | ⟨_, h1, h2⟩
    · exact (h.g k hk2).2.2 j hj h1
    · have := (h.g k hk2).2.1; omega
end
end Go.Proofs.Ytihkjdoajfjnpaa
