/- Package queue: the library's heap: put, take the first, take any one. -/
import Derived.Test.YtkdfkhebjhnbmaaQueK
set_option linter.unusedSimpArgs false
set_option linter.unusedVariables false
namespace Go.Que
theorem same_ext {m : Nat} {f g : Nat → Tm} (h : Same m f g) (e : g m = f m) : Same (m + 1) f g := fun t => by
  constructor
  · rintro ⟨k, hk, rfl⟩
    by_cases h1 : k = m
    · subst h1; exact ⟨k, by omega, e⟩
    · obtain ⟨j, hj, e2⟩ := (h (f k)).1 ⟨k, by omega, rfl⟩
      exact ⟨j, by omega, e2⟩
  · rintro ⟨k, hk, rfl⟩
    by_cases h1 : k = m
    · subst h1; exact ⟨k, by omega, e.symm⟩
    · obtain ⟨j, hj, e2⟩ := (h (g k)).2 ⟨k, by omega, rfl⟩
      exact ⟨j, by omega, e2⟩
theorem same_snoc (m : Nat) (g : Nat → Tm) : Same (m + 1) g (snoc m g (g m)) := fun t => by
  have : ∀ k, snoc m g (g m) k = g k := fun k => by
    unfold snoc
    by_cases h : k = m
    · rw [if_pos h, h]
    · rw [if_neg h]
  constructor
  · rintro ⟨k, hk, e⟩; exact ⟨k, hk, by rw [this]; exact e⟩
  · rintro ⟨k, hk, e⟩; exact ⟨k, hk, by rw [← this]; exact e⟩
theorem shuf_ext {m : Nat} {f g : Nat → Tm} (h : Shuf m f g) (e : g m = f m) : Shuf (m + 1) f g := by
  refine ⟨same_ext h.1 e, fun ho i j hi hj eq => ?_⟩
  have hg := h.2 (fun i j hi hj eq => ho i j (by omega) (by omega) eq)
  have key : ∀ i, i < m → (g i).id ≠ (g m).id := fun i hi eq => by
    obtain ⟨k, hk, e2⟩ := (h.1 (g i)).2 ⟨i, hi, rfl⟩
    rw [← e2, e] at eq
    have := ho k m (by omega) (by omega) eq
    omega
  by_cases h1 : i = m
  · by_cases h2 : j = m
    · omega
    · subst h1; exact absurd eq.symm (key j (by omega))
  · by_cases h2 : j = m
    · subst h2; exact absurd eq (key i (by omega))
    · exact hg i j (by omega) (by omega) eq
theorem shuf_snoc (m : Nat) (g : Nat → Tm) : Shuf (m + 1) g (snoc m g (g m)) := by
  have : ∀ k, snoc m g (g m) k = g k := fun k => by
    unfold snoc
    by_cases h : k = m
    · rw [if_pos h, h]
    · rw [if_neg h]
  exact ⟨same_snoc m g, fun ho i j hi hj e => ho i j hi hj (by rw [this, this] at e; exact e)⟩
theorem gone {m i : Nat} {f g : Nat → Tm} (hi : i < m + 1) (hS : Shuf m (swp f i m) g) (hK : ∀ k, m ≤ k → g k = swp f i m k) : Shuf (m + 1) f (snoc m g (f i)) := by
  have e : g m = f i := by rw [hK m (Nat.le_refl _), swp_r]
  have h1 := shuf_swp f hi (Nat.lt_succ_self m)
  have h2 := shuf_ext hS (hK m (Nat.le_refl _))
  have h3 := shuf_snoc m g
  rw [e] at h3
  exact (h1.trans h2).trans h3
end Go.Que
namespace Go.Proofs.Ytkdfkhebjhnbmaa
open Go.ChangeShapes Go.WideShapes Go.ChangeAt Go.RowKit Go.Base Go.Que

section
variable {w w' : World} {F G : Nat → Prop} {q c mb n N m : Nat} {A : Option Addr} {D : DataW Unit} {f : Nat → Tm} {turns : Int}
def OutPost (F : Nat → Prop) (q : Nat) (f : Nat → Tm) (m : Nat) (turns : Int) (t : Tm) (w : World) (e : Ending) (w' : World) : Prop :=
  e = .returned (.iface 82 (tmV t)) ∧ ∃ g, Que w' F q g m turns ∧ Moved F w w' ∧ Heap m g ∧ Shuf (m + 1) f (snoc m g t)
def InPost (F : Nat → Prop) (q : Nat) (f : Nat → Tm) (n : Nat) (turns : Int) (t : Tm) (w : World) (e : Ending) (w' : World) : Prop :=
  e = .returned (.tuple #[]) ∧ ∃ g, Que w' (fun k => F k ∨ w.heap.size ≤ k) q g (n + 1) turns ∧ Moved F w w' ∧ Heap (n + 1) g ∧ Same (n + 1) (snoc n f t) g
set_option maxHeartbeats 2000000 in
set_option maxRecDepth 20000 in
theorem hpush_any (h : Que w F q f n turns) (hH : Heap n f) (t : Tm) (ht : tfit t) (hn : n < 65536) (hid : ∀ k, k < n → (f k).id ≠ t.id) :
    Calls Try.prog 32 #[.iface 80 (.pointer (some ⟨q, 0, none⟩)), .iface 82 (tmV t)] w (InPost F q f n turns t w) := by
  have HPu := Lib.hid (ppush_any h t ht hn hid)
  have HH := Lib.hid hH
  clear h hH ht hid
  go_enter Try.func32, Try.ntmps32
  go_wp2_with (first
    | (go_at_call 60; refine Calls.mono (by with_reducible exact HPu.out) ?_; rintro en w1 ⟨rfl, hq1, hm1⟩; have HQ1 := Lib.hid hq1; have HM1 := Lib.hid hm1; have HLe := Lib.hid (plen_any hq1); clear hq1 hm1)
    | (go_at_call 31; refine Calls.mono (by with_reducible exact HLe.out) ?_; rintro en w2 ⟨rfl, rfl⟩; have HUp := Lib.hid (up_any HQ1.out (j := n) (n := n + 1) (by omega) (by omega) (up_start HH.out)); clear HLe)
    | (go_at_call 38; refine Calls.mono (by with_reducible exact HUp.out) ?_; rintro en w3 ⟨g, rfl, hq3, hm3, hs3, hh3, _⟩; have HP3 := Lib.hid (show ∃ g, Que w3 (fun k => F k ∨ w.heap.size ≤ k) q g (n + 1) turns ∧ Moved F w w3 ∧ Heap (n + 1) g ∧ Same (n + 1) (snoc n f t) g from ⟨g, hq3, HM1.out.trans hm3 (fun k hk e => e.elim id (fun h => by omega)), hh3, hs3.1⟩); clear hq3 hm3 hs3 hh3))
  exact bodyPost_end (v := .tuple #[]) (results_none (fn := Try.f32) rfl _ _ _) rfl ⟨rfl, HP3.out⟩
set_option maxHeartbeats 2000000 in
set_option maxRecDepth 20000 in
theorem hpop_any (h : Que w F q f (m + 1) turns) (hH : Heap (m + 1) f) : Calls Try.prog 40 #[.iface 80 (.pointer (some ⟨q, 0, none⟩))] w (OutPost F q f m turns (f 0) w) := by
  have hN := h.few
  have HLe := Lib.hid (plen_any h)
  have HSw : Hid (Calls Try.prog 61 #[.pointer (some ⟨q, 0, none⟩), .int .i64 0, .int .i64 (m : Int)] w (PSwap F q (swp f 0 m) (m + 1) turns w)) := Lib.hid (pswap_any h (i := 0) (j := m) (by omega) (by omega))
  have HG : Hid (Gap m 0 (swp f 0 m)) := Lib.hid (by
    by_cases e : 0 < m
    · exact gap_of_heap hH e
    · exact ⟨fun k k0 kn => by omega, fun k k0 kn => by omega⟩)
  clear h hH
  go_enter Try.func40, Try.ntmps40
  go_wp2_with (first
    | (go_at_call 31; refine Calls.mono (by with_reducible exact HLe.out) ?_; rintro en w1 ⟨rfl, rfl⟩; clear HLe)
    | (go_at_call 61; refine Calls.mono (by with_reducible exact HSw.out) ?_; rintro en w2 ⟨rfl, hq2, hm2⟩; have HM2 := Lib.hid hm2; have HDn : Hid (Calls Try.prog 39 #[.iface 80 (.pointer (some ⟨q, 0, none⟩)), .int .i64 0, .int .i64 (m : Int)] w2 (DownPost F q (swp f 0 m) 0 m (m + 1) turns w2)) := Lib.hid (down_any hq2 (i0 := 0) (n := m) (by omega) (by omega) HG.out); clear hq2 hm2)
    | (go_at_call 39; refine Calls.mono (by with_reducible exact HDn.out) ?_; rintro en w3 ⟨g, b, rfl, hq3, hm3, hs3, ht3, hf3, hk3⟩; have HM3 := Lib.hid (HM2.out.trans hm3 (fun _ _ h => h)); have HPo := Lib.hid (ppop_any hq3); have HGo := Lib.hid (gone (by omega) hs3 hk3); have HHe : Hid (Heap m g) := Lib.hid (by cases b; exact up_stop (by have := hf3 rfl; rw [this.1]; exact this.2) (.inl rfl); exact ht3 rfl); have HEq : Hid (g m = f 0) := Lib.hid (by rw [hk3 m (Nat.le_refl _), swp_r]); clear hq3 hm3 hs3 ht3 hf3 hk3)
    | (go_at_call 59; refine Calls.mono (by with_reducible exact HPo.out) ?_; rintro en w4 ⟨rfl, hq4, hm4⟩; have HQ4 := Lib.hid hq4; have HM4 := Lib.hid (HM3.out.trans hm4 (fun _ _ h => h)); clear hq4 hm4))
  go_ret
  exact ⟨by rw [← HEq.out]; rfl, g, HQ4.out, HM4.out, HHe.out, HGo.out⟩
set_option maxHeartbeats 2000000 in
set_option maxRecDepth 20000 in
theorem hremove_any (h : Que w F q f (m + 1) turns) (hH : Heap (m + 1) f) {i : Nat} (hi : i < m + 1) : Calls Try.prog 33 #[.iface 80 (.pointer (some ⟨q, 0, none⟩)), .int .i64 (i : Int)] w (OutPost F q f m turns (f i) w) := by
  have hN := h.few
  have HLe := Lib.hid (plen_any h)
  by_cases him : i = m
  · subst him
    have HPo := Lib.hid (ppop_any h)
    have HHe := Lib.hid (heap_less hH (Nat.le_succ i))
    have HGo := Lib.hid (shuf_snoc i f)
    have he : ((i : Int) != (i : Int)) = false := by simp
    clear h hH
    go_enter Try.func33, Try.ntmps33
    go_wp2_with (first
      | (go_at_call 31; refine Calls.mono (by with_reducible exact HLe.out) ?_; rintro en w1 ⟨rfl, rfl⟩; clear HLe)
      | (go_at_call 59; refine Calls.mono (by with_reducible exact HPo.out) ?_; rintro en w4 ⟨rfl, hq4, hm4⟩; have HQ4 := Lib.hid hq4; have HM4 := Lib.hid hm4; clear hq4 hm4))
    go_ret
    exact ⟨rfl, f, HQ4.out, HM4.out, HHe.out, HGo.out⟩
  · have he : ((m : Int) != (i : Int)) = true := by rw [bne_iff_ne]; omega
    have HSw := Lib.hid (pswap_any h (i := i) (j := m) (by omega) (by omega))
    have HG := Lib.hid (gap_of_heap hH (i := i) (by omega))
    clear h hH
    go_enter Try.func33, Try.ntmps33
    go_wp2_with (first
      | (go_at_call 31; refine Calls.mono (by with_reducible exact HLe.out) ?_; rintro en w1 ⟨rfl, rfl⟩; clear HLe)
      | (go_at_call 61; refine Calls.mono (by with_reducible exact HSw.out) ?_; rintro en w2 ⟨rfl, hq2, hm2⟩; have HM2 := Lib.hid hm2; have HDn := Lib.hid (down_any hq2 (i0 := i) (n := m) (by omega) (by omega) HG.out); clear hq2 hm2)
      | (go_at_call 39; refine Calls.mono (by with_reducible exact HDn.out) ?_; rintro en w3 ⟨g, b, rfl, hq3, hm3, hs3, ht3, hf3, hk3⟩; have HM3 := Lib.hid (HM2.out.trans hm3 (fun _ _ h => h)); have HQ3 := Lib.hid hq3; have HS3 := Lib.hid hs3; have HT3 := Lib.hid ht3; have HF3 := Lib.hid hf3; have HK3 := Lib.hid hk3; clear hq3 hm3 hs3 ht3 hf3 hk3)
      | fail)
    · have hbn : (!b) = true := by assumption
      have hbf : b = false := by simpa using hbn
      clear hbn
      have HGq : Hid (g = swp f i m ∧ UpI m i (swp f i m)) := Lib.hid (HF3.out hbf)
      have HUp := Lib.hid (up_any HQ3.out (j := i) (n := m) (by omega) (by omega) (by rw [HGq.out.1]; exact HGq.out.2))
      go_wp2_with (first
        | (go_at_call 38; refine Calls.mono (by with_reducible exact HUp.out) ?_; rintro en w5 ⟨g5, rfl, hq5, hm5, hs5, hh5, hk5⟩; have HM5 := Lib.hid (HM3.out.trans hm5 (fun _ _ h => h)); have HPo := Lib.hid (ppop_any hq5); have HGo := Lib.hid (gone (by omega) (HS3.out.trans hs5) (fun k hk => (hk5 k hk).trans (HK3.out k hk))); have HHe := Lib.hid hh5; have HEq : Hid (g5 m = f i) := Lib.hid (by rw [hk5 m (Nat.le_refl _), HK3.out m (Nat.le_refl _), swp_r]); clear hq5 hm5 hs5 hh5 hk5)
        | (go_at_call 59; refine Calls.mono (by with_reducible exact HPo.out) ?_; rintro en w6 ⟨rfl, hq6, hm6⟩; have HQ6 := Lib.hid hq6; have HM6 := Lib.hid (HM5.out.trans hm6 (fun _ _ h => h)); clear hq6 hm6))
      go_ret
      exact ⟨by rw [← HEq.out]; rfl, g5, HQ6.out, HM6.out, HHe.out, HGo.out⟩
    · have hbn : (!b) = false := by assumption
      have hbt : b = true := by simpa using hbn
      clear hbn
      have HPo := Lib.hid (ppop_any HQ3.out)
      have HGo := Lib.hid (gone (by omega) HS3.out HK3.out)
      have HHe := Lib.hid (HT3.out hbt)
      have HEq : Hid (g m = f i) := Lib.hid (by rw [HK3.out m (Nat.le_refl _), swp_r])
      go_wp2_with (go_at_call 59; refine Calls.mono (by with_reducible exact HPo.out) ?_; rintro en w6 ⟨rfl, hq6, hm6⟩; have HQ6 := Lib.hid hq6; have HM6 := Lib.hid (HM3.out.trans hm6 (fun _ _ h => h)); clear hq6 hm6)
      go_ret
      exact ⟨by rw [← HEq.out]; rfl, g, HQ6.out, HM6.out, HHe.out, HGo.out⟩
end
end Go.Proofs.Ytkdfkhebjhnbmaa
