/- Package queue: the library's heap upon a row of timers alone (All). -/
import Derived.Test.YtkdfkhebjhnbmaaQueO
set_option linter.unusedSimpArgs false
set_option linter.unusedVariables false
namespace Go.Proofs.Ytkdfkhebjhnbmaa
open Go.ChangeShapes Go.WideShapes Go.ChangeAt Go.RowKit Go.Base Go.Que

/-- Block q is a row alone. -/
def rowR : Rest := ⟨[], 74⟩
def RW (w : World) (F : Nat → Prop) (q : Nat) (f : Nat → Tm) (n : Nat) (turns : Int) : Prop :=
  ∃ A c, RowX w q rowR A n c f ∧ F q ∧ (∀ k, (Value.slice A n c).ownBlock = some k → F k) ∧ ∀ k, k < n → tfit (f k)
section
variable {w w' : World} {F G : Nat → Prop} {q c mb n N m : Nat} {A : Option Addr} {D : DataW Unit} {f : Nat → Tm} {turns : Int}
theorem RW.kept {p : Nat → Prop} (h : RW w F q f n turns) (hm : Moved p w w') (hn : ∀ k, F k → ¬ p k) : RW w' F q f n turns := by
  obtain ⟨A, c, h, h1, h2, h3⟩ := h
  exact ⟨A, c, h.moved hm (hn _ h1) (fun k hk => hn _ (h2 k hk)), h1, h2, h3⟩
theorem RW.later (h : RW w F q f n turns) (hb : Below w.heap.size w w') : RW w' F q f n turns := h.kept (p := fun _ => False) (Below.movedNew hb) (fun _ _ h => h)
theorem RW.wide (h : RW w F q f n turns) (hG : ∀ k, F k → G k) : RW w G q f n turns := by
  obtain ⟨A, c, h, h1, h2, h3⟩ := h
  exact ⟨A, c, h, hG _ h1, fun k hk => hG _ (h2 k hk), h3⟩
theorem RW.few (h : RW w F q f n turns) : n ≤ 65536 := by
  obtain ⟨A, c, h, _⟩ := h
  exact h.few
theorem RW.fits (h : RW w F q f n turns) {k : Nat} (hk : k < n) : tfit (f k) := by
  obtain ⟨A, c, h, h1, h2, h3⟩ := h
  exact h3 k hk
theorem rPless_any (h : RW w F q f N turns) {i j : Nat} (hi : i < N) (hj : j < N) (b : Bool) (hb : ltB (f i) (f j) = b) : Calls Try.prog 58 #[.pointer (some ⟨q, 0, none⟩), .int .i64 (i : Int), .int .i64 (j : Int)] w fun e w' => e = .returned (.bool b) ∧ Below w.heap.size w w' := by
  subst hb
  obtain ⟨A, c, h, _⟩ := h
  exact less_any h hi hj
theorem rPlen_any (h : RW w F q f N turns) : Calls Try.prog 31 #[.pointer (some ⟨q, 0, none⟩)] w fun e w' => e = .returned (.int .i64 (N : Int)) ∧ w = w' := by
  obtain ⟨A, c, h, _⟩ := h
  exact rlen_any h
theorem rPfirst_any (h : RW w F q f n turns) (hn : 0 < n) : Calls Try.prog 62 #[.pointer (some ⟨q, 0, none⟩)] w fun e w' => e = .returned (tmV (f 0)) ∧ Below w.heap.size w w' := by
  obtain ⟨A, c, h, _⟩ := h
  exact first_any h hn
def RPSwap (F : Nat → Prop) (q : Nat) (f : Nat → Tm) (n : Nat) (turns : Int) (w : World) (e : Ending) (w' : World) : Prop := e = .returned (.tuple #[]) ∧ RW w' F q f n turns ∧ Moved F w w'
theorem rPswap_any (h : RW w F q f n turns) {i j : Nat} (hi : i < n) (hj : j < n) : Calls Try.prog 67 #[.pointer (some ⟨q, 0, none⟩), .int .i64 (i : Int), .int .i64 (j : Int)] w (RPSwap F q (swp f i j) n turns w) := by
  obtain ⟨A, c, h, h1, h2, h3⟩ := h
  obtain ⟨g, rfl, _⟩ := h.at_ hi
  refine (rswap_any h hi hj).mono fun e w' ⟨he, hr, hm⟩ => ⟨he, ⟨_, c, hr, h1, h2, fun k hk => ?_⟩, hm.weaken (fun k _ e => h2 k (by rw [e]; rfl))⟩
  obtain ⟨m, hm, e⟩ := ((same_swp f hi hj) (swp f i j k)).2 ⟨k, hk, rfl⟩
  rw [← e]; exact h3 m hm
def RPPop (F : Nat → Prop) (q : Nat) (f : Nat → Tm) (n : Nat) (turns : Int) (t : Tm) (w : World) (e : Ending) (w' : World) : Prop := e = .returned (.iface 82 (tmV t)) ∧ RW w' F q f n turns ∧ Moved F w w'
theorem rPpop_any {m : Nat} (h : RW w F q f (m + 1) turns) : Calls Try.prog 65 #[.pointer (some ⟨q, 0, none⟩)] w (RPPop F q f m turns (f m) w) := by
  obtain ⟨A, c, h, h1, h2, h3⟩ := h
  obtain ⟨g, rfl, _⟩ := h.at_ (Nat.lt_succ_self m)
  exact (rpop_any h).mono fun e w' ⟨he, hr, hm⟩ => ⟨he, ⟨_, c, hr, h1, h2, fun k hk => h3 k (by omega)⟩, hm.weaken (fun k _ e => by rw [e]; exact h1)⟩
def RDownPost (F : Nat → Prop) (q : Nat) (f : Nat → Tm) (i0 n N : Nat) (turns : Int) (w : World) (e : Ending) (w' : World) : Prop :=
  ∃ g b, e = .returned (.bool b) ∧ RW w' F q g N turns ∧ Moved F w w' ∧ Shuf n f g ∧ (b = true → Heap n g) ∧ (b = false → g = f ∧ UpI n i0 f) ∧ ∀ k, n ≤ k → g k = f k
theorem rDown_end {g : Nat → Tm} {i0 i : Nat} (hQ : RW w' F q g N turns) (hM : Moved F w w') (hS : Shuf n f g) (hK : ∀ k, n ≤ k → g k = f k) (hD : DownI n i0 i f g) (hs : ∀ k, 0 < k → k < n → par k = i → ¬ lt (g k) (g i)) (b : Bool) (hb : b = decide (i0 < i)) : RDownPost F q f i0 n N turns w (.returned (.bool b)) w' := by
  have h := down_stop hD hs
  refine ⟨g, b, rfl, hQ, hM, hS, fun e => h.1 (by rw [hb] at e; exact of_decide_eq_true e), fun e => ?_, hK⟩
  have e2 : i = i0 := by rw [hb] at e; have := of_decide_eq_false e; have := hD.1; omega
  exact h.2 e2
set_option maxHeartbeats 4000000 in
set_option maxRecDepth 20000 in
theorem rDown_any (h : RW w F q f N turns) {i0 : Nat} (hi : i0 ≤ 65536) (hn : n ≤ N) (hG : Gap n i0 f) : Calls Try.prog 39 #[.iface 87 (.pointer (some ⟨q, 0, none⟩)), .int .i64 (i0 : Int), .int .i64 (n : Int)] w (RDownPost F q f i0 n N turns w) := by
  have hN := h.few
  have H := Lib.hid h
  have HD := Lib.hid (down_start hG)
  clear h hG
  go_enter Try.func39, Try.ntmps39
  go_wp2
  go_loopw [7] (fun iv wr => ∃ (i : Nat) (g : Nat → Tm), i ≤ 65536 ∧ iv = .int .i64 (i : Int) ∧ Hid (RW wr F q g N turns) ∧ Hid (Moved F w wr) ∧ Hid (Shuf n f g) ∧ Hid (DownI n i0 i f g) ∧ Hid (∀ k, n ≤ k → g k = f k)) (fun iv _ => 65537 - (intOf iv).toNat)
  case atStart => exact ⟨i0, f, hi, rfl, H, Lib.hid (Moved.refl _ _), Lib.hid (Shuf.refl _ _), HD, Lib.hid (fun _ _ => rfl)⟩
  case round =>
    clear H HD
    obtain ⟨i, g, hi2, rfl, HQ, HM, HS, HD, HK⟩ := hrel
    have hle := HD.out.1
    obtain ⟨j1, hj1⟩ : ∃ j1, j1 = 2 * i + 1 := ⟨_, rfl⟩
    obtain ⟨j2, hj2⟩ : ∃ j2, j2 = j1 + 1 := ⟨_, rfl⟩
    have hp1 : 2 * (i : Int) + 1 = (j1 : Int) := by omega
    have hp2 : (j1 : Int) + 1 = (j2 : Int) := by omega
    have hz : (0 : Int) ≤ (j1 : Int) := by omega
    have hzi : (0 : Int) ≤ (i : Int) := by omega
    have HJ := Lib.hid (And.intro hj1 hj2)
    have HC : Hid (∀ k, 0 < k → par k = i → k = j1 ∨ k = j2) := Lib.hid (fun k k0 kp => by have := par_eq k0 kp; omega)
    have HPa : Hid (par j1 = i ∧ par j2 = i ∧ i < j1) := Lib.hid ⟨by rw [hj1]; exact par_l i, by rw [hj2, hj1]; exact par_r i, by omega⟩
    have hj1b : j1 ≤ 131073 := by omega
    clear hj1 hj2
    by_cases h1 : j1 < n
    · have h1i : (j1 : Int) < (n : Int) := by omega
      have hi3 := HPa.out.2.2
      by_cases h2 : j2 < n
      · have h2i : (j2 : Int) < (n : Int) := by omega
        rcases hb1 : ltB (g j2) (g j1) with _ | _
        · have HL1 := Lib.hid (rPless_any HQ.out (i := j2) (j := j1) (by omega) (by omega) false hb1)
          have HMin : Hid (∀ k, 0 < k → k < n → par k = i → ¬ lt (g k) (g j1)) := Lib.hid (fun k k0 kn kp => by rcases HC.out k k0 kp with rfl | rfl; exact lt_irr' _; exact of_decide_eq_false hb1)
          clear hb1
          rcases hb2 : ltB (g j1) (g i) with _ | _
          · have HLb := Lib.hid hb2
            clear hb2
            by_cases hlt : i0 < i
            · have hlt3 : (i0 : Int) < (i : Int) := by omega
              go_wp2_with (first | (go_at_call 58; refine Calls.mono (by with_reducible exact HL1.out) ?_; rintro en w1 ⟨rfl, hb1⟩; have HB1 := Lib.hid hb1; have HQ1 := Lib.hid (HQ.out.later hb1); have HM1 := Lib.hid (HM.out.trans (q := fun _ => False) (Below.movedNew hb1) (fun _ _ h => h.elim)); have HL2 := Lib.hid (rPless_any HQ1.out (i := j1) (j := i) (by omega) (by omega) false HLb.out); clear HL1 hb1) | (go_at_call 58; refine Calls.mono (by with_reducible exact HL2.out) ?_; rintro en w2 ⟨rfl, hb2⟩; have HQ2 := Lib.hid (HQ1.out.later hb2); have HM2 := Lib.hid (HM1.out.trans (q := fun _ => False) (Below.movedNew hb2) (fun _ _ h => h.elim)); clear hb2))
              go_ret
              exact rDown_end HQ2.out HM2.out HS.out HK.out HD.out (fun k k0 kn kp => lt_trans' (of_decide_eq_false HLb.out) (HMin.out k k0 kn kp)) true (by rw [decide_eq_true hlt])
            · have hlt3 : ¬ (i0 : Int) < (i : Int) := by omega
              go_wp2_with (first | (go_at_call 58; refine Calls.mono (by with_reducible exact HL1.out) ?_; rintro en w1 ⟨rfl, hb1⟩; have HB1 := Lib.hid hb1; have HQ1 := Lib.hid (HQ.out.later hb1); have HM1 := Lib.hid (HM.out.trans (q := fun _ => False) (Below.movedNew hb1) (fun _ _ h => h.elim)); have HL2 := Lib.hid (rPless_any HQ1.out (i := j1) (j := i) (by omega) (by omega) false HLb.out); clear HL1 hb1) | (go_at_call 58; refine Calls.mono (by with_reducible exact HL2.out) ?_; rintro en w2 ⟨rfl, hb2⟩; have HQ2 := Lib.hid (HQ1.out.later hb2); have HM2 := Lib.hid (HM1.out.trans (q := fun _ => False) (Below.movedNew hb2) (fun _ _ h => h.elim)); clear hb2))
              go_ret
              exact rDown_end HQ2.out HM2.out HS.out HK.out HD.out (fun k k0 kn kp => lt_trans' (of_decide_eq_false HLb.out) (HMin.out k k0 kn kp)) false (by rw [decide_eq_false hlt])
          · have HLb := Lib.hid hb2
            clear hb2
            go_wp2_with (first | (go_at_call 58; refine Calls.mono (by with_reducible exact HL1.out) ?_; rintro en w1 ⟨rfl, hb1⟩; have HB1 := Lib.hid hb1; have HQ1 := Lib.hid (HQ.out.later hb1); have HM1 := Lib.hid (HM.out.trans (q := fun _ => False) (Below.movedNew hb1) (fun _ _ h => h.elim)); have HL2 := Lib.hid (rPless_any HQ1.out (i := j1) (j := i) (by omega) (by omega) true HLb.out); clear HL1 hb1) | (go_at_call 58; refine Calls.mono (by with_reducible exact HL2.out) ?_; rintro en w2 ⟨rfl, hb2⟩; have HQ2 := Lib.hid (HQ1.out.later hb2); have HM2 := Lib.hid (HM1.out.trans (q := fun _ => False) (Below.movedNew hb2) (fun _ _ h => h.elim)); have HSw := Lib.hid (rPswap_any HQ2.out (i := i) (j := j1) (by omega) (by omega)); clear hb2) | (go_at_call 67; refine Calls.mono (by with_reducible exact HSw.out) ?_; rintro en w3 ⟨rfl, hq3, hm3⟩; have HQ3 := Lib.hid hq3; have HM3 := Lib.hid (HM2.out.trans hm3 (fun _ _ h => h)); clear hq3 hm3))
            go_roundw
            case rel => exact ⟨j1, swp g i j1, by omega, rfl, HQ3, HM3, Lib.hid (HS.out.trans (shuf_swp g (by have := HPa.out.2.2; omega) (by omega))), Lib.hid (down_step HD.out (by omega) HPa.out.1 (by omega) (of_decide_eq_true HLb.out) HMin.out), Lib.hid (fun k hk => by rw [swp_o g (by have := HPa.out.2.2; omega) (by omega)]; exact HK.out k hk)⟩
            case measure => have := HPa.out.2.2; simp [intOf]; omega
        · have HL1 := Lib.hid (rPless_any HQ.out (i := j2) (j := j1) (by omega) (by omega) true hb1)
          have HMin : Hid (∀ k, 0 < k → k < n → par k = i → ¬ lt (g k) (g j2)) := Lib.hid (fun k k0 kn kp => by rcases HC.out k k0 kp with rfl | rfl; exact lt_asymm' (of_decide_eq_true hb1); exact lt_irr' _)
          clear hb1
          rcases hb2 : ltB (g j2) (g i) with _ | _
          · have HLb := Lib.hid hb2
            clear hb2
            by_cases hlt : i0 < i
            · have hlt3 : (i0 : Int) < (i : Int) := by omega
              go_wp2_with (first | (go_at_call 58; refine Calls.mono (by with_reducible exact HL1.out) ?_; rintro en w1 ⟨rfl, hb1⟩; have HB1 := Lib.hid hb1; have HQ1 := Lib.hid (HQ.out.later hb1); have HM1 := Lib.hid (HM.out.trans (q := fun _ => False) (Below.movedNew hb1) (fun _ _ h => h.elim)); have HL2 := Lib.hid (rPless_any HQ1.out (i := j2) (j := i) (by omega) (by omega) false HLb.out); clear HL1 hb1) | (go_at_call 58; refine Calls.mono (by with_reducible exact HL2.out) ?_; rintro en w2 ⟨rfl, hb2⟩; have HQ2 := Lib.hid (HQ1.out.later hb2); have HM2 := Lib.hid (HM1.out.trans (q := fun _ => False) (Below.movedNew hb2) (fun _ _ h => h.elim)); clear hb2))
              go_ret
              exact rDown_end HQ2.out HM2.out HS.out HK.out HD.out (fun k k0 kn kp => lt_trans' (of_decide_eq_false HLb.out) (HMin.out k k0 kn kp)) true (by rw [decide_eq_true hlt])
            · have hlt3 : ¬ (i0 : Int) < (i : Int) := by omega
              go_wp2_with (first | (go_at_call 58; refine Calls.mono (by with_reducible exact HL1.out) ?_; rintro en w1 ⟨rfl, hb1⟩; have HB1 := Lib.hid hb1; have HQ1 := Lib.hid (HQ.out.later hb1); have HM1 := Lib.hid (HM.out.trans (q := fun _ => False) (Below.movedNew hb1) (fun _ _ h => h.elim)); have HL2 := Lib.hid (rPless_any HQ1.out (i := j2) (j := i) (by omega) (by omega) false HLb.out); clear HL1 hb1) | (go_at_call 58; refine Calls.mono (by with_reducible exact HL2.out) ?_; rintro en w2 ⟨rfl, hb2⟩; have HQ2 := Lib.hid (HQ1.out.later hb2); have HM2 := Lib.hid (HM1.out.trans (q := fun _ => False) (Below.movedNew hb2) (fun _ _ h => h.elim)); clear hb2))
              go_ret
              exact rDown_end HQ2.out HM2.out HS.out HK.out HD.out (fun k k0 kn kp => lt_trans' (of_decide_eq_false HLb.out) (HMin.out k k0 kn kp)) false (by rw [decide_eq_false hlt])
          · have HLb := Lib.hid hb2
            clear hb2
            go_wp2_with (first | (go_at_call 58; refine Calls.mono (by with_reducible exact HL1.out) ?_; rintro en w1 ⟨rfl, hb1⟩; have HB1 := Lib.hid hb1; have HQ1 := Lib.hid (HQ.out.later hb1); have HM1 := Lib.hid (HM.out.trans (q := fun _ => False) (Below.movedNew hb1) (fun _ _ h => h.elim)); have HL2 := Lib.hid (rPless_any HQ1.out (i := j2) (j := i) (by omega) (by omega) true HLb.out); clear HL1 hb1) | (go_at_call 58; refine Calls.mono (by with_reducible exact HL2.out) ?_; rintro en w2 ⟨rfl, hb2⟩; have HQ2 := Lib.hid (HQ1.out.later hb2); have HM2 := Lib.hid (HM1.out.trans (q := fun _ => False) (Below.movedNew hb2) (fun _ _ h => h.elim)); have HSw := Lib.hid (rPswap_any HQ2.out (i := i) (j := j2) (by omega) (by omega)); clear hb2) | (go_at_call 67; refine Calls.mono (by with_reducible exact HSw.out) ?_; rintro en w3 ⟨rfl, hq3, hm3⟩; have HQ3 := Lib.hid hq3; have HM3 := Lib.hid (HM2.out.trans hm3 (fun _ _ h => h)); clear hq3 hm3))
            go_roundw
            case rel => exact ⟨j2, swp g i j2, by omega, rfl, HQ3, HM3, Lib.hid (HS.out.trans (shuf_swp g (by have := HPa.out.2.2; omega) (by omega))), Lib.hid (down_step HD.out (by omega) HPa.out.2.1 (by omega) (of_decide_eq_true HLb.out) HMin.out), Lib.hid (fun k hk => by rw [swp_o g (by have := HPa.out.2.2; omega) (by omega)]; exact HK.out k hk)⟩
            case measure => have := HPa.out.2.2; simp [intOf]; omega
      · have h2i : ¬ (j2 : Int) < (n : Int) := by omega
        have HMin : Hid (∀ k, 0 < k → k < n → par k = i → ¬ lt (g k) (g j1)) := Lib.hid (fun k k0 kn kp => by rcases HC.out k k0 kp with rfl | rfl; exact lt_irr' _; omega)
        rcases hb2 : ltB (g j1) (g i) with _ | _
        · have HLb := Lib.hid hb2
          clear hb2
          have HQ1 := HQ
          have HM1 := HM
          have HL2 := Lib.hid (rPless_any HQ1.out (i := j1) (j := i) (by omega) (by omega) false HLb.out)
          by_cases hlt : i0 < i
          · have hlt3 : (i0 : Int) < (i : Int) := by omega
            go_wp2_with (first | (go_at_call 58; refine Calls.mono (by with_reducible exact HL2.out) ?_; rintro en w2 ⟨rfl, hb2⟩; have HQ2 := Lib.hid (HQ1.out.later hb2); have HM2 := Lib.hid (HM1.out.trans (q := fun _ => False) (Below.movedNew hb2) (fun _ _ h => h.elim)); clear hb2))
            go_ret
            exact rDown_end HQ2.out HM2.out HS.out HK.out HD.out (fun k k0 kn kp => lt_trans' (of_decide_eq_false HLb.out) (HMin.out k k0 kn kp)) true (by rw [decide_eq_true hlt])
          · have hlt3 : ¬ (i0 : Int) < (i : Int) := by omega
            go_wp2_with (first | (go_at_call 58; refine Calls.mono (by with_reducible exact HL2.out) ?_; rintro en w2 ⟨rfl, hb2⟩; have HQ2 := Lib.hid (HQ1.out.later hb2); have HM2 := Lib.hid (HM1.out.trans (q := fun _ => False) (Below.movedNew hb2) (fun _ _ h => h.elim)); clear hb2))
            go_ret
            exact rDown_end HQ2.out HM2.out HS.out HK.out HD.out (fun k k0 kn kp => lt_trans' (of_decide_eq_false HLb.out) (HMin.out k k0 kn kp)) false (by rw [decide_eq_false hlt])
        · have HLb := Lib.hid hb2
          clear hb2
          have HQ1 := HQ
          have HM1 := HM
          have HL2 := Lib.hid (rPless_any HQ1.out (i := j1) (j := i) (by omega) (by omega) true HLb.out)
          go_wp2_with (first | (go_at_call 58; refine Calls.mono (by with_reducible exact HL2.out) ?_; rintro en w2 ⟨rfl, hb2⟩; have HQ2 := Lib.hid (HQ1.out.later hb2); have HM2 := Lib.hid (HM1.out.trans (q := fun _ => False) (Below.movedNew hb2) (fun _ _ h => h.elim)); have HSw := Lib.hid (rPswap_any HQ2.out (i := i) (j := j1) (by omega) (by omega)); clear hb2) | (go_at_call 67; refine Calls.mono (by with_reducible exact HSw.out) ?_; rintro en w3 ⟨rfl, hq3, hm3⟩; have HQ3 := Lib.hid hq3; have HM3 := Lib.hid (HM2.out.trans hm3 (fun _ _ h => h)); clear hq3 hm3))
          go_roundw
          case rel => exact ⟨j1, swp g i j1, by omega, rfl, HQ3, HM3, Lib.hid (HS.out.trans (shuf_swp g (by have := HPa.out.2.2; omega) (by omega))), Lib.hid (down_step HD.out (by omega) HPa.out.1 (by omega) (of_decide_eq_true HLb.out) HMin.out), Lib.hid (fun k hk => by rw [swp_o g (by have := HPa.out.2.2; omega) (by omega)]; exact HK.out k hk)⟩
          case measure => have := HPa.out.2.2; simp [intOf]; omega
    · have h1i : ¬ (j1 : Int) < (n : Int) := by omega
      by_cases hlt : i0 < i
      · have hlt3 : (i0 : Int) < (i : Int) := by omega
        go_wp2
        go_ret
        exact rDown_end HQ.out HM.out HS.out HK.out HD.out (fun k k0 kn kp => by have := HC.out k k0 kp; have := HJ.out; omega) true (by rw [decide_eq_true hlt])
      · have hlt3 : ¬ (i0 : Int) < (i : Int) := by omega
        go_wp2
        go_ret
        exact rDown_end HQ.out HM.out HS.out HK.out HD.out (fun k k0 kn kp => by have := HC.out k k0 kp; have := HJ.out; omega) false (by rw [decide_eq_false hlt])
def ROutPost (F : Nat → Prop) (q : Nat) (f : Nat → Tm) (m : Nat) (turns : Int) (t : Tm) (w : World) (e : Ending) (w' : World) : Prop :=
  e = .returned (.iface 82 (tmV t)) ∧ ∃ g, RW w' F q g m turns ∧ Moved F w w' ∧ Heap m g ∧ Shuf (m + 1) f (snoc m g t)
set_option maxHeartbeats 2000000 in
set_option maxRecDepth 20000 in
theorem rHpop_any (h : RW w F q f (m + 1) turns) (hH : Heap (m + 1) f) : Calls Try.prog 40 #[.iface 87 (.pointer (some ⟨q, 0, none⟩))] w (ROutPost F q f m turns (f 0) w) := by
  have hN := h.few
  have HLe := Lib.hid (rPlen_any h)
  have HSw : Hid (Calls Try.prog 67 #[.pointer (some ⟨q, 0, none⟩), .int .i64 0, .int .i64 (m : Int)] w (RPSwap F q (swp f 0 m) (m + 1) turns w)) := Lib.hid (rPswap_any h (i := 0) (j := m) (by omega) (by omega))
  have HG : Hid (Gap m 0 (swp f 0 m)) := Lib.hid (by
    by_cases e : 0 < m
    · exact gap_of_heap hH e
    · exact ⟨fun k k0 kn => by omega, fun k k0 kn => by omega⟩)
  clear h hH
  go_enter Try.func40, Try.ntmps40
  go_wp2_with (first
    | (go_at_call 31; refine Calls.mono (by with_reducible exact HLe.out) ?_; rintro en w1 ⟨rfl, rfl⟩; clear HLe)
    | (go_at_call 67; refine Calls.mono (by with_reducible exact HSw.out) ?_; rintro en w2 ⟨rfl, hq2, hm2⟩; have HM2 := Lib.hid hm2; have HDn : Hid (Calls Try.prog 39 #[.iface 87 (.pointer (some ⟨q, 0, none⟩)), .int .i64 0, .int .i64 (m : Int)] w2 (RDownPost F q (swp f 0 m) 0 m (m + 1) turns w2)) := Lib.hid (rDown_any hq2 (i0 := 0) (n := m) (by omega) (by omega) HG.out); clear hq2 hm2)
    | (go_at_call 39; refine Calls.mono (by with_reducible exact HDn.out) ?_; rintro en w3 ⟨g, b, rfl, hq3, hm3, hs3, ht3, hf3, hk3⟩; have HM3 := Lib.hid (HM2.out.trans hm3 (fun _ _ h => h)); have HPo := Lib.hid (rPpop_any hq3); have HGo := Lib.hid (gone (by omega) hs3 hk3); have HHe : Hid (Heap m g) := Lib.hid (by cases b; exact up_stop (by have := hf3 rfl; rw [this.1]; exact this.2) (.inl rfl); exact ht3 rfl); have HEq : Hid (g m = f 0) := Lib.hid (by rw [hk3 m (Nat.le_refl _), swp_r]); clear hq3 hm3 hs3 ht3 hf3 hk3)
    | (go_at_call 65; refine Calls.mono (by with_reducible exact HPo.out) ?_; rintro en w4 ⟨rfl, hq4, hm4⟩; have HQ4 := Lib.hid hq4; have HM4 := Lib.hid (HM3.out.trans hm4 (fun _ _ h => h)); clear hq4 hm4))
  go_ret
  exact ⟨by rw [← HEq.out]; rfl, g, HQ4.out, HM4.out, HHe.out, HGo.out⟩
set_option maxHeartbeats 1000000 in
theorem rDue_any (h : RW w F q f n turns) (now : Int) : Calls Try.prog 35 #[.iface 87 (.pointer (some ⟨q, 0, none⟩)), .int .i64 now] w fun e w' => e = .returned (dueV f n now) ∧ Below w.heap.size w w' := by
  have HL := Lib.hid (fun V (hV : Below w.heap.size w V) => rPlen_any (h.later hV))
  have HF := Lib.hid (fun V (hV : Below w.heap.size w V) => rPfirst_any (h.later hV))
  have hN := h.few
  clear h
  by_cases h0 : n = 0
  · subst h0
    go_enter Try.func35, Try.ntmps35
    go_wp2_with (go_at_call 31; refine Calls.mono (HL.out _ (below_alloc _ _)) ?_; rintro e w1 ⟨rfl, rfl⟩)
    exact bodyPost_ret (v := .tuple #[.agg #[.int .i64 0, .int .i64 0], .bool false]) (by simp [results, Try.results35, go_sem]) rfl ⟨by unfold dueV; rw [if_neg (by omega)], below_alloc _ _⟩
  · have hn : 0 < n := by omega
    have he : ((n : Int) == 0) = false := by rw [beq_eq_false_iff_ne]; omega
    obtain ⟨a, ha⟩ : ∃ a, a = f 0 := ⟨_, rfl⟩
    have HF2 : Hid (∀ V, Below w.heap.size w V → Calls Try.prog 62 #[.pointer (some ⟨q, 0, none⟩)] V fun e w' => e = .returned (.agg #[.int .i64 a.at_, .int .i64 a.id, .int .i64 a.turn]) ∧ Below V.heap.size V w') := Lib.hid (fun V hV => by rw [ha]; exact HF.out V hV hn)
    have hF1 := field_tm a.at_ a.id a.turn
    have hF3 := field_at a.at_ a.id
    have HD := Lib.hid ha
    clear ha
    have HA := Lib.hid (below_alloc w (.cells #[.int .i64 0, .int .i64 0] 65))
    by_cases hg : now < a.at_
    · go_enter Try.func35, Try.ntmps35
      go_wp2_with (first
        | (go_at_call 31; refine Calls.mono (HL.out _ HA.out) ?_; rintro e w1 ⟨rfl, rfl⟩)
        | (have tok1 := HA; go_at_call 62; refine Calls.mono (HF2.out _ HA.out) ?_; rintro e w2 ⟨rfl, hb⟩; have HB := Lib.hid (HA.out.trans (hb.mono (by simp))); have hc0 := hb.cell (p := ⟨w.heap.size, 0, none⟩) (by simp); have hc1 := hb.cell (p := ⟨w.heap.size, 1, none⟩) (by simp); have hfz0 := hb.frozen (p := ⟨w.heap.size, 0, none⟩) (by simp); have hfz1 := hb.frozen (p := ⟨w.heap.size, 1, none⟩) (by simp); have hsz : w.heap.size + 1 ≤ w2.heap.size := (by have := hb.size; simp at this; omega); clear hb HA tok1)
        | (go_at_call 62; refine Calls.mono (HF2.out _ HB.out) ?_; rintro e w3 ⟨rfl, hb⟩; have HB3 := Lib.hid (HB.out.trans (hb.mono HB.out.size)); have hd0 := hb.cell (p := ⟨w.heap.size, 0, none⟩) (by show w.heap.size < _; omega); have hd1 := hb.cell (p := ⟨w.heap.size, 1, none⟩) (by show w.heap.size < _; omega); have he0 := hb.frozen (p := ⟨w.heap.size, 0, none⟩) (by show w.heap.size < _; omega); have he1 := hb.frozen (p := ⟨w.heap.size, 1, none⟩) (by show w.heap.size < _; omega); clear hb))
      exact bodyPost_ret (v := .tuple #[.agg #[.int .i64 0, .int .i64 0], .bool false]) (by simp [results, Try.results35, go_sem, hc0, hc1]) rfl ⟨by unfold dueV; rw [← HD.out, if_neg (by omega)], (HB.out.setCell (Nat.le_refl _) _).setCell (Nat.le_refl _) _⟩
    · have hg2 : a.at_ ≤ now := by omega
      have hg3 : decide (now < a.at_) = false := by rw [decide_eq_false_iff_not]; omega
      go_enter Try.func35, Try.ntmps35
      go_wp2_with (first
        | (go_at_call 31; refine Calls.mono (HL.out _ HA.out) ?_; rintro e w1 ⟨rfl, rfl⟩)
        | (have tok1 := HA; go_at_call 62; refine Calls.mono (HF2.out _ HA.out) ?_; rintro e w2 ⟨rfl, hb⟩; have HB := Lib.hid (HA.out.trans (hb.mono (by simp))); have hc0 := hb.cell (p := ⟨w.heap.size, 0, none⟩) (by simp); have hc1 := hb.cell (p := ⟨w.heap.size, 1, none⟩) (by simp); have hfz0 := hb.frozen (p := ⟨w.heap.size, 0, none⟩) (by simp); have hfz1 := hb.frozen (p := ⟨w.heap.size, 1, none⟩) (by simp); have hsz : w.heap.size + 1 ≤ w2.heap.size := (by have := hb.size; simp at this; omega); clear hb HA tok1)
        | (go_at_call 62; refine Calls.mono (HF2.out _ HB.out) ?_; rintro e w3 ⟨rfl, hb⟩; have HB3 := Lib.hid (HB.out.trans (hb.mono HB.out.size)); have hd0 := hb.cell (p := ⟨w.heap.size, 0, none⟩) (by show w.heap.size < _; omega); have hd1 := hb.cell (p := ⟨w.heap.size, 1, none⟩) (by show w.heap.size < _; omega); have he0 := hb.frozen (p := ⟨w.heap.size, 0, none⟩) (by show w.heap.size < _; omega); have he1 := hb.frozen (p := ⟨w.heap.size, 1, none⟩) (by show w.heap.size < _; omega); clear hb))
      exact bodyPost_ret (v := .tuple #[.agg #[.int .i64 a.at_, .int .i64 a.id], .bool true]) (by simp [results, Try.results35, go_sem, hc0, hc1, hd0, hd1]) rfl ⟨by unfold dueV; rw [← HD.out, if_pos ⟨hn, hg2⟩], (HB3.out.setCell (Nat.le_refl _) _).setCell (Nat.le_refl _) _⟩
theorem RW.tight (h : RW w F q f n turns) : ∃ F0 : Nat → Prop, RW w F0 q f n turns ∧ (∀ k, F0 k → F k) ∧ ∀ k, F0 k → k < w.heap.size := by
  obtain ⟨A, c, h, h1, h2, h3⟩ := h
  refine ⟨fun k => k = q ∨ (Value.slice A n c).ownBlock = some k, ⟨A, c, h, .inl rfl, fun k hk => .inr hk, h3⟩, fun k hk => ?_, fun k hk => ?_⟩
  · rcases hk with e | e
    · rw [e]; exact h1
    · exact h2 k e
  · rcases hk with e | e
    · rw [e]; exact heap_lt h.self
    · exact (h.own.choose_spec.1.lt k e).2
theorem RW.put2 (h : RW w F q f n turns) {b : Nat} (hb : ¬ F b) (x y : Value) : RW ((w.setCell ⟨b, 0, none⟩ x).setCell ⟨b, 1, none⟩ y) F q f n turns :=
  h.kept (p := fun k => k = b) (((Moved.refl (fun k => k = b) w).setCell (.inr rfl) _).setCell (.inr rfl) _) (fun k hk e => hb (e ▸ hk))
def RQPop (F : Nat → Prop) (q : Nat) (f : Nat → Tm) (n : Nat) (turns : Int) (now : Int) (w : World) (e : Ending) (w' : World) : Prop :=
  e = .returned (dueV f n now) ∧ ((0 < n ∧ (f 0).at_ ≤ now) → ∃ m g, n = m + 1 ∧ RW w' F q g m turns ∧ Heap m g ∧ Shuf (m + 1) f (snoc m g (f 0))) ∧ (¬ (0 < n ∧ (f 0).at_ ≤ now) → RW w' F q f n turns) ∧ Moved F w w'
theorem RQPop.wide {now : Int} {e : Ending} (h : RQPop F q f n turns now w e w') (hG : ∀ k, F k → G k) : RQPop G q f n turns now w e w' := by
  obtain ⟨h1, h2, h3, h4⟩ := h
  refine ⟨h1, fun hh => ?_, fun hh => (h3 hh).wide hG, h4.weaken (fun k _ => hG k)⟩
  obtain ⟨m, g, e, hq, r⟩ := h2 hh
  exact ⟨m, g, e, hq.wide hG, r⟩
set_option maxHeartbeats 2000000 in
set_option maxRecDepth 20000 in
theorem rPop_tight (h : RW w F q f n turns) (hF : ∀ k, F k → k < w.heap.size) (hH : Heap n f) (now : Int) : Calls Try.prog 34 #[.iface 87 (.pointer (some ⟨q, 0, none⟩)), .int .i64 now] w (RQPop F q f n turns now w) := by
  have HD := Lib.hid (fun V (hV : Below w.heap.size w V) => rDue_any (h.later hV) now)
  have H := Lib.hid h
  have HA := Lib.hid (below_alloc w (.cells #[.int .i64 0, .int .i64 0] 65))
  have HFl := Lib.hid hF
  by_cases hd : 0 < n ∧ (f 0).at_ ≤ now
  · obtain ⟨m, rfl⟩ : ∃ m, n = m + 1 := ⟨n - 1, by omega⟩
    have HPo := Lib.hid (fun V (hV : Below w.heap.size w V) => rHpop_any (h.later hV) hH)
    obtain ⟨a, ha⟩ : ∃ a, a = f 0 := ⟨_, rfl⟩
    have HV : Hid (dueV f (m + 1) now = .tuple #[.agg #[.int .i64 a.at_, .int .i64 a.id], .bool true]) := Lib.hid (by unfold dueV; rw [if_pos hd, ha])
    have HDu := Lib.hid hd
    clear h hH ha hd hF
    go_enter Try.func34, Try.ntmps34
    go_wp2_with (first
      | (go_at_call 35; refine Calls.mono (HD.out _ HA.out) ?_; rintro e w1 ⟨rfl, hb⟩; rw [HV.out]; have HB1 := Lib.hid (HA.out.trans (hb.mono (by simp))); have hsz : w.heap.size + 1 ≤ w1.heap.size := (by have := hb.size; simp at this; omega); have HK4 := Lib.hid (kept_new hb); clear hb)
      | (go_at_call 40; refine Calls.mono (HPo.out _ (HB1.out.alloc HB1.out.size _)) ?_; rintro e w2 ⟨rfl, g, hq2, hm2, hh2, hs2⟩; have HQ2 := Lib.hid hq2; have HM2 := Lib.hid ((Below.movedNew (HB1.out.alloc HB1.out.size _)).trans hm2 (fun _ _ h => h)); have HH2 := Lib.hid hh2; have HS2 := Lib.hid hs2; have k4 := hm2.heap (heap_old _ (by omega) HK4.out) (fun h => by have := HFl.out _ h; omega); have k6 := hm2.heap (heap_new w1 _) (fun h => by have := HFl.out _ h; omega); obtain ⟨u4, f4⟩ := cells_of_heap k4; obtain ⟨u6, f6⟩ := cells_of_heap k6; have c40 := u4 0; have c41 := u4 1; have c60 := u6 0; have c61 := u6 1; have f40 := f4 0; have f41 := f4 1; clear hq2 hm2 hh2 hs2 k4 k6 u4 u6 f4 f6))
    refine bodyPost_ret (v := .tuple #[.agg #[.int .i64 a.at_, .int .i64 a.id], .bool true]) (by simp [results, Try.results34, go_sem, c40, c41]) rfl ⟨by rw [HV.out], fun _ => ⟨m, g, rfl, HQ2.out.put2 (fun h => by have := HFl.out _ h; omega) _ _, HH2.out, HS2.out⟩, fun h => absurd HDu.out h, (HM2.out.setCell (.inl (Nat.le_refl _)) _).setCell (.inl (Nat.le_refl _)) _⟩
  · have HV : Hid (dueV f n now = .tuple #[.agg #[.int .i64 0, .int .i64 0], .bool false]) := Lib.hid (by unfold dueV; rw [if_neg hd])
    have HDu := Lib.hid hd
    clear h hH hd hF
    go_enter Try.func34, Try.ntmps34
    go_wp2_with (go_at_call 35; refine Calls.mono (HD.out _ HA.out) ?_; rintro e w1 ⟨rfl, hb⟩; rw [HV.out]; have HB1 := Lib.hid (HA.out.trans (hb.mono (by simp))); have hsz : w.heap.size + 1 ≤ w1.heap.size := (by have := hb.size; simp at this; omega); have k4 := heap_old (.cells #[.int .i64 0, .int .i64 0] 65) (by omega) (kept_new hb); obtain ⟨u4, f4⟩ := cells_of_heap k4; have c40 := u4 0; have c41 := u4 1; have f40 := f4 0; have f41 := f4 1; clear hb k4 u4 f4)
    exact bodyPost_ret (v := .tuple #[.agg #[.int .i64 0, .int .i64 0], .bool false]) (by simp [results, Try.results34, go_sem, c40, c41]) rfl ⟨by rw [HV.out], fun h => absurd h HDu.out, fun _ => (H.out.later (HB1.out.alloc HB1.out.size _)).put2 (fun h => by have := HFl.out _ h; omega) _ _, ((Below.movedNew (HB1.out.alloc HB1.out.size _)).setCell (.inl (Nat.le_refl _)) _).setCell (.inl (Nat.le_refl _)) _⟩
theorem rPop_any (h : RW w F q f n turns) (hH : Heap n f) (now : Int) : Calls Try.prog 34 #[.iface 87 (.pointer (some ⟨q, 0, none⟩)), .int .i64 now] w (RQPop F q f n turns now w) := by
  obtain ⟨F0, h0, hG, hF⟩ := h.tight
  exact (rPop_tight h0 hF hH now).mono fun e w' hp => hp.wide hG
end
end Go.Proofs.Ytkdfkhebjhnbmaa
