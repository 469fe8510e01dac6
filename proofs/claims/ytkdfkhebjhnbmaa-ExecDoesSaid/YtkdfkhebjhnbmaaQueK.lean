/- Package queue: the library's heap, going down. -/
import Derived.Test.YtkdfkhebjhnbmaaQueJ
set_option linter.unusedSimpArgs false
set_option linter.unusedVariables false
namespace Go.Proofs.Ytkdfkhebjhnbmaa
open Go.ChangeShapes Go.WideShapes Go.ChangeAt Go.RowKit Go.Base Go.Que

theorem lt_irr' (a : Tm) : ¬ lt a a := by unfold lt; omega
section
variable {w w' : World} {F G : Nat → Prop} {q c mb n N : Nat} {A : Option Addr} {D : DataW Unit} {f : Nat → Tm} {turns : Int}
def DownPost (F : Nat → Prop) (q : Nat) (f : Nat → Tm) (i0 n N : Nat) (turns : Int) (w : World) (e : Ending) (w' : World) : Prop :=
  ∃ g b, e = .returned (.bool b) ∧ Que w' F q g N turns ∧ Moved F w w' ∧ Shuf n f g ∧ (b = true → Heap n g) ∧ (b = false → g = f ∧ UpI n i0 f) ∧ ∀ k, n ≤ k → g k = f k
theorem down_end {g : Nat → Tm} {i0 i : Nat} (hQ : Que w' F q g N turns) (hM : Moved F w w') (hS : Shuf n f g) (hK : ∀ k, n ≤ k → g k = f k) (hD : DownI n i0 i f g) (hs : ∀ k, 0 < k → k < n → par k = i → ¬ lt (g k) (g i)) (b : Bool) (hb : b = decide (i0 < i)) : DownPost F q f i0 n N turns w (.returned (.bool b)) w' := by
  have h := down_stop hD hs
  refine ⟨g, b, rfl, hQ, hM, hS, fun e => h.1 (by rw [hb] at e; exact of_decide_eq_true e), fun e => ?_, hK⟩
  have e2 : i = i0 := by rw [hb] at e; have := of_decide_eq_false e; have := hD.1; omega
  exact h.2 e2
set_option maxHeartbeats 4000000 in
set_option maxRecDepth 20000 in
theorem down_any (h : Que w F q f N turns) {i0 : Nat} (hi : i0 ≤ 65536) (hn : n ≤ N) (hG : Gap n i0 f) : Calls Try.prog 39 #[.iface 80 (.pointer (some ⟨q, 0, none⟩)), .int .i64 (i0 : Int), .int .i64 (n : Int)] w (DownPost F q f i0 n N turns w) := by
  have hN := h.few
  have H := Lib.hid h
  have HD := Lib.hid (down_start hG)
  clear h hG
  go_enter Try.func39, Try.ntmps39
  go_wp2
  go_loopw [7] (fun iv wr => ∃ (i : Nat) (g : Nat → Tm), i ≤ 65536 ∧ iv = .int .i64 (i : Int) ∧ Hid (Que wr F q g N turns) ∧ Hid (Moved F w wr) ∧ Hid (Shuf n f g) ∧ Hid (DownI n i0 i f g) ∧ Hid (∀ k, n ≤ k → g k = f k)) (fun iv _ => 65537 - (intOf iv).toNat)
  case atStart => exact ⟨i0, f, hi, rfl, H, Lib.hid (Moved.refl _ _), Lib.hid (Shuf.refl _ _), HD, Lib.hid (fun _ _ => rfl)⟩
  case round =>
    clear H HD
    obtain ⟨i, g, hi2, rfl, HQ, HM, HS, HD, HK⟩ := hrel
    have hle := HD.out.1
    obtain ⟨j1, hj1⟩ : ∃ j1, j1 = 2 * i + 1 := ⟨_, rfl⟩
    obtain ⟨j2, hj2⟩ : ∃ j2, j2 = j1 + 1 := ⟨_, rfl⟩
    have hp1 : 2 * (i : Int) + 1 = (j1 : Int) := by omega
    have hp2 : (j1 : Int) + 1 = (j2 : Int) := by omega
    have hz : (0 : Int) ≤ (j1 : Int) := by omega
    have hzi : (0 : Int) ≤ (i : Int) := by omega
    have HJ := Lib.hid (And.intro hj1 hj2)
    have HC : Hid (∀ k, 0 < k → par k = i → k = j1 ∨ k = j2) := Lib.hid (fun k k0 kp => by have := par_eq k0 kp; omega)
    have HPa : Hid (par j1 = i ∧ par j2 = i ∧ i < j1) := Lib.hid ⟨by rw [hj1]; exact par_l i, by rw [hj2, hj1]; exact par_r i, by omega⟩
    have hj1b : j1 ≤ 131073 := by omega
    clear hj1 hj2
    by_cases h1 : j1 < n
    · have h1i : (j1 : Int) < (n : Int) := by omega
      have hi3 := HPa.out.2.2
      by_cases h2 : j2 < n
      · have h2i : (j2 : Int) < (n : Int) := by omega
        rcases hb1 : ltB (g j2) (g j1) with _ | _
        · have HL1 := Lib.hid (pless_any HQ.out (i := j2) (j := j1) (by omega) (by omega) false hb1)
          have HMin : Hid (∀ k, 0 < k → k < n → par k = i → ¬ lt (g k) (g j1)) := Lib.hid (fun k k0 kn kp => by rcases HC.out k k0 kp with rfl | rfl; exact lt_irr' _; exact of_decide_eq_false hb1)
          clear hb1
          rcases hb2 : ltB (g j1) (g i) with _ | _
          · have HLb := Lib.hid hb2
            clear hb2
            by_cases hlt : i0 < i
            · have hlt3 : (i0 : Int) < (i : Int) := by omega
              go_wp2_with (first | (go_at_call 58; refine Calls.mono (by with_reducible exact HL1.out) ?_; rintro en w1 ⟨rfl, hb1⟩; have HB1 := Lib.hid hb1; have HQ1 := Lib.hid (HQ.out.later hb1); have HM1 := Lib.hid (HM.out.trans (q := fun _ => False) (Below.movedNew hb1) (fun _ _ h => h.elim)); have HL2 := Lib.hid (pless_any HQ1.out (i := j1) (j := i) (by omega) (by omega) false HLb.out); clear HL1 hb1) | (go_at_call 58; refine Calls.mono (by with_reducible exact HL2.out) ?_; rintro en w2 ⟨rfl, hb2⟩; have HQ2 := Lib.hid (HQ1.out.later hb2); have HM2 := Lib.hid (HM1.out.trans (q := fun _ => False) (Below.movedNew hb2) (fun _ _ h => h.elim)); clear hb2))
              go_ret
              exact down_end HQ2.out HM2.out HS.out HK.out HD.out (fun k k0 kn kp => lt_trans' (of_decide_eq_false HLb.out) (HMin.out k k0 kn kp)) true (by rw [decide_eq_true hlt])
            · have hlt3 : ¬ (i0 : Int) < (i : Int) := by omega
              go_wp2_with (first | (go_at_call 58; refine Calls.mono (by with_reducible exact HL1.out) ?_; rintro en w1 ⟨rfl, hb1⟩; have HB1 := Lib.hid hb1; have HQ1 := Lib.hid (HQ.out.later hb1); have HM1 := Lib.hid (HM.out.trans (q := fun _ => False) (Below.movedNew hb1) (fun _ _ h => h.elim)); have HL2 := Lib.hid (pless_any HQ1.out (i := j1) (j := i) (by omega) (by omega) false HLb.out); clear HL1 hb1) | (go_at_call 58; refine Calls.mono (by with_reducible exact HL2.out) ?_; rintro en w2 ⟨rfl, hb2⟩; have HQ2 := Lib.hid (HQ1.out.later hb2); have HM2 := Lib.hid (HM1.out.trans (q := fun _ => False) (Below.movedNew hb2) (fun _ _ h => h.elim)); clear hb2))
              go_ret
              exact down_end HQ2.out HM2.out HS.out HK.out HD.out (fun k k0 kn kp => lt_trans' (of_decide_eq_false HLb.out) (HMin.out k k0 kn kp)) false (by rw [decide_eq_false hlt])
          · have HLb := Lib.hid hb2
            clear hb2
            go_wp2_with (first | (go_at_call 58; refine Calls.mono (by with_reducible exact HL1.out) ?_; rintro en w1 ⟨rfl, hb1⟩; have HB1 := Lib.hid hb1; have HQ1 := Lib.hid (HQ.out.later hb1); have HM1 := Lib.hid (HM.out.trans (q := fun _ => False) (Below.movedNew hb1) (fun _ _ h => h.elim)); have HL2 := Lib.hid (pless_any HQ1.out (i := j1) (j := i) (by omega) (by omega) true HLb.out); clear HL1 hb1) | (go_at_call 58; refine Calls.mono (by with_reducible exact HL2.out) ?_; rintro en w2 ⟨rfl, hb2⟩; have HQ2 := Lib.hid (HQ1.out.later hb2); have HM2 := Lib.hid (HM1.out.trans (q := fun _ => False) (Below.movedNew hb2) (fun _ _ h => h.elim)); have HSw := Lib.hid (pswap_any HQ2.out (i := i) (j := j1) (by omega) (by omega)); clear hb2) | (go_at_call 61; refine Calls.mono (by with_reducible exact HSw.out) ?_; rintro en w3 ⟨rfl, hq3, hm3⟩; have HQ3 := Lib.hid hq3; have HM3 := Lib.hid (HM2.out.trans hm3 (fun _ _ h => h)); clear hq3 hm3))
            go_roundw
            case rel => exact ⟨j1, swp g i j1, by omega, rfl, HQ3, HM3, Lib.hid (HS.out.trans (shuf_swp g (by have := HPa.out.2.2; omega) (by omega))), Lib.hid (down_step HD.out (by omega) HPa.out.1 (by omega) (of_decide_eq_true HLb.out) HMin.out), Lib.hid (fun k hk => by rw [swp_o g (by have := HPa.out.2.2; omega) (by omega)]; exact HK.out k hk)⟩
            case measure => have := HPa.out.2.2; simp [intOf]; omega
        · have HL1 := Lib.hid (pless_any HQ.out (i := j2) (j := j1) (by omega) (by omega) true hb1)
          have HMin : Hid (∀ k, 0 < k → k < n → par k = i → ¬ lt (g k) (g j2)) := Lib.hid (fun k k0 kn kp => by rcases HC.out k k0 kp with rfl | rfl; exact lt_asymm' (of_decide_eq_true hb1); exact lt_irr' _)
          clear hb1
          rcases hb2 : ltB (g j2) (g i) with _ | _
          · have HLb := Lib.hid hb2
            clear hb2
            by_cases hlt : i0 < i
            · have hlt3 : (i0 : Int) < (i : Int) := by omega
              go_wp2_with (first | (go_at_call 58; refine Calls.mono (by with_reducible exact HL1.out) ?_; rintro en w1 ⟨rfl, hb1⟩; have HB1 := Lib.hid hb1; have HQ1 := Lib.hid (HQ.out.later hb1); have HM1 := Lib.hid (HM.out.trans (q := fun _ => False) (Below.movedNew hb1) (fun _ _ h => h.elim)); have HL2 := Lib.hid (pless_any HQ1.out (i := j2) (j := i) (by omega) (by omega) false HLb.out); clear HL1 hb1) | (go_at_call 58; refine Calls.mono (by with_reducible exact HL2.out) ?_; rintro en w2 ⟨rfl, hb2⟩; have HQ2 := Lib.hid (HQ1.out.later hb2); have HM2 := Lib.hid (HM1.out.trans (q := fun _ => False) (Below.movedNew hb2) (fun _ _ h => h.elim)); clear hb2))
              go_ret
              exact down_end HQ2.out HM2.out HS.out HK.out HD.out (fun k k0 kn kp => lt_trans' (of_decide_eq_false HLb.out) (HMin.out k k0 kn kp)) true (by rw [decide_eq_true hlt])
            · have hlt3 : ¬ (i0 : Int) < (i : Int) := by omega
              go_wp2_with (first | (go_at_call 58; refine Calls.mono (by with_reducible exact HL1.out) ?_; rintro en w1 ⟨rfl, hb1⟩; have HB1 := Lib.hid hb1; have HQ1 := Lib.hid (HQ.out.later hb1); have HM1 := Lib.hid (HM.out.trans (q := fun _ => False) (Below.movedNew hb1) (fun _ _ h => h.elim)); have HL2 := Lib.hid (pless_any HQ1.out (i := j2) (j := i) (by omega) (by omega) false HLb.out); clear HL1 hb1) | (go_at_call 58; refine Calls.mono (by with_reducible exact HL2.out) ?_; rintro en w2 ⟨rfl, hb2⟩; have HQ2 := Lib.hid (HQ1.out.later hb2); have HM2 := Lib.hid (HM1.out.trans (q := fun _ => False) (Below.movedNew hb2) (fun _ _ h => h.elim)); clear hb2))
              go_ret
              exact down_end HQ2.out HM2.out HS.out HK.out HD.out (fun k k0 kn kp => lt_trans' (of_decide_eq_false HLb.out) (HMin.out k k0 kn kp)) false (by rw [decide_eq_false hlt])
          · have HLb := Lib.hid hb2
            clear hb2
            go_wp2_with (first | (go_at_call 58; refine Calls.mono (by with_reducible exact HL1.out) ?_; rintro en w1 ⟨rfl, hb1⟩; have HB1 := Lib.hid hb1; have HQ1 := Lib.hid (HQ.out.later hb1); have HM1 := Lib.hid (HM.out.trans (q := fun _ => False) (Below.movedNew hb1) (fun _ _ h => h.elim)); have HL2 := Lib.hid (pless_any HQ1.out (i := j2) (j := i) (by omega) (by omega) true HLb.out); clear HL1 hb1) | (go_at_call 58; refine Calls.mono (by with_reducible exact HL2.out) ?_; rintro en w2 ⟨rfl, hb2⟩; have HQ2 := Lib.hid (HQ1.out.later hb2); have HM2 := Lib.hid (HM1.out.trans (q := fun _ => False) (Below.movedNew hb2) (fun _ _ h => h.elim)); have HSw := Lib.hid (pswap_any HQ2.out (i := i) (j := j2) (by omega) (by omega)); clear hb2) | (go_at_call 61; refine Calls.mono (by with_reducible exact HSw.out) ?_; rintro en w3 ⟨rfl, hq3, hm3⟩; have HQ3 := Lib.hid hq3; have HM3 := Lib.hid (HM2.out.trans hm3 (fun _ _ h => h)); clear hq3 hm3))
            go_roundw
            case rel => exact ⟨j2, swp g i j2, by omega, rfl, HQ3, HM3, Lib.hid (HS.out.trans (shuf_swp g (by have := HPa.out.2.2; omega) (by omega))), Lib.hid (down_step HD.out (by omega) HPa.out.2.1 (by omega) (of_decide_eq_true HLb.out) HMin.out), Lib.hid (fun k hk => by rw [swp_o g (by have := HPa.out.2.2; omega) (by omega)]; exact HK.out k hk)⟩
            case measure => have := HPa.out.2.2; simp [intOf]; omega
      · have h2i : ¬ (j2 : Int) < (n : Int) := by omega
        have HMin : Hid (∀ k, 0 < k → k < n → par k = i → ¬ lt (g k) (g j1)) := Lib.hid (fun k k0 kn kp => by rcases HC.out k k0 kp with rfl | rfl; exact lt_irr' _; omega)
        rcases hb2 : ltB (g j1) (g i) with _ | _
        · have HLb := Lib.hid hb2
          clear hb2
          have HQ1 := HQ
          have HM1 := HM
          have HL2 := Lib.hid (pless_any HQ1.out (i := j1) (j := i) (by omega) (by omega) false HLb.out)
          by_cases hlt : i0 < i
          · have hlt3 : (i0 : Int) < (i : Int) := by omega
            go_wp2_with (first | (go_at_call 58; refine Calls.mono (by with_reducible exact HL2.out) ?_; rintro en w2 ⟨rfl, hb2⟩; have HQ2 := Lib.hid (HQ1.out.later hb2); have HM2 := Lib.hid (HM1.out.trans (q := fun _ => False) (Below.movedNew hb2) (fun _ _ h => h.elim)); clear hb2))
            go_ret
            exact down_end HQ2.out HM2.out HS.out HK.out HD.out (fun k k0 kn kp => lt_trans' (of_decide_eq_false HLb.out) (HMin.out k k0 kn kp)) true (by rw [decide_eq_true hlt])
          · have hlt3 : ¬ (i0 : Int) < (i : Int) := by omega
            go_wp2_with (first | (go_at_call 58; refine Calls.mono (by with_reducible exact HL2.out) ?_; rintro en w2 ⟨rfl, hb2⟩; have HQ2 := Lib.hid (HQ1.out.later hb2); have HM2 := Lib.hid (HM1.out.trans (q := fun _ => False) (Below.movedNew hb2) (fun _ _ h => h.elim)); clear hb2))
            go_ret
            exact down_end HQ2.out HM2.out HS.out HK.out HD.out (fun k k0 kn kp => lt_trans' (of_decide_eq_false HLb.out) (HMin.out k k0 kn kp)) false (by rw [decide_eq_false hlt])
        · have HLb := Lib.hid hb2
          clear hb2
          have HQ1 := HQ
          have HM1 := HM
          have HL2 := Lib.hid (pless_any HQ1.out (i := j1) (j := i) (by omega) (by omega) true HLb.out)
          go_wp2_with (first | (go_at_call 58; refine Calls.mono (by with_reducible exact HL2.out) ?_; rintro en w2 ⟨rfl, hb2⟩; have HQ2 := Lib.hid (HQ1.out.later hb2); have HM2 := Lib.hid (HM1.out.trans (q := fun _ => False) (Below.movedNew hb2) (fun _ _ h => h.elim)); have HSw := Lib.hid (pswap_any HQ2.out (i := i) (j := j1) (by omega) (by omega)); clear hb2) | (go_at_call 61; refine Calls.mono (by with_reducible exact HSw.out) ?_; rintro en w3 ⟨rfl, hq3, hm3⟩; have HQ3 := Lib.hid hq3; have HM3 := Lib.hid (HM2.out.trans hm3 (fun _ _ h => h)); clear hq3 hm3))
          go_roundw
          case rel => exact ⟨j1, swp g i j1, by omega, rfl, HQ3, HM3, Lib.hid (HS.out.trans (shuf_swp g (by have := HPa.out.2.2; omega) (by omega))), Lib.hid (down_step HD.out (by omega) HPa.out.1 (by omega) (of_decide_eq_true HLb.out) HMin.out), Lib.hid (fun k hk => by rw [swp_o g (by have := HPa.out.2.2; omega) (by omega)]; exact HK.out k hk)⟩
          case measure => have := HPa.out.2.2; simp [intOf]; omega
    · have h1i : ¬ (j1 : Int) < (n : Int) := by omega
      by_cases hlt : i0 < i
      · have hlt3 : (i0 : Int) < (i : Int) := by omega
        go_wp2
        go_ret
        exact down_end HQ.out HM.out HS.out HK.out HD.out (fun k k0 kn kp => by have := HC.out k k0 kp; have := HJ.out; omega) true (by rw [decide_eq_true hlt])
      · have hlt3 : ¬ (i0 : Int) < (i : Int) := by omega
        go_wp2
        go_ret
        exact down_end HQ.out HM.out HS.out HK.out HD.out (fun k k0 kn kp => by have := HC.out k k0 kp; have := HJ.out; omega) false (by rw [decide_eq_false hlt])
end
end Go.Proofs.Ytkdfkhebjhnbmaa
