/- Walk of package label's reference: May. -/
import Derived.Test.YtpkjllliidpgoaaGreatDoorLabV
import Derived.Test.YtpkjllliidpgoaaGreatDoorLabC
set_option linter.unusedSimpArgs false
set_option linter.unusedVariables false
namespace Go.Proofs.YtpkjllliidpgoaaGreatDoor
open Go.ChangeShapes Go.WideShapes Go.ChangeAt Go.RowKit Go.Base Go.Lab

/-- Calls.quiet_of_same, where some draws lie behind already. -/
theorem quiet_plus {P : Program} {f : FuncId} {args : Array Value} {w : World} {n a : Nat} {v : Value} (h : Calls P f args (w.drewN (n + a)) fun e w' => e = .returned v ∧ w' = w.drewN (n + a)) :
    Calls P f args (w.drewN (n + a)) fun e w'' => e = .returned v ∧ ∃ m, w'' = w.drewN (n + m) := h.mono fun _ _ ⟨he, hm⟩ => ⟨he, a, hm⟩
theorem mayB_is {l : List Lb} (h : mayB l = true) : sortB l = .ok l := by
  unfold mayB at h
  cases hs : sortB l with
  | error q => rw [hs] at h; cases h
  | ok o => rw [hs] at h; rw [of_decide_eq_true h]
theorem may_one {l : List Lb} {x : Lb} (hx : x ∈ l) (h : mayOne x = false) : mayB l = false := by
  cases hm : mayB l
  · rfl
  · rw [(sortB_ok (mayB_is hm)).1 x hx] at h; cases h
theorem may_lt {l : List Lb} {i : Nat} (h : i + 1 < l.length) (hn : ltK l[i] l[i + 1] = false) : mayB l = false := by
  cases hm : mayB l
  · rfl
  · have := List.pairwise_iff_getElem.1 (sortB_ok (mayB_is hm)).2.1 i (i + 1) (by omega) h (by omega)
    rw [hn] at this; cases this
theorem may_end {l : List Lb} (h1 : ∀ x ∈ l, mayOne x = true) (h2 : ∀ i (h : i + 1 < l.length), ltK l[i] l[i + 1] = true) : mayB l = decide (l.length ≤ 16) := by
  have hr : Rises l := by
    have : ∀ i j (hi : i < l.length) (hj : j < l.length), i < j → ltK l[i] l[j] = true := by
      intro i j hi hj hij
      induction j with
      | zero => omega
      | succ j ih =>
        by_cases e : i = j
        · subst e; exact h2 i hj
        · exact ltK_trans (ih (by omega) (by omega)) (h2 j hj)
    exact List.pairwise_iff_getElem.2 (fun i j hi hj hij => this i j hi hj hij)
  have hi : insAll [] l = some l := sorted_is (List.Perm.refl l) (hr.imp (fun h => ltK_asymm h)) (fun i hi e => by
    have := h2 i hi
    unfold ltK at this; rw [e, bl_irrefl] at this; cases this)
  have hs : sortB l = if 16 < l.length then .error 3 else .ok l := by
    unfold sortB
    rw [List.all_eq_true.2 h1, if_neg (by decide), hi]
  unfold mayB
  rw [hs]
  by_cases h16 : 16 < l.length
  · rw [if_pos h16]; simp; omega
  · rw [if_neg h16]; simp; omega
set_option maxHeartbeats 2000000 in
theorem refMay_any (A : Option Addr) (l : List Lb) (c : Nat) (w : World) (hL : Labs w A l) (hm : l.length ≤ maxLen) :
    Calls Tryz.prog 15 #[.slice A l.length c] w fun e w' => e = .returned (.bool (mayB l)) ∧ Below w.heap.size w w' := by
  have HL := Lib.hid hL
  unfold maxLen at hm
  have hm' : (l.length : Int) ≤ 9223372036854775807 := by omega
  generalize hr : mayB l = r
  have HR := Lib.hid hr
  clear hL hm hr
  go_enter Tryz.func15, Tryz.ntmps15
  go_wp2
  go_loopw [3] (fun i wr => ∃ k n : Nat, k ≤ l.length ∧ i = .int .i64 (k : Int) ∧ wr = w.drewN n ∧ Hid (∀ x ∈ l.take k, mayOne x = true) ∧ Hid (∀ i (h : i + 1 < l.length), i + 1 < k → ltK l[i] l[i + 1] = true)) (fun i _ => l.length - (intOf i).toNat)
  case atStart => exact ⟨0, 0, Nat.zero_le _, rfl, rfl, Lib.hid (by simp), Lib.hid (fun i _ h => by omega)⟩
  case round =>
    obtain ⟨k, n, hk, rfl, rfl, HF, HT⟩ := hrel
    by_cases hlt : k < l.length
    · have hlt' : (k : Int) < (l.length : Int) := by omega
      have hk0 : (0 : Int) ≤ (k : Int) := by omega
      obtain ⟨b, o, rfl, c0, c1, hx1, hx2⟩ := HL.out k hlt
      have HW := Lib.hid (fun V => (refWord_l l[k].key hx1 V).mono (fun e w' h => (⟨h.1, h.2.symm⟩ : e = .returned (.bool (wordB l[k].key)) ∧ w' = V)))
      have HV := Lib.hid (fun V => (refVal_l l[k].val hx2 V).mono (fun e w' h => (⟨h.1, h.2.symm⟩ : e = .returned (.bool (valB l[k].val)) ∧ w' = V)))
      have HF2 := Lib.hid (take_mem (p := fun x => mayOne x = true) hlt HF.out)
      have HBad : Hid (mayOne l[k] = false → r = false) := Lib.hid (fun h => by rw [← HR.out]; exact may_one (List.getElem_mem _) h)
      have HO : Hid (mayOne l[k] = (wordB l[k].key && valB l[k].val)) := Lib.hid rfl
      clear hx1 hx2
      cases h1 : wordB l[k].key
      · rw [h1] at HW HO
        have HV2 : Hid (r = false) := Lib.hid (HBad.out (by rw [HO.out]; rfl))
        clear HO HBad HV HF2 h1
        generalize l[k] = x at *
        obtain ⟨xk, xv⟩ := x
        simp only at c0 c1 HW
        go_wp2_with fail
        go_quiet (exact quiet_plus (HW.out _))
        go_wp2
        go_ret
        exact ⟨ret_bool HV2.out.symm, below_drewN (below_drewN (Below.refl _ _) _) _⟩
      · rw [h1] at HW HO
        cases h2 : valB l[k].val
        · rw [h2] at HV HO
          have HV2 : Hid (r = false) := Lib.hid (HBad.out (by rw [HO.out]; rfl))
          clear HO HBad HF2 h1 h2
          generalize l[k] = x at *
          obtain ⟨xk, xv⟩ := x
          simp only at c0 c1 HW HV
          go_wp2_with fail
          go_quiet ((first | (exact quiet_plus (HW.out _)) | (exact quiet_plus (HV.out _))))
          go_wp2
          go_ret
          exact ⟨ret_bool HV2.out.symm, below_drewN (below_drewN (Below.refl _ _) _) _⟩
        · rw [h2] at HV HO
          have HF3 := Lib.hid (HF2.out (by rw [HO.out]; rfl))
          clear HBad HO HF2 h1 h2
          by_cases h0 : k = 0
          · have hkz : ¬ ((0 : Int) < (k : Int)) := by omega
            have hkn : decide (0 < k) = false := by simp; omega
            have HT3 : Hid (∀ i (h : i + 1 < l.length), i + 1 < k + 1 → ltK l[i] l[i + 1] = true) := Lib.hid (fun i h hi => by omega)
            clear h0
            generalize l[k] = x at *
            obtain ⟨xk, xv⟩ := x
            simp only at c0 c1 HW HV
            go_wp2_with fail
            go_quiet ((first | (exact quiet_plus (HW.out _)) | (exact quiet_plus (HV.out _))))
            go_wp2
            go_roundw
            case rel => exact ⟨k + 1, _, by omega, by go_num, rfl, HF3, HT3⟩
            case measure => simp [intOf]; omega
          · obtain ⟨j, rfl⟩ : ∃ j, k = j + 1 := ⟨k - 1, by omega⟩
            obtain ⟨b', o', e, d0, _, _, _⟩ := HL.out j (by omega)
            injection e with e; injection e with e1 e2 _; subst e1; subst e2
            have hkp : (0 : Int) < (j : Int) + 1 := by omega
            have hj0 : (0 : Int) ≤ (j : Int) := by omega
            have hjl : (j : Int) < (l.length : Int) := by omega
            have hj1 : (0 : Int) ≤ (j : Int) + 1 := by omega
            have hcast : ((j + 1 : Nat) : Int) = (j : Int) + 1 := by omega
            have hjj : (j : Int) + 1 - 1 = (j : Int) := by omega
            rw [hcast] at hlt'
            have HBad : Hid (ltK l[j] l[j + 1] = false → r = false) := Lib.hid (fun h => by rw [← HR.out]; exact may_lt hlt h)
            have HT3 : Hid (ltK l[j] l[j + 1] = true → ∀ i (h : i + 1 < l.length), i + 1 < j + 1 + 1 → ltK l[i] l[i + 1] = true) := Lib.hid (fun hj i h hi => by
              by_cases e : i = j
              · subst e; exact hj
              · exact HT.out i h (by omega))
            rw [hcast]
            unfold ltK at HBad HT3
            generalize l[j + 1] = x at *
            generalize l[j] = y at *
            obtain ⟨xk, xv⟩ := x
            obtain ⟨yk, yv⟩ := y
            simp only at c0 c1 d0 HBad HT3 HW HV
            cases h3 : Go.Op.bytesLess yk xk
            · have HV2 := Lib.hid (HBad.out h3)
              go_wp2_with fail
              go_quiet ((first | (exact quiet_plus (HW.out _)) | (exact quiet_plus (HV.out _))))
              go_wp2
              go_ret
              exact ⟨ret_bool HV2.out.symm, below_drewN (below_drewN (Below.refl _ _) _) _⟩
            · have HT4 := Lib.hid (HT3.out h3)
              go_wp2_with fail
              go_quiet ((first | (exact quiet_plus (HW.out _)) | (exact quiet_plus (HV.out _))))
              go_wp2
              go_roundw
              case rel => exact ⟨j + 1 + 1, _, by omega, by go_num, rfl, HF3, HT4⟩
              case measure => simp [intOf]; omega
    · obtain rfl : k = l.length := by omega
      have HE : Hid (r = decide ((l.length : Int) ≤ 16)) := Lib.hid (by
        rw [← HR.out, may_end (fun x hx => HF.out x (by rw [List.take_length]; exact hx)) (fun i h => HT.out i h h)]
        exact decide_eq_decide.2 (by omega))
      go_wp2
      go_ret
      exact ⟨ret_bool HE.out.symm, below_drewN (Below.refl _ _) _⟩
end Go.Proofs.YtpkjllliidpgoaaGreatDoor
