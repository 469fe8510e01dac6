/- Walks of package pack: a list's count. -/
import Derived.Test.YtnphmejmcnihoaaPakG
set_option linter.unusedSimpArgs false
set_option linter.unusedVariables false
namespace Go.Proofs.Ytnphmejmcnihoaa
open Go.ChangeShapes Go.WideShapes Go.ChangeAt Go.RowKit Go.Base Go.Pk

set_option maxHeartbeats 1000000 in
theorem next_count_bad (R : Nat) (row : Option Nat) (bs : List UInt8) (w : World) (h : Rdr w R row bs true) :
    Calls Try.prog 39 #[.pointer (some ⟨R, 0, none⟩), .func (.func 47) #[] #[]] w fun e w' => e = .returned (.int .u64 0) ∧ w = w' := by
  have HP := Lib.hid h
  clear h
  go_enter Try.func39, Try.ntmps39
  go_wp2_with (go_at_call 29; refine (failed_any R row bs true _ HP.out).mono ?_; rintro e w' ⟨rfl, rfl⟩)
  go_ret
  exact ⟨rfl, rfl⟩
set_option maxHeartbeats 1000000 in
theorem next_count_none (R : Nat) (row : Option Nat) (bs : List UInt8) (w : World) (h : Rdr w R row bs false) (hf : (rdUpTo 4096) bs = none) :
    Calls Try.prog 39 #[.pointer (some ⟨R, 0, none⟩), .func (.func 47) #[] #[]] w fun e w' => e = .returned (.int .u64 0) ∧ RdrPost w R row bs true w' := by
  have HP := Lib.hid h
  obtain ⟨A0, cap, hb, hy, hr, h0⟩ := h
  have HC : Hid (Calls Try.prog 47 #[.slice A0 bs.length cap] w fun e w' => e = .returned (.tuple #[(.int .u64 0), .int .i64 0]) ∧ w = w') := Lib.hid (by have := firstCount_any A0 bs cap w hy (Nat.le_trans h0.2.1 h0.2.2); rw [hf] at this; exact this)
  obtain ⟨hc, hf'⟩ := cells_of_heap hb
  have c0 := hc 0
  clear hc hf' hb hr h0 hy hf
  go_enter Try.func39, Try.ntmps39
  go_wp2_with (first | (go_at_call 29; refine (failed_any R row bs false _ HP.out).mono ?_; rintro e w' ⟨rfl, rfl⟩) | (go_at_call 47; with_reducible refine HC.out.mono ?_; rintro e w' ⟨rfl, rfl⟩) | (go_at_call 46; refine (rfail_any R row bs false _ HP.out).mono ?_; rintro e w' ⟨rfl, hp⟩; have HQ := Lib.hid hp; clear hp))
  go_ret
  exact ⟨rfl, HQ.out⟩
set_option maxHeartbeats 1000000 in
theorem next_count_some (R : Nat) (row : Option Nat) (bs : List UInt8) (w : World) (h : Rdr w R row bs false) (v : Nat) (k : Nat) (hf : (rdUpTo 4096) bs = some (v, k)) (hk0 : 0 < k) (hk : k ≤ bs.length) :
    Calls Try.prog 39 #[.pointer (some ⟨R, 0, none⟩), .func (.func 47) #[] #[]] w fun e w' => e = .returned (.int .u64 (v : Int)) ∧ RdrPost w R row (bs.drop k) false w' := by
  have HP := Lib.hid h
  obtain ⟨A0, cap, hb, hy, hr, h0⟩ := h
  have HC : Hid (Calls Try.prog 47 #[.slice A0 bs.length cap] w fun e w' => e = .returned (.tuple #[(.int .u64 (v : Int)), .int .i64 (k : Int)]) ∧ w = w') := Lib.hid (by have := firstCount_any A0 bs cap w hy (Nat.le_trans h0.2.1 h0.2.2); rw [hf] at this; exact this)
  obtain ⟨b, o, rfl, hcx⟩ := hy 0 (by omega)
  have HB := Lib.hid hb
  have HY := Lib.hid hy
  obtain ⟨hn, hl, hm⟩ := h0
  obtain rfl : row = some b := hr.symm
  have HN := Lib.hid (hn b rfl)
  obtain ⟨hc, hf'⟩ := cells_of_heap hb
  have c0 := hc 0
  have f0 := hf' 0
  have hk0' : ((k : Int) == 0) = false := by rw [beq_eq_false_iff_ne]; omega
  have hk1 : (0 : Int) ≤ (k : Int) := by omega
  have hk2 : (k : Int) ≤ (bs.length : Int) := by omega
  have HM := Lib.hid hm
  clear hcx hc hf' hb hr hy hf hn hm
  by_cases hcj : cap = k
  · subst hcj
    have HL : Hid (bs.length = cap) := Lib.hid (by omega)
    go_enter Try.func39, Try.ntmps39
    go_wp2_with (first | (go_at_call 29; refine (failed_any R _ bs false _ HP.out).mono ?_; rintro e w' ⟨rfl, rfl⟩) | (go_at_call 47; with_reducible refine HC.out.mono ?_; rintro e w' ⟨rfl, rfl⟩))
    go_ret
    have := rdr_on HB.out HY.out HN.out hl HM.out hk 0 (by have := HL.out; omega) (.inl ⟨rfl, rfl⟩)
    rw [Nat.sub_self] at this
    exact ⟨rfl, this⟩
  · go_enter Try.func39, Try.ntmps39
    go_wp2_with (first | (go_at_call 29; refine (failed_any R _ bs false _ HP.out).mono ?_; rintro e w' ⟨rfl, rfl⟩) | (go_at_call 47; with_reducible refine HC.out.mono ?_; rintro e w' ⟨rfl, rfl⟩))
    go_ret
    exact ⟨rfl, rdr_on HB.out HY.out HN.out hl HM.out hk (bs.length - k) rfl (.inr rfl)⟩
theorem next_count (R : Nat) (row : Option Nat) (bs : List UInt8) (bad : Bool) (w : World) (h : Rdr w R row bs bad) :
    Calls Try.prog 39 #[.pointer (some ⟨R, 0, none⟩), .func (.func 47) #[] #[]] w fun e w' => e = .returned (.int .u64 ((stepR 0 (rdUpTo 4096) bs bad).1 : Nat)) ∧ RdrPost w R row (stepR 0 (rdUpTo 4096) bs bad).2.1 (stepR 0 (rdUpTo 4096) bs bad).2.2 w' := by
  cases bad
  · cases hf : (rdUpTo 4096) bs with
    | none =>
      have e : stepR 0 (rdUpTo 4096) bs false = (0, bs, true) := by unfold stepR; rw [hf]; rfl
      rw [e]; exact next_count_none R row bs w h hf
    | some p =>
      have e : stepR 0 (rdUpTo 4096) bs false = (p.1, bs.drop p.2, false) := by unfold stepR; rw [hf]; rfl
      obtain ⟨h1, h2⟩ := (show 0 < p.2 ∧ p.2 ≤ bs.length from (by have := rdNum_some (rdUpTo_some (v := p.1) (k := p.2) hf).1; exact ⟨this.2.1, this.2.2.2.1⟩))
      rw [e]; exact next_count_some R row bs w h p.1 p.2 hf h1 h2
  · have e : stepR 0 (rdUpTo 4096) bs true = (0, bs, true) := rfl
    rw [e]
    exact (next_count_bad R row bs w h).mono fun e w' ⟨he, hw⟩ => by subst hw; exact ⟨he, h, Moved.refl _ _⟩
end Go.Proofs.Ytnphmejmcnihoaa
