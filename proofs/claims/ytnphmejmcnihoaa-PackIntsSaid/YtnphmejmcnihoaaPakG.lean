/- Walks of package pack: what a reader reads. -/
import Derived.Test.YtnphmejmcnihoaaPakF
set_option linter.unusedSimpArgs false
set_option linter.unusedVariables false
namespace Go.Proofs.Ytnphmejmcnihoaa
open Go.ChangeShapes Go.WideShapes Go.ChangeAt Go.RowKit Go.Base Go.Pk

/-- The reader goes on behind k bytes. -/
theorem rdr_on {w : World} {R : Nat} {b o cap : Nat} {bs : List UInt8} {k : Nat} {A : Option Addr}
    (hb : w.heap[R]? = some (.cells #[.slice (some ⟨b, o, none⟩) bs.length cap, .bool false] 71 (0, 0))) (hy : Byt w (some ⟨b, o, none⟩) bs) (hn : b ≠ R) (hl : bs.length ≤ cap) (hm : cap ≤ maxLen) (hk : k ≤ bs.length) (n : Nat) (hn' : n = bs.length - k)
    (hA : (cap = k ∧ A = some ⟨b, o, none⟩) ∨ A = some ⟨b, o + k, none⟩) : RdrPost w R (some b) (bs.drop k) false (w.setCell ⟨R, 0, none⟩ (.slice A n (cap - k))) := by
  have hmv : Moved (fun k => k = R) w (w.setCell ⟨R, 0, none⟩ (.slice A n (cap - k))) := (Moved.refl (fun k => k = R) w).setCell (.inr rfl) _
  have hset := heap_set hb 0 (.slice A n (cap - k))
  have hld : (bs.drop k).length = n := by rw [List.length_drop, hn']
  refine ⟨⟨A, cap - k, by rw [hld]; simpa using hset, ?_, ?_, ?_, by omega, by omega⟩, hmv⟩
  · rcases hA with ⟨hc, rfl⟩ | rfl
    · have : bs.drop k = [] := List.drop_eq_nil_of_le (by omega)
      rw [this]; exact Byt.nil _ _
    · exact (hy.drop k).moved (n := 0) (c := 0) hmv (fun j hj e => by simp [Value.ownBlock] at hj; omega)
  · rcases hA with ⟨_, rfl⟩ | rfl <;> rfl
  · intro j hj; injection hj with hj; omega

set_option maxHeartbeats 1000000 in
theorem next_num_bad (R : Nat) (row : Option Nat) (bs : List UInt8) (w : World) (h : Rdr w R row bs true) :
    Calls Try.prog 39 #[.pointer (some ⟨R, 0, none⟩), .func (.func 40) #[] #[]] w fun e w' => e = .returned (.int .u64 0) ∧ w = w' := by
  have HP := Lib.hid h
  clear h
  go_enter Try.func39, Try.ntmps39
  go_wp2_with (go_at_call 29; refine (failed_any R row bs true _ HP.out).mono ?_; rintro e w' ⟨rfl, rfl⟩)
  go_ret
  exact ⟨rfl, rfl⟩
set_option maxHeartbeats 1000000 in
theorem next_num_none (R : Nat) (row : Option Nat) (bs : List UInt8) (w : World) (h : Rdr w R row bs false) (hf : rdNum bs = none) :
    Calls Try.prog 39 #[.pointer (some ⟨R, 0, none⟩), .func (.func 40) #[] #[]] w fun e w' => e = .returned (.int .u64 0) ∧ RdrPost w R row bs true w' := by
  have HP := Lib.hid h
  obtain ⟨A0, cap, hb, hy, hr, h0⟩ := h
  have HC : Hid (Calls Try.prog 40 #[.slice A0 bs.length cap] w fun e w' => e = .returned (.tuple #[(.int .u64 0), .int .i64 0]) ∧ w = w') := Lib.hid (by have := firstNumber_any A0 bs cap w hy (Nat.le_trans h0.2.1 h0.2.2); rw [hf] at this; exact this)
  obtain ⟨hc, hf'⟩ := cells_of_heap hb
  have c0 := hc 0
  clear hc hf' hb hr h0 hy hf
  go_enter Try.func39, Try.ntmps39
  go_wp2_with (first | (go_at_call 29; refine (failed_any R row bs false _ HP.out).mono ?_; rintro e w' ⟨rfl, rfl⟩) | (go_at_call 40; with_reducible refine HC.out.mono ?_; rintro e w' ⟨rfl, rfl⟩) | (go_at_call 46; refine (rfail_any R row bs false _ HP.out).mono ?_; rintro e w' ⟨rfl, hp⟩; have HQ := Lib.hid hp; clear hp))
  go_ret
  exact ⟨rfl, HQ.out⟩
set_option maxHeartbeats 1000000 in
theorem next_num_some (R : Nat) (row : Option Nat) (bs : List UInt8) (w : World) (h : Rdr w R row bs false) (v : Nat) (k : Nat) (hf : rdNum bs = some (v, k)) (hk0 : 0 < k) (hk : k ≤ bs.length) :
    Calls Try.prog 39 #[.pointer (some ⟨R, 0, none⟩), .func (.func 40) #[] #[]] w fun e w' => e = .returned (.int .u64 (v : Int)) ∧ RdrPost w R row (bs.drop k) false w' := by
  have HP := Lib.hid h
  obtain ⟨A0, cap, hb, hy, hr, h0⟩ := h
  have HC : Hid (Calls Try.prog 40 #[.slice A0 bs.length cap] w fun e w' => e = .returned (.tuple #[(.int .u64 (v : Int)), .int .i64 (k : Int)]) ∧ w = w') := Lib.hid (by have := firstNumber_any A0 bs cap w hy (Nat.le_trans h0.2.1 h0.2.2); rw [hf] at this; exact this)
  obtain ⟨b, o, rfl, hcx⟩ := hy 0 (by omega)
  have HB := Lib.hid hb
  have HY := Lib.hid hy
  obtain ⟨hn, hl, hm⟩ := h0
  obtain rfl : row = some b := hr.symm
  have HN := Lib.hid (hn b rfl)
  obtain ⟨hc, hf'⟩ := cells_of_heap hb
  have c0 := hc 0
  have f0 := hf' 0
  have hk0' : ((k : Int) == 0) = false := by rw [beq_eq_false_iff_ne]; omega
  have hk1 : (0 : Int) ≤ (k : Int) := by omega
  have hk2 : (k : Int) ≤ (bs.length : Int) := by omega
  have HM := Lib.hid hm
  clear hcx hc hf' hb hr hy hf hn hm
  by_cases hcj : cap = k
  · subst hcj
    have HL : Hid (bs.length = cap) := Lib.hid (by omega)
    go_enter Try.func39, Try.ntmps39
    go_wp2_with (first | (go_at_call 29; refine (failed_any R _ bs false _ HP.out).mono ?_; rintro e w' ⟨rfl, rfl⟩) | (go_at_call 40; with_reducible refine HC.out.mono ?_; rintro e w' ⟨rfl, rfl⟩))
    go_ret
    have := rdr_on HB.out HY.out HN.out hl HM.out hk 0 (by have := HL.out; omega) (.inl ⟨rfl, rfl⟩)
    rw [Nat.sub_self] at this
    exact ⟨rfl, this⟩
  · go_enter Try.func39, Try.ntmps39
    go_wp2_with (first | (go_at_call 29; refine (failed_any R _ bs false _ HP.out).mono ?_; rintro e w' ⟨rfl, rfl⟩) | (go_at_call 40; with_reducible refine HC.out.mono ?_; rintro e w' ⟨rfl, rfl⟩))
    go_ret
    exact ⟨rfl, rdr_on HB.out HY.out HN.out hl HM.out hk (bs.length - k) rfl (.inr rfl)⟩
theorem next_num (R : Nat) (row : Option Nat) (bs : List UInt8) (bad : Bool) (w : World) (h : Rdr w R row bs bad) :
    Calls Try.prog 39 #[.pointer (some ⟨R, 0, none⟩), .func (.func 40) #[] #[]] w fun e w' => e = .returned (.int .u64 ((stepR 0 rdNum bs bad).1 : Nat)) ∧ RdrPost w R row (stepR 0 rdNum bs bad).2.1 (stepR 0 rdNum bs bad).2.2 w' := by
  cases bad
  · cases hf : rdNum bs with
    | none =>
      have e : stepR 0 rdNum bs false = (0, bs, true) := by unfold stepR; rw [hf]; rfl
      rw [e]; exact next_num_none R row bs w h hf
    | some p =>
      have e : stepR 0 rdNum bs false = (p.1, bs.drop p.2, false) := by unfold stepR; rw [hf]; rfl
      obtain ⟨h1, h2⟩ := (show 0 < p.2 ∧ p.2 ≤ bs.length from (by have := rdNum_some (v := p.1) (k := p.2) hf; exact ⟨this.2.1, this.2.2.2.1⟩))
      rw [e]; exact next_num_some R row bs w h p.1 p.2 hf h1 h2
  · have e : stepR 0 rdNum bs true = (0, bs, true) := rfl
    rw [e]
    exact (next_num_bad R row bs w h).mono fun e w' ⟨he, hw⟩ => by subst hw; exact ⟨he, h, Moved.refl _ _⟩
theorem rnum_any (R : Nat) (row : Option Nat) (bs : List UInt8) (bad : Bool) (w : World) (h : Rdr w R row bs bad) :
    Calls Try.prog 24 #[.pointer (some ⟨R, 0, none⟩)] w fun e w' => e = .returned (.int .u64 ((stepR 0 rdNum bs bad).1 : Nat)) ∧ RdrPost w R row (stepR 0 rdNum bs bad).2.1 (stepR 0 rdNum bs bad).2.2 w' := by
  have HC := Lib.hid (next_num R row bs bad w h)
  clear h
  go_enter Try.func24, Try.ntmps24
  go_wp2_with (go_at_call 39; with_reducible refine HC.out.mono ?_; rintro e w' ⟨rfl, hp⟩; have HQ := Lib.hid hp; clear hp)
  go_ret
  exact ⟨rfl, HQ.out⟩

set_option maxHeartbeats 1000000 in
theorem next_flag_bad (R : Nat) (row : Option Nat) (bs : List UInt8) (w : World) (h : Rdr w R row bs true) :
    Calls Try.prog 41 #[.pointer (some ⟨R, 0, none⟩), .func (.func 42) #[] #[]] w fun e w' => e = .returned (.bool false) ∧ w = w' := by
  have HP := Lib.hid h
  clear h
  go_enter Try.func41, Try.ntmps41
  go_wp2_with (go_at_call 29; refine (failed_any R row bs true _ HP.out).mono ?_; rintro e w' ⟨rfl, rfl⟩)
  go_ret
  exact ⟨rfl, rfl⟩
set_option maxHeartbeats 1000000 in
theorem next_flag_none (R : Nat) (row : Option Nat) (bs : List UInt8) (w : World) (h : Rdr w R row bs false) (hf : rdFlag bs = none) :
    Calls Try.prog 41 #[.pointer (some ⟨R, 0, none⟩), .func (.func 42) #[] #[]] w fun e w' => e = .returned (.bool false) ∧ RdrPost w R row bs true w' := by
  have HP := Lib.hid h
  obtain ⟨A0, cap, hb, hy, hr, h0⟩ := h
  have HC : Hid (Calls Try.prog 42 #[.slice A0 bs.length cap] w fun e w' => e = .returned (.tuple #[(.bool false), .int .i64 0]) ∧ w = w') := Lib.hid (by have := firstFlag_any A0 bs cap w hy; rw [hf] at this; exact this)
  obtain ⟨hc, hf'⟩ := cells_of_heap hb
  have c0 := hc 0
  clear hc hf' hb hr h0 hy hf
  go_enter Try.func41, Try.ntmps41
  go_wp2_with (first | (go_at_call 29; refine (failed_any R row bs false _ HP.out).mono ?_; rintro e w' ⟨rfl, rfl⟩) | (go_at_call 42; with_reducible refine HC.out.mono ?_; rintro e w' ⟨rfl, rfl⟩) | (go_at_call 46; refine (rfail_any R row bs false _ HP.out).mono ?_; rintro e w' ⟨rfl, hp⟩; have HQ := Lib.hid hp; clear hp))
  go_ret
  exact ⟨rfl, HQ.out⟩
set_option maxHeartbeats 1000000 in
theorem next_flag_some (R : Nat) (row : Option Nat) (bs : List UInt8) (w : World) (h : Rdr w R row bs false) (v : Bool) (k : Nat) (hf : rdFlag bs = some (v, k)) (hk0 : 0 < k) (hk : k ≤ bs.length) :
    Calls Try.prog 41 #[.pointer (some ⟨R, 0, none⟩), .func (.func 42) #[] #[]] w fun e w' => e = .returned (.bool v) ∧ RdrPost w R row (bs.drop k) false w' := by
  have HP := Lib.hid h
  obtain ⟨A0, cap, hb, hy, hr, h0⟩ := h
  have HC : Hid (Calls Try.prog 42 #[.slice A0 bs.length cap] w fun e w' => e = .returned (.tuple #[(.bool v), .int .i64 (k : Int)]) ∧ w = w') := Lib.hid (by have := firstFlag_any A0 bs cap w hy; rw [hf] at this; exact this)
  obtain ⟨b, o, rfl, hcx⟩ := hy 0 (by omega)
  have HB := Lib.hid hb
  have HY := Lib.hid hy
  obtain ⟨hn, hl, hm⟩ := h0
  obtain rfl : row = some b := hr.symm
  have HN := Lib.hid (hn b rfl)
  obtain ⟨hc, hf'⟩ := cells_of_heap hb
  have c0 := hc 0
  have f0 := hf' 0
  have hk0' : ((k : Int) == 0) = false := by rw [beq_eq_false_iff_ne]; omega
  have hk1 : (0 : Int) ≤ (k : Int) := by omega
  have hk2 : (k : Int) ≤ (bs.length : Int) := by omega
  have HM := Lib.hid hm
  clear hcx hc hf' hb hr hy hf hn hm
  by_cases hcj : cap = k
  · subst hcj
    have HL : Hid (bs.length = cap) := Lib.hid (by omega)
    go_enter Try.func41, Try.ntmps41
    go_wp2_with (first | (go_at_call 29; refine (failed_any R _ bs false _ HP.out).mono ?_; rintro e w' ⟨rfl, rfl⟩) | (go_at_call 42; with_reducible refine HC.out.mono ?_; rintro e w' ⟨rfl, rfl⟩))
    go_ret
    have := rdr_on HB.out HY.out HN.out hl HM.out hk 0 (by have := HL.out; omega) (.inl ⟨rfl, rfl⟩)
    rw [Nat.sub_self] at this
    exact ⟨rfl, this⟩
  · go_enter Try.func41, Try.ntmps41
    go_wp2_with (first | (go_at_call 29; refine (failed_any R _ bs false _ HP.out).mono ?_; rintro e w' ⟨rfl, rfl⟩) | (go_at_call 42; with_reducible refine HC.out.mono ?_; rintro e w' ⟨rfl, rfl⟩))
    go_ret
    exact ⟨rfl, rdr_on HB.out HY.out HN.out hl HM.out hk (bs.length - k) rfl (.inr rfl)⟩
theorem next_flag (R : Nat) (row : Option Nat) (bs : List UInt8) (bad : Bool) (w : World) (h : Rdr w R row bs bad) :
    Calls Try.prog 41 #[.pointer (some ⟨R, 0, none⟩), .func (.func 42) #[] #[]] w fun e w' => e = .returned (.bool (stepR false rdFlag bs bad).1) ∧ RdrPost w R row (stepR false rdFlag bs bad).2.1 (stepR false rdFlag bs bad).2.2 w' := by
  cases bad
  · cases hf : rdFlag bs with
    | none =>
      have e : stepR false rdFlag bs false = (false, bs, true) := by unfold stepR; rw [hf]; rfl
      rw [e]; exact next_flag_none R row bs w h hf
    | some p =>
      have e : stepR false rdFlag bs false = (p.1, bs.drop p.2, false) := by unfold stepR; rw [hf]; rfl
      obtain ⟨h1, h2⟩ := rdFlag_size (v := p.1) (k := p.2) hf
      rw [e]; exact next_flag_some R row bs w h p.1 p.2 hf h1 h2
  · have e : stepR false rdFlag bs true = (false, bs, true) := rfl
    rw [e]
    exact (next_flag_bad R row bs w h).mono fun e w' ⟨he, hw⟩ => by subst hw; exact ⟨he, h, Moved.refl _ _⟩
theorem rflag_any (R : Nat) (row : Option Nat) (bs : List UInt8) (bad : Bool) (w : World) (h : Rdr w R row bs bad) :
    Calls Try.prog 26 #[.pointer (some ⟨R, 0, none⟩)] w fun e w' => e = .returned (.bool (stepR false rdFlag bs bad).1) ∧ RdrPost w R row (stepR false rdFlag bs bad).2.1 (stepR false rdFlag bs bad).2.2 w' := by
  have HC := Lib.hid (next_flag R row bs bad w h)
  clear h
  go_enter Try.func26, Try.ntmps26
  go_wp2_with (go_at_call 41; with_reducible refine HC.out.mono ?_; rintro e w' ⟨rfl, hp⟩; have HQ := Lib.hid hp; clear hp)
  go_ret
  exact ⟨rfl, HQ.out⟩

set_option maxHeartbeats 1000000 in
theorem next_text_bad (R : Nat) (row : Option Nat) (bs : List UInt8) (w : World) (h : Rdr w R row bs true) :
    Calls Try.prog 43 #[.pointer (some ⟨R, 0, none⟩), .func (.func 44) #[] #[]] w fun e w' => e = .returned (.string ⟨#[]⟩) ∧ w = w' := by
  have HP := Lib.hid h
  clear h
  go_enter Try.func43, Try.ntmps43
  go_wp2_with (go_at_call 29; refine (failed_any R row bs true _ HP.out).mono ?_; rintro e w' ⟨rfl, rfl⟩)
  go_ret
  exact ⟨rfl, rfl⟩
set_option maxHeartbeats 1000000 in
theorem next_text_none (R : Nat) (row : Option Nat) (bs : List UInt8) (w : World) (h : Rdr w R row bs false) (hf : rdText bs = none) :
    Calls Try.prog 43 #[.pointer (some ⟨R, 0, none⟩), .func (.func 44) #[] #[]] w fun e w' => e = .returned (.string ⟨#[]⟩) ∧ RdrPost w R row bs true w' := by
  have HP := Lib.hid h
  obtain ⟨A0, cap, hb, hy, hr, h0⟩ := h
  have HC : Hid (Calls Try.prog 44 #[.slice A0 bs.length cap] w fun e w' => e = .returned (.tuple #[(.string ⟨#[]⟩), .int .i64 0]) ∧ w = w') := Lib.hid (by have := firstText_any A0 bs cap w hy (Nat.le_trans h0.2.1 h0.2.2) h0.2.1; rw [hf] at this; exact this)
  obtain ⟨hc, hf'⟩ := cells_of_heap hb
  have c0 := hc 0
  clear hc hf' hb hr h0 hy hf
  go_enter Try.func43, Try.ntmps43
  go_wp2_with (first | (go_at_call 29; refine (failed_any R row bs false _ HP.out).mono ?_; rintro e w' ⟨rfl, rfl⟩) | (go_at_call 44; with_reducible refine HC.out.mono ?_; rintro e w' ⟨rfl, rfl⟩) | (go_at_call 46; refine (rfail_any R row bs false _ HP.out).mono ?_; rintro e w' ⟨rfl, hp⟩; have HQ := Lib.hid hp; clear hp))
  go_ret
  exact ⟨rfl, HQ.out⟩
set_option maxHeartbeats 1000000 in
theorem next_text_some (R : Nat) (row : Option Nat) (bs : List UInt8) (w : World) (h : Rdr w R row bs false) (v : List UInt8) (k : Nat) (hf : rdText bs = some (v, k)) (hk0 : 0 < k) (hk : k ≤ bs.length) :
    Calls Try.prog 43 #[.pointer (some ⟨R, 0, none⟩), .func (.func 44) #[] #[]] w fun e w' => e = .returned (.string ⟨v.toArray⟩) ∧ RdrPost w R row (bs.drop k) false w' := by
  have HP := Lib.hid h
  obtain ⟨A0, cap, hb, hy, hr, h0⟩ := h
  have HC : Hid (Calls Try.prog 44 #[.slice A0 bs.length cap] w fun e w' => e = .returned (.tuple #[(.string ⟨v.toArray⟩), .int .i64 (k : Int)]) ∧ w = w') := Lib.hid (by have := firstText_any A0 bs cap w hy (Nat.le_trans h0.2.1 h0.2.2) h0.2.1; rw [hf] at this; exact this)
  obtain ⟨b, o, rfl, hcx⟩ := hy 0 (by omega)
  have HB := Lib.hid hb
  have HY := Lib.hid hy
  obtain ⟨hn, hl, hm⟩ := h0
  obtain rfl : row = some b := hr.symm
  have HN := Lib.hid (hn b rfl)
  obtain ⟨hc, hf'⟩ := cells_of_heap hb
  have c0 := hc 0
  have f0 := hf' 0
  have hk0' : ((k : Int) == 0) = false := by rw [beq_eq_false_iff_ne]; omega
  have hk1 : (0 : Int) ≤ (k : Int) := by omega
  have hk2 : (k : Int) ≤ (bs.length : Int) := by omega
  have HM := Lib.hid hm
  clear hcx hc hf' hb hr hy hf hn hm
  by_cases hcj : cap = k
  · subst hcj
    have HL : Hid (bs.length = cap) := Lib.hid (by omega)
    go_enter Try.func43, Try.ntmps43
    go_wp2_with (first | (go_at_call 29; refine (failed_any R _ bs false _ HP.out).mono ?_; rintro e w' ⟨rfl, rfl⟩) | (go_at_call 44; with_reducible refine HC.out.mono ?_; rintro e w' ⟨rfl, rfl⟩))
    go_ret
    have := rdr_on HB.out HY.out HN.out hl HM.out hk 0 (by have := HL.out; omega) (.inl ⟨rfl, rfl⟩)
    rw [Nat.sub_self] at this
    exact ⟨rfl, this⟩
  · go_enter Try.func43, Try.ntmps43
    go_wp2_with (first | (go_at_call 29; refine (failed_any R _ bs false _ HP.out).mono ?_; rintro e w' ⟨rfl, rfl⟩) | (go_at_call 44; with_reducible refine HC.out.mono ?_; rintro e w' ⟨rfl, rfl⟩))
    go_ret
    exact ⟨rfl, rdr_on HB.out HY.out HN.out hl HM.out hk (bs.length - k) rfl (.inr rfl)⟩
theorem next_text (R : Nat) (row : Option Nat) (bs : List UInt8) (bad : Bool) (w : World) (h : Rdr w R row bs bad) :
    Calls Try.prog 43 #[.pointer (some ⟨R, 0, none⟩), .func (.func 44) #[] #[]] w fun e w' => e = .returned (.string ⟨(stepR [] rdText bs bad).1.toArray⟩) ∧ RdrPost w R row (stepR [] rdText bs bad).2.1 (stepR [] rdText bs bad).2.2 w' := by
  cases bad
  · cases hf : rdText bs with
    | none =>
      have e : stepR [] rdText bs false = ([], bs, true) := by unfold stepR; rw [hf]; rfl
      rw [e]; exact next_text_none R row bs w h hf
    | some p =>
      have e : stepR [] rdText bs false = (p.1, bs.drop p.2, false) := by unfold stepR; rw [hf]; rfl
      obtain ⟨h1, h2⟩ := rdText_size (v := p.1) (k := p.2) hf
      rw [e]; exact next_text_some R row bs w h p.1 p.2 hf h1 h2
  · have e : stepR [] rdText bs true = ([], bs, true) := rfl
    rw [e]
    exact (next_text_bad R row bs w h).mono fun e w' ⟨he, hw⟩ => by subst hw; exact ⟨he, h, Moved.refl _ _⟩
theorem rtext_any (R : Nat) (row : Option Nat) (bs : List UInt8) (bad : Bool) (w : World) (h : Rdr w R row bs bad) :
    Calls Try.prog 27 #[.pointer (some ⟨R, 0, none⟩)] w fun e w' => e = .returned (.string ⟨(stepR [] rdText bs bad).1.toArray⟩) ∧ RdrPost w R row (stepR [] rdText bs bad).2.1 (stepR [] rdText bs bad).2.2 w' := by
  have HC := Lib.hid (next_text R row bs bad w h)
  clear h
  go_enter Try.func27, Try.ntmps27
  go_wp2_with (go_at_call 43; with_reducible refine HC.out.mono ?_; rintro e w' ⟨rfl, hp⟩; have HQ := Lib.hid hp; clear hp)
  go_ret
  exact ⟨rfl, HQ.out⟩

theorem i64_xor_one (x : Nat) (h2 : x < 9223372036854775808) : bits BinOp.xor IntKind.i64 (x : Int) (-1) = -(x : Int) - 1 := by
  show IntKind.i64.wrap ((BitVec.ofInt 64 (x : Int) ^^^ BitVec.ofInt 64 (-1)).toNat : Int) = _
  have e : (BitVec.ofInt 64 (-1)).toNat = 18446744073709551615 := by decide
  rw [BitVec.toNat_xor, ofInt_u64 x (by omega), e, xor_all64 x (by omega), IntKind.wrap_i64]
  omega
theorem i64_xor_zero (x : Nat) (h2 : x < 9223372036854775808) : bits BinOp.xor IntKind.i64 (x : Int) 0 = (x : Int) := by
  show IntKind.i64.wrap ((BitVec.ofInt 64 (x : Int) ^^^ BitVec.ofInt 64 0).toNat : Int) = _
  have e : (BitVec.ofInt 64 0).toNat = 0 := by decide
  rw [BitVec.toNat_xor, ofInt_u64 x (by omega), e, Nat.xor_zero, IntKind.wrap_i64]
  omega
theorem and_one (v : Nat) (h : v < 18446744073709551616) : bits BinOp.and IntKind.u64 (v : Int) 1 = ((v % 2 : Nat) : Int) := by
  have h1 := u64_and_nat v 1 h (by omega)
  rw [nat_mask1] at h1
  exact h1
theorem zag (v : Nat) (h : v < 18446744073709551616) : bits BinOp.xor IntKind.i64 ((v : Int) / 2) (wrap64 (-wrap64 (bits BinOp.and IntKind.u64 (v : Int) 1))) = unwhole v := by
  rw [and_one v h, show (v : Int) / 2 = ((v / 2 : Nat) : Int) by omega]
  unfold unwhole
  rcases Nat.mod_two_eq_zero_or_one v with e | e
  · rw [e, if_pos rfl, show wrap64 (-wrap64 ((0 : Nat) : Int)) = 0 by unfold wrap64; omega]
    exact i64_xor_zero (v / 2) (by omega)
  · rw [e, if_neg (by omega), show wrap64 (-wrap64 ((1 : Nat) : Int)) = -1 by unfold wrap64; omega]
    exact i64_xor_one (v / 2) (by omega)
set_option maxHeartbeats 1000000 in
theorem rint_any (R : Nat) (row : Option Nat) (bs : List UInt8) (bad : Bool) (w : World) (h : Rdr w R row bs bad) :
    Calls Try.prog 25 #[.pointer (some ⟨R, 0, none⟩)] w fun e w' => e = .returned (.int .i64 (unwhole (stepR 0 rdNum bs bad).1)) ∧ RdrPost w R row (stepR 0 rdNum bs bad).2.1 (stepR 0 rdNum bs bad).2.2 w' := by
  have HC := Lib.hid (rnum_any R row bs bad w h)
  have hv : (stepR 0 rdNum bs bad).1 < 18446744073709551616 := by
    unfold stepR
    cases bad
    · cases hf : rdNum bs with
      | none => simp
      | some p => exact (rdNum_some (v := p.1) (k := p.2) hf).1
    · simp
  clear h
  generalize (stepR 0 rdNum bs bad).1 = v at *
  have hv0 : (0 : Int) ≤ (v : Int) := by omega
  have hv1 : (v : Int) < 18446744073709551616 := by omega
  go_enter Try.func25, Try.ntmps25
  go_wp2_with (go_at_call 24; with_reducible refine HC.out.mono ?_; rintro e w' ⟨rfl, hp⟩; have HQ := Lib.hid hp; clear hp)
  go_ret
  exact ⟨ret_int (zag v hv), HQ.out⟩

def ReadPost (w : World) (bs : List UInt8) (e : Ending) (w' : World) : Prop := ∃ R row, e = .returned (.pointer (some ⟨R, 0, none⟩)) ∧ Rdr w' R row bs false ∧ Below w.heap.size w w' ∧ w.heap.size ≤ R ∧ (∀ k, row = some k → w.heap.size ≤ k)
set_option maxHeartbeats 1000000 in
theorem read_any (A : Option Addr) (bs : List UInt8) (c : Nat) (w : World) (hy : Byt w A bs) (hm : bs.length ≤ 140737488355328) :
    Calls Try.prog 23 #[.slice A bs.length c] w (ReadPost w bs) := by
  have HC := Lib.hid (clone_any A bs c w hy hm)
  clear hy
  go_enter Try.func23, Try.ntmps23
  go_wp2_with (go_at_call 38; (with_reducible refine HC.out.mono ?_); rintro e w1 ⟨A1, c2, rfl, hy1, hb1, hl1, hc1⟩; have HC1 := Lib.hid hc1; clear hc1; have HY1 := Lib.hid hy1; have HB1 := Lib.hid hb1; have HL1 := Lib.hid hl1; clear hy1 hb1 hl1)
  go_ret
  refine ⟨w1.heap.size, _, rfl, ⟨A1, c2, heap_new w1 _, HY1.out.alloc _, rfl, fun k hk e => ?_, HC1.out⟩, HB1.out.alloc HB1.out.size _, HB1.out.size, fun k hk => (HL1.out k hk).1⟩
  have := HL1.out k hk; omega
end Go.Proofs.Ytnphmejmcnihoaa
