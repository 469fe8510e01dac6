/- Walks of laws of package pack: ints, numbers. -/
import Derived.Test.YtnphmejmcnihoaaPakL
import Derived.Deep.RegionHeld3
set_option linter.unusedSimpArgs false
set_option linter.unusedVariables false
namespace Go.Proofs.Ytnphmejmcnihoaa
open Go.ChangeShapes Go.WideShapes Go.ChangeAt Go.RowKit Go.Base Go.Pk

theorem step_whole (n : Nat) (h : n < 18446744073709551616) : stepR 0 rdNum (numB n) false = (n, [], false) := by
  have e := rdNum_numB n [] h
  rw [List.append_nil] at e
  unfold stepR
  rw [e]
  simp

set_option maxHeartbeats 2000000 in
theorem law_ints (n : Int) (w : World) (h1 : -9223372036854775808 ≤ n) (h2 : n ≤ 9223372036854775807) :
    Calls Try.prog 7 #[.int .i64 n] w fun e w' => e = .returned (.bool true) ∧ Below w.heap.size w w' := by
  have hw := whole_lt h1 h2
  have HT : Hid (putB (some []) (numB (whole n)) = some (numB (whole n))) := Lib.hid (by have := numB_ten hw; rw [putB_fit (by simp only [List.length_nil]; omega)]; simp)
  have HS := Lib.hid (step_whole (whole n) hw)
  have HU := Lib.hid (unwhole_whole n)
  have h10 := numB_ten hw
  have hone : (numB (whole n)).length = 1 ↔ -64 ≤ n ∧ n ≤ 63 := numB_one.trans (whole_small n)
  have HP1 : Hid (∀ (B : Nat) (row : Option Nat) (w' : World), Pak w' B (some []) row → Calls Try.prog 14 #[.pointer (some ⟨B, 0, none⟩), .int .i64 n] w' fun e w2 => e = .returned (.tuple #[]) ∧ PakPost w' B row (some (numB (whole n))) w2) := Lib.hid (fun B row w' h => by have := int_any B (some []) row n w' h h1 h2; rw [HT.out] at this; exact this)
  have HR1 : Hid (∀ (R : Nat) (row : Option Nat) (w' : World), Rdr w' R row (numB (whole n)) false → Calls Try.prog 25 #[.pointer (some ⟨R, 0, none⟩)] w' fun e w2 => e = .returned (.int .i64 n) ∧ RdrPost w' R row [] false w2) := Lib.hid (fun R row w' h => by have := rint_any R row _ _ w' h; rw [HS.out, HU.out] at this; exact this)
  clear HT HS HU hw
  generalize numB (whole n) = bs at *
  have h10' : (bs.length : Int) ≤ 10 := by omega
  by_cases hs : -64 ≤ n ∧ n ≤ 63
  · have e1 : (((bs.length : Int) == 1)) = true := by rw [beq_iff_eq]; have := hone.2 hs; omega
    obtain ⟨hs1, hs2⟩ := hs
    clear hone h1 h2
    go_enter Try.func7, Try.ntmps7
    go_wp2_with (first | (go_at_call 9; refine (new_any _).mono ?_; rintro e w1 ⟨rfl, rfl⟩; have HP := Lib.hid (PkL.new w)) | (go_at_call 10; refine (lives_any _).mono ?_; rintro e w2 ⟨rfl, hb⟩; have HP2 := Lib.hid (HP.out.later hb); clear hb) | (go_at_call 14; refine (PkL.call HP2.out (fun row h => HP1.out _ row _ h)).mono ?_; rintro e w3 ⟨rfl, hp⟩; have HP3 := Lib.hid hp; clear hp) | (go_at_call 22; refine (doneL_any HP3.out).mono ?_; rintro e w5 ⟨A5, n5, c5, rfl, hb5, hc5, rfl, hy5⟩; have HB5 := Lib.hid hb5; have HY5 : Hid (Byt w5 A5 bs) := Lib.hid hy5; clear hb5 hc5 hy5; simp only [Option.getD_some, Option.isNone_some, Bool.false_eq_true, if_false]) | (go_at_call 23; refine (readL_any _ bs _ _ _ rfl HY5.out (by omega)).mono ?_; rintro e w6 ⟨R, rfl, hr⟩; have HR6 := Lib.hid hr; clear hr) | (go_at_call 25; refine (RdL.call HR6.out (fun row h => HR1.out _ row _ h)).mono ?_; rintro e w7 ⟨rfl, hr⟩; have HR7 := Lib.hid hr; clear hr) | (go_at_call 28; refine (RdL.look HR7.out (E := .returned (.int .i64 0)) (fun row h => rdone_any R row _ _ _ h)).mono ?_; rintro e w10 ⟨rfl, rfl⟩))
    go_ret
    exact ⟨rfl, HB5.out.trans (HR7.out.below.mono HB5.out.size)⟩
  · have e1 : (((bs.length : Int) == 1)) = false := by rw [beq_eq_false_iff_ne]; intro e; exact hs (hone.1 (by omega))
    clear hone
    by_cases hs1 : -64 ≤ n
    · have hs2 : 63 < n := by omega
      clear hs h1
      go_enter Try.func7, Try.ntmps7
      go_wp2_with (first | (go_at_call 9; refine (new_any _).mono ?_; rintro e w1 ⟨rfl, rfl⟩; have HP := Lib.hid (PkL.new w)) | (go_at_call 10; refine (lives_any _).mono ?_; rintro e w2 ⟨rfl, hb⟩; have HP2 := Lib.hid (HP.out.later hb); clear hb) | (go_at_call 14; refine (PkL.call HP2.out (fun row h => HP1.out _ row _ h)).mono ?_; rintro e w3 ⟨rfl, hp⟩; have HP3 := Lib.hid hp; clear hp) | (go_at_call 22; refine (doneL_any HP3.out).mono ?_; rintro e w5 ⟨A5, n5, c5, rfl, hb5, hc5, rfl, hy5⟩; have HB5 := Lib.hid hb5; have HY5 : Hid (Byt w5 A5 bs) := Lib.hid hy5; clear hb5 hc5 hy5; simp only [Option.getD_some, Option.isNone_some, Bool.false_eq_true, if_false]) | (go_at_call 23; refine (readL_any _ bs _ _ _ rfl HY5.out (by omega)).mono ?_; rintro e w6 ⟨R, rfl, hr⟩; have HR6 := Lib.hid hr; clear hr) | (go_at_call 25; refine (RdL.call HR6.out (fun row h => HR1.out _ row _ h)).mono ?_; rintro e w7 ⟨rfl, hr⟩; have HR7 := Lib.hid hr; clear hr) | (go_at_call 28; refine (RdL.look HR7.out (E := .returned (.int .i64 0)) (fun row h => rdone_any R row _ _ _ h)).mono ?_; rintro e w10 ⟨rfl, rfl⟩))
      go_ret
      exact ⟨ret_bool (by simp; omega), HB5.out.trans (HR7.out.below.mono HB5.out.size)⟩
    · have hs2 : n < -64 := by omega
      clear hs h2
      go_enter Try.func7, Try.ntmps7
      go_wp2_with (first | (go_at_call 9; refine (new_any _).mono ?_; rintro e w1 ⟨rfl, rfl⟩; have HP := Lib.hid (PkL.new w)) | (go_at_call 10; refine (lives_any _).mono ?_; rintro e w2 ⟨rfl, hb⟩; have HP2 := Lib.hid (HP.out.later hb); clear hb) | (go_at_call 14; refine (PkL.call HP2.out (fun row h => HP1.out _ row _ h)).mono ?_; rintro e w3 ⟨rfl, hp⟩; have HP3 := Lib.hid hp; clear hp) | (go_at_call 22; refine (doneL_any HP3.out).mono ?_; rintro e w5 ⟨A5, n5, c5, rfl, hb5, hc5, rfl, hy5⟩; have HB5 := Lib.hid hb5; have HY5 : Hid (Byt w5 A5 bs) := Lib.hid hy5; clear hb5 hc5 hy5; simp only [Option.getD_some, Option.isNone_some, Bool.false_eq_true, if_false]) | (go_at_call 23; refine (readL_any _ bs _ _ _ rfl HY5.out (by omega)).mono ?_; rintro e w6 ⟨R, rfl, hr⟩; have HR6 := Lib.hid hr; clear hr) | (go_at_call 25; refine (RdL.call HR6.out (fun row h => HR1.out _ row _ h)).mono ?_; rintro e w7 ⟨rfl, hr⟩; have HR7 := Lib.hid hr; clear hr) | (go_at_call 28; refine (RdL.look HR7.out (E := .returned (.int .i64 0)) (fun row h => rdone_any R row _ _ _ h)).mono ?_; rintro e w10 ⟨rfl, rfl⟩))
      go_ret
      exact ⟨rfl, HB5.out.trans (HR7.out.below.mono HB5.out.size)⟩
theorem RdL.later {W w w' : World} {R : Nat} {bs : List UInt8} {bad : Bool} (h : RdL W R bs bad w) (hb : Below w.heap.size w w') : RdL W R bs bad w' := by
  obtain ⟨row, hp, hb0, hB, hr⟩ := h
  exact ⟨row, hp.later hb, hb0.trans (hb.mono hb0.size), hB, hr⟩
set_option maxHeartbeats 2000000 in
theorem law_numbers_none (A : Option Addr) (bs : List UInt8) (c : Nat) (w : World) (hy : Byt w A bs) (hm : bs.length ≤ 140737488351232) (hf : rdNum bs = none) :
    Calls Try.prog 5 #[.slice A bs.length c] w fun e w' => e = .returned (.bool true) ∧ Below w.heap.size w w' := by
  have HY := Lib.hid hy
  have HN : Hid (∀ (R : Nat) (row : Option Nat) (w' : World), Rdr w' R row bs false → Calls Try.prog 24 #[.pointer (some ⟨R, 0, none⟩)] w' fun e w2 => e = .returned (.int .u64 0) ∧ RdrPost w' R row bs true w2) := Lib.hid (fun R row w' h => by have := rnum_any R row _ _ w' h; unfold stepR at this; rw [hf] at this; exact this)
  clear hy hf
  go_enter Try.func5, Try.ntmps5
  go_wp2_with (first | (go_at_call 23; refine (readL_any _ bs _ _ _ rfl HY.out (by omega)).mono ?_; rintro e w1 ⟨R, rfl, hr⟩; have HR1 := Lib.hid hr; clear hr) | (go_at_call 10; refine (lives_any _).mono ?_; rintro e w2 ⟨rfl, hb⟩; have HR2 := Lib.hid (HR1.out.later hb); clear hb HR1) | (go_at_call 24; refine (RdL.call HR2.out (fun row h => HN.out _ row _ h)).mono ?_; rintro e w3 ⟨rfl, hr⟩; have HR3 := Lib.hid hr; clear hr) | (go_at_call 29; refine (RdL.look HR3.out (fun row h => failed_any R row _ _ _ h)).mono ?_; rintro e w10 ⟨rfl, rfl⟩) | (go_at_call 30; refine (RdL.look HR3.out (fun row h => left_any R row _ _ _ h)).mono ?_; rintro e w10 ⟨rfl, rfl⟩))
  go_ret
  exact ⟨rfl, HR3.out.below⟩
set_option maxHeartbeats 4000000 in
theorem law_numbers_some (A : Option Addr) (bs : List UInt8) (c : Nat) (w : World) (hy : Byt w A bs) (hm : bs.length ≤ 140737488351232) (hlc : bs.length ≤ c) (v k : Nat) (hf : rdNum bs = some (v, k)) :
    Calls Try.prog 5 #[.slice A bs.length c] w fun e w' => e = .returned (.bool true) ∧ Below w.heap.size w w' := by
  have HY := Lib.hid hy
  obtain ⟨hv, hk0, hk10, hkl, ht⟩ := rdNum_some hf
  have HN : Hid (∀ (R : Nat) (row : Option Nat) (w' : World), Rdr w' R row bs false → Calls Try.prog 24 #[.pointer (some ⟨R, 0, none⟩)] w' fun e w2 => e = .returned (.int .u64 (v : Int)) ∧ RdrPost w' R row (bs.drop k) false w2) := Lib.hid (fun R row w' h => by have := rnum_any R row _ _ w' h; unfold stepR at this; rw [hf] at this; exact this)
  have HQ : Hid (∀ (B : Nat) (row : Option Nat) (w' : World), Pak w' B (some []) row → Calls Try.prog 11 #[.pointer (some ⟨B, 0, none⟩), .int .u64 (v : Int)] w' fun e w2 => e = .returned (.tuple #[]) ∧ PakPost w' B row (some (bs.take k)) w2) := Lib.hid (fun B row w' h => by
    have := number_any B (some []) row v w' h hv
    rw [← ht, putB_fit (by simp; omega), List.nil_append] at this; exact this)
  have hk4 : k ≤ bs.length := hkl
  have hk1 : (1 : Int) ≤ (k : Int) := by omega
  have hk2 : (k : Int) ≤ 10 := by omega
  have hk3 : (bs.length : Int) - ((bs.length - k : Nat) : Int) = (k : Int) := by omega
  have hk5 : (0 : Int) ≤ (k : Int) := by omega
  have hk6 : (k : Int) ≤ (c : Int) := by omega
  have HL : Hid (k = (bs.take k).length) := Lib.hid (by rw [List.length_take]; omega)
  obtain ⟨b, o, rfl, hcx⟩ := hy 0 (by omega)
  clear hy hf ht hv hcx
  go_enter Try.func5, Try.ntmps5
  go_wp2_with (first | (go_at_call 23; refine (readL_any _ bs _ _ _ rfl HY.out (by omega)).mono ?_; rintro e w1 ⟨R, rfl, hr⟩; have HR1 := Lib.hid hr; clear hr) | (go_at_call 10; refine (lives_any _).mono ?_; rintro e w2 ⟨rfl, hb⟩; have HR2 := Lib.hid (HR1.out.later hb); clear hb HR1) | (go_at_call 24; refine (RdL.call HR2.out (fun row h => HN.out _ row _ h)).mono ?_; rintro e w3 ⟨rfl, hr⟩; have HR3 := Lib.hid hr; clear hr) | (go_at_call 29; refine (RdL.look HR3.out (fun row h => failed_any R row _ _ _ h)).mono ?_; rintro e w10 ⟨rfl, rfl⟩) | (go_at_call 9; refine (new_any _).mono ?_; rintro e w4 ⟨rfl, rfl⟩; have HP4 := Lib.hid (PkL.new w3)) | (go_at_call 11; refine (PkL.call HP4.out (fun row h => HQ.out _ row _ h)).mono ?_; rintro e w5 ⟨rfl, hp⟩; have HP5 := Lib.hid hp; clear hp) | (go_at_call 22; refine (doneL_any HP5.out).mono ?_; rintro e w6 ⟨A6, n6, c6, rfl, hb6, hc6, rfl, hy6⟩; have HB6 := Lib.hid hb6; have HY6 : Hid (Byt w6 A6 (bs.take k)) := Lib.hid hy6; have HR6 := Lib.hid (HR3.out.later hb6); clear hb6 hc6 hy6; simp only [Option.getD_some, Option.isNone_some, Bool.false_eq_true, if_false, List.length_take, Nat.min_eq_left hk4]) | (go_at_call 30; refine (RdL.look HR6.out (fun row h => left_any R row _ _ _ h)).mono ?_; rintro e w10 ⟨rfl, rfl⟩; simp only [List.length_drop]))
  have HZ : Hid (Byt w6 (some ⟨b, o, none⟩) (bs.take k)) := Lib.hid ((HY.out.later HR6.out.below).take k)
  go_region_held3 (fun w' => (convert 26 9 (.slice A6 k c6)).run Try.prog w' = .ok (.string ⟨(bs.take k).toArray⟩) w' ∧ (convert 26 9 (.slice (some ⟨b, o, none⟩) k c)).run Try.prog w' = .ok (.string ⟨(bs.take k).toArray⟩) w') (((try dsimp only); exact And.intro (run_convert_byt Try.underlying26 Try.underlying5 Try.underlying9 k c6 HL.out (show Byt _ _ _ from HY6.out)) (run_convert_byt Try.underlying26 Try.underlying5 Try.underlying9 k c HL.out (show Byt _ _ _ from HZ.out)))) (fail)
  all_goals
    go_wp2
    go_ret
    exact ⟨rfl, HR6.out.below.drew⟩
theorem law_numbers (A : Option Addr) (bs : List UInt8) (c : Nat) (w : World) (hy : Byt w A bs) (hm : bs.length ≤ 140737488351232) (hlc : bs.length ≤ c) :
    Calls Try.prog 5 #[.slice A bs.length c] w fun e w' => e = .returned (.bool true) ∧ Below w.heap.size w w' := by
  cases hf : rdNum bs with
  | none => exact law_numbers_none A bs c w hy hm hf
  | some p => exact law_numbers_some A bs c w hy hm hlc p.1 p.2 hf
end Go.Proofs.Ytnphmejmcnihoaa
