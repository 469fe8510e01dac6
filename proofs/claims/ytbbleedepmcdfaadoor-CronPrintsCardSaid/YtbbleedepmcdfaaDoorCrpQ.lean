/- Walk of the reference's own text of a number. -/
import Derived.Test.YtbbleedepmcdfaaDoorCrpN
import Derived.Test.YtbbleedepmcdfaaDoorCroU
set_option linter.unusedSimpArgs false
set_option linter.unusedVariables false
namespace Go.Proofs.YtbbleedepmcdfaaDoor
open Go.ChangeShapes Go.WideShapes Go.ChangeAt Go.RowKit Go.Base Go.Cro Go.Civ

theorem itoT_one (n : Nat) (h : n ≤ 9) : itoT n = ⟨#[UInt8.ofNat (48 + n)]⟩ := by
  have hd : ∀ n : Fin 10, Lib.decDigits n.val = [UInt8.ofNat (48 + n.val)] := by decide +kernel
  unfold itoT
  rw [hd ⟨n, by omega⟩]
set_option maxHeartbeats 4000000 in
theorem refText_one (n : Nat) (h : n ≤ 9) (w : World) :
    Calls Tryd.prog 52 #[.int .i64 n] w fun e w' => e = .returned (.string (itoT n)) ∧ Below w.heap.size w w' := by
  rw [itoT_one n h]
  rcases (by omega : n = 0 ∨ n = 1 ∨ n = 2 ∨ n = 3 ∨ n = 4 ∨ n = 5 ∨ n = 6 ∨ n = 7 ∨ n = 8 ∨ n = 9) with rfl | rfl | rfl | rfl | rfl | rfl | rfl | rfl | rfl | rfl
  all_goals
    clear h
    go_enter Tryd.func52, Tryd.ntmps52
    go_wp2
    go_ret
    exact ⟨rfl, by first | exact Below.refl _ _ | exact below_drewN (Below.refl _ _) _ | go_grown⟩
theorem itoT_two (n : Nat) (h1 : 10 ≤ n) (h2 : n ≤ 99) : itoT n = itoT (n / 10) ++ itoT (n % 10) := by
  have h : ∀ n : Fin 100, 10 ≤ n.val → Lib.decDigits n.val = Lib.decDigits (n.val / 10) ++ Lib.decDigits (n.val % 10) := by decide +kernel
  unfold itoT
  rw [bytes_append, h ⟨n, by omega⟩ h1]
set_option maxHeartbeats 4000000 in
theorem refText_two (n : Nat) (h1 : 10 ≤ n) (h2 : n ≤ 99) (w : World) :
    Calls Tryd.prog 52 #[.int .i64 n] w fun e w' => e = .returned (.string (itoT n)) ∧ Below w.heap.size w w' := by
  have HA : Hid (∀ w, Calls Tryd.prog 52 #[.int .i64 ((n : Int) / 10)] w fun e w' => e = .returned (.string (itoT (n / 10))) ∧ Below w.heap.size w w') := Lib.hid (fun w => by have := refText_one (n / 10) (by omega) w; rwa [show ((n / 10 : Nat) : Int) = (n : Int) / 10 by omega] at this)
  have HB : Hid (∀ w, Calls Tryd.prog 52 #[.int .i64 ((n : Int) % 10)] w fun e w' => e = .returned (.string (itoT (n % 10))) ∧ Below w.heap.size w w') := Lib.hid (fun w => by have := refText_one (n % 10) (by omega) w; rwa [show ((n % 10 : Nat) : Int) = (n : Int) % 10 by omega] at this)
  have hn : (9 : Int) < (n : Int) := by omega
  have HI := Lib.hid (itoT_two n h1 h2)
  have l1 : (itoT (n / 10)).size ≤ 2 := by have := dec_len (v := n / 10) (by omega); simpa [itoT, ByteArray.size] using this
  have l2 : (itoT (n % 10)).size ≤ 2 := by have := dec_len (v := n % 10) (by omega); simpa [itoT, ByteArray.size] using this
  generalize itoT (n / 10) = s1 at *
  generalize itoT (n % 10) = s2 at *
  have tok1 : True := trivial
  go_enter Tryd.func52, Tryd.ntmps52
  go_wp2_with (first | (go_at_call 52; have _t := tok1; refine (HA.out _).mono ?_; rintro e W1 ⟨rfl, hb⟩; have HB1 := Lib.hid hb; clear hb tok1 _t) | (go_at_call 52; refine (HB.out _).mono ?_; rintro e W2 ⟨rfl, hb⟩; have HB2 := Lib.hid hb; clear hb))
  go_ret
  exact ⟨by rw [HI.out]; rfl, HB1.out.trans (HB2.out.mono HB1.out.size)⟩
theorem refText_any (n : Nat) (h : n ≤ 99) (w : World) :
    Calls Tryd.prog 52 #[.int .i64 n] w fun e w' => e = .returned (.string (itoT n)) ∧ Below w.heap.size w w' := by
  by_cases h1 : n ≤ 9
  · exact refText_one n h1 w
  · exact refText_two n (by omega) h w
theorem vals_all (k : Nat) (hk : k < 5) : valsB (scB k) (scB k).least (scB k).most 1 = allB (scB k) := by
  rcases (by omega : k = 0 ∨ k = 1 ∨ k = 2 ∨ k = 3 ∨ k = 4) with rfl | rfl | rfl | rfl | rfl <;> decide +kernel
set_option maxHeartbeats 4000000 in
theorem refAll_any (k : Nat) (hk : k < 5) (w : World) :
    Calls Tryd.prog 33 #[.int .i64 k] w fun e w' => e = .returned (.int .u64 (allB (scB k))) ∧ Below w.heap.size w w' := by
  rw [← vals_all k hk]
  have hb := scB_bd k
  have hvs : valsB (scB k) (scB k).least (scB k).most 1 = valsFrom (scB k).least (scB k).most (scB k).most 1 100 (scB k).least 0 := rfl
  have HLo := Lib.hid (fun w => refLow_any k hk w)
  have HLa := Lib.hid (fun w => refLast_any k hk w)
  have hm : (scB k).most ≤ 59 := by rcases (by omega : k = 0 ∨ k = 1 ∨ k = 2 ∨ k = 3 ∨ k = 4) with rfl | rfl | rfl | rfl | rfl <;> simp [scB]
  rw [hvs]
  clear hvs
  generalize (scB k).least = least at *
  generalize (scB k).most = most at *
  generalize hV : valsFrom least most most 1 100 least 0 = V
  go_enter Tryd.func33, Tryd.ntmps33
  go_wp2_with (first | (go_at_call 53; refine (HLo.out _).mono ?_; rintro e W1 ⟨rfl, rfl⟩) | (go_at_call 54; refine (HLa.out _).mono ?_; rintro e W2 ⟨rfl, rfl⟩))
  go_loop [3, 4] (fun A n => ∃ (q v : Int) (f : Nat), A = .int .u64 q ∧ n = .int .i64 v ∧ 0 ≤ v ∧ v ≤ 60 ∧ most - v < f ∧ valsFrom least most most 1 f v q = V) (fun _ n => (300 - intOf n).toNat)
  case atStart => exact ⟨0, least, 100, rfl, rfl, by omega, by omega, by omega, hV⟩
  case round =>
    obtain ⟨q, v, f, rfl, rfl, hv1, hv2, hv3, hv⟩ := hrel
    have HV := Lib.hid hv
    clear hv hV
    by_cases hl : v ≤ most
    · obtain ⟨f, rfl⟩ : ∃ g, f = g + 1 := ⟨f - 1, by omega⟩
      have HV2 : Hid (valsFrom least most most 1 (f + 1) v q = valsFrom least most most 1 f (v + 1) (setB q v)) := Lib.hid (by simp only [valsFrom]; rw [if_pos hl, if_neg (by omega)])
      go_wp2_with ((go_at_call 54; refine (HLa.out _).mono ?_; rintro e W2 ⟨rfl, rfl⟩))
      go_round
      case rel => exact ⟨_, _, f, rfl, rfl, by omega, by omega, by omega, by rw [← HV.out, HV2.out]; rfl⟩
      case measure => first | (simp [intOf]; done) | (simp [intOf]; omega)
    · have hend : Hid (V = q) := Lib.hid (by rw [← HV.out]; cases f with
        | zero => rfl
        | succ f => simp only [valsFrom]; rw [if_neg (by omega)])
      go_wp2_with ((go_at_call 54; refine (HLa.out _).mono ?_; rintro e W2 ⟨rfl, rfl⟩))
      go_ret
      exact ⟨by rw [hend.out]; rfl, by first | exact Below.refl _ _ | exact below_drewN (Below.refl _ _) _ | go_grown⟩
end Go.Proofs.YtbbleedepmcdfaaDoor
