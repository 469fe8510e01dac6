/- Walk of the law PlanFinds. -/
import Derived.Test.YtnikhhbnbeljeaaGreatDoorPlnS
import Derived.Test.YtnikhhbnbeljeaaGreatDoorPlnOps
set_option linter.unusedSimpArgs false
set_option linter.unusedVariables false
namespace Go.Proofs.YtnikhhbnbeljeaaGreatDoor.PL
open Go.ChangeShapes Go.WideShapes Go.ChangeAt Go.RowKit Go.Base Go.Lab

theorem findV_form (l : List Rn) (h : Int) : ∃ (z : Int) (q : Bool), findV l h = .tuple #[.int .i64 z, .bool q] := by
  unfold findV
  cases findR l h with
  | none => exact ⟨0, false, rfl⟩
  | some k => exact ⟨k, true, rfl⟩
set_option maxHeartbeats 8000000 in
set_option maxRecDepth 20000 in
theorem law_finds (A : Option Addr) (l : List Rn) (c : Nat) (h : Int) (w : World) (hR : Rns w A l) (hm : l.length ≤ maxLen) (hT : Tb w) :
    Calls Tryz.prog 10 #[.slice A l.length c, .int .i64 h] w fun e w' => e = .returned (.bool true) ∧ Below w.heap.size w w' := by
  have HR := Lib.hid hR
  have HT := Lib.hid hT
  have hm' : (l.length : Int) ≤ 9223372036854775807 := by unfold maxLen at hm; omega
  have HL := Lib.hid (fun V hV => lives_any V hV)
  obtain ⟨z, q, hzq⟩ := findV_form l h
  have HF := Lib.hid (fun V (hV : Rns V A l) => (show Calls Tryz.prog 40 #[.slice A l.length c, .int .i64 h] V fun e w' => e = .returned (.tuple #[.int .i64 z, .bool q]) ∧ Below V.heap.size V w' from by rw [← hzq]; exact find_any A l c h V hV hm))
  have HRF := Lib.hid (fun V (hV : Rns V A l) => (show Calls Tryz.prog 41 #[.slice A l.length c, .int .i64 h] V fun e w' => e = .returned (.tuple #[.int .i64 z, .bool q]) ∧ V = w' from by rw [← hzq]; exact refFind_any A l c h V hV hm))
  have HW := Lib.hid (fun V (hV : Rns V A l) (hw : WvOk l) => waves_any A l c V hV hm hw)
  have HRW := Lib.hid (fun V (hV : Rns V A l) (hw : WvOk l) => refWaves_any A l c V hV hm hw)
  generalize wavesR l = wz at *
  clear hR hT hm hzq
  go_enter Tryz.func10, Tryz.ntmps10
  go_wp2
  go_loop [5] (fun i => ∃ k : Nat, k ≤ l.length ∧ i = .int .i64 (k : Int) ∧ Hid (∀ j (hj : j < l.length), j < k → 0 ≤ l[j].wv ∧ l[j].wv ≤ 1099511627776)) (fun i => l.length - (intOf i).toNat)
  case atStart => exact ⟨0, Nat.zero_le _, rfl, Lib.hid (fun j hj h => by omega)⟩
  case round =>
    obtain ⟨k, hk, rfl, HP⟩ := hrel
    by_cases hlt : k < l.length
    · have hlt' : (k : Int) < (l.length : Int) := by omega
      have hk0 : (0 : Int) ≤ (k : Int) := by omega
      obtain ⟨b, o, rfl, hr⟩ := HR.out k hlt
      obtain ⟨_, _, _, _, _, _, c6⟩ := rn_cells hr
      have HPk : Hid (0 ≤ l[k].wv → l[k].wv ≤ 1099511627776 → ∀ j (hj : j < l.length), j < k + 1 → 0 ≤ l[j].wv ∧ l[j].wv ≤ 1099511627776) := Lib.hid (fun h1 h2 j hj hjk => by
        by_cases e : j = k
        · subst e; exact ⟨h1, h2⟩
        · exact HP.out j hj (by omega))
      clear hr
      generalize l[k].wv = x at *
      by_cases hx0 : x < 0
      · go_wp2_with (go_at_call 34; refine (HL.out _ HT.out).mono ?_; rintro e w1 ⟨rfl, hb⟩; have HB := Lib.hid hb; clear hb)
        go_ret
        exact ⟨rfl, HB.out⟩
      · by_cases hx1 : 1099511627776 < x
        · go_wp2_with (go_at_call 34; refine (HL.out _ HT.out).mono ?_; rintro e w1 ⟨rfl, hb⟩; have HB := Lib.hid hb; clear hb)
          go_ret
          exact ⟨rfl, HB.out⟩
        · have HP2 := Lib.hid (HPk.out (by omega) (by omega))
          clear HPk
          go_wp2
          go_round
          case rel => exact ⟨k + 1, by omega, by go_num, HP2⟩
          case measure => simp [intOf]; omega
    · obtain rfl : k = l.length := by omega
      have HWv : Hid (WvOk l) := Lib.hid (fun r hr => by
        obtain ⟨i, hi, rfl⟩ := List.mem_iff_getElem.1 hr
        exact HP.out i hi hi)
      clear hlt hk HP
      go_wp2_with (first | (go_at_call 40; refine (HF.out _ HR.out).mono ?_; rintro e w1 ⟨rfl, hb⟩; have HB1 := Lib.hid hb; clear hb) | (go_at_call 41; refine (HRF.out _ (HR.out.later HB1.out)).mono ?_; rintro e wx ⟨rfl, rfl⟩) | (go_at_call 34; refine (HL.out _ (HT.out.later HB1.out)).mono ?_; rintro e w2 ⟨rfl, hb⟩; have HB2 := Lib.hid (HB1.out.trans (hb.mono HB1.out.size)); clear hb) | (go_at_call 42; refine (HW.out _ (HR.out.later HB2.out) HWv.out).mono ?_; rintro e w3 ⟨rfl, hb⟩; have HB3 := Lib.hid (HB2.out.trans (hb.mono HB2.out.size)); clear hb) | (go_at_call 43; refine (HRW.out _ (HR.out.later HB3.out) HWv.out).mono ?_; rintro e wx ⟨rfl, rfl⟩))
      go_ret
      exact ⟨ret_bool (by cases q <;> simp), HB3.out⟩
end Go.Proofs.YtnikhhbnbeljeaaGreatDoor.PL
