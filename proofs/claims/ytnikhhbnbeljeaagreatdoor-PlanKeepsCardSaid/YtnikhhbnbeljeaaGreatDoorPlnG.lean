/- Walk of package plan: mayHosts. -/
import Derived.Test.YtnikhhbnbeljeaaGreatDoorPlnF
import Derived.Test.YtnikhhbnbeljeaaGreatDoorInts
set_option linter.unusedSimpArgs false
set_option linter.unusedVariables false
namespace Go.Proofs.YtnikhhbnbeljeaaGreatDoor.PL
open Go.ChangeShapes Go.WideShapes Go.ChangeAt Go.RowKit Go.Base Go.Lab Go.Civ Go.Wire

set_option maxHeartbeats 4000000 in
theorem mayHosts_any (j : Jb) (occ : Int) (A : Option Addr) (hs : List Int) (c : Nat) (w : World) (hn : j.name.length ≤ maxLen) (hN : Nums w A hs) (hm : hs.length ≤ maxLen) :
    Calls Tryz.prog 78 #[jobV j, .int .i64 occ, .slice A hs.length c] w fun e w' => e = .returned (.bool (hostsOk j.name occ hs)) ∧ Below w.heap.size w w' := by
  have HR : Hid ((∀ k (hk : k < hs.length), keyB ⟨j.name, occ, hs[k]⟩ = false → hostsOk j.name occ hs = false)) := Lib.hid (fun k hk h => by
    unfold hostsOk; rw [List.all_eq_false.2 ⟨hs[k], List.getElem_mem hk, by rw [h]; decide⟩]; rfl)
  have HR2 : Hid (∀ k (hk : k < hs.length) (h0 : 0 < k), hs[k] ≤ hs[k - 1]'(by omega) → hostsOk j.name occ hs = false) := Lib.hid (fun k hk h0 h => by
    unfold hostsOk; rw [decide_eq_false (rise_no hk h0 h)]; simp)
  have HR3 : Hid ((∀ x ∈ hs, keyB ⟨j.name, occ, x⟩ = true) → hs.Pairwise (· < ·) → hostsOk j.name occ hs = true) := Lib.hid (fun h1 h2 => by
    unfold hostsOk; rw [List.all_eq_true.2 h1, decide_eq_true h2]; rfl)
  have HK := Lib.hid (fun (x : Int) V => mayKey_any j.name occ x hn V)
  have HN := Lib.hid hN
  have hm' : (hs.length : Int) ≤ 9223372036854775807 := by unfold maxLen at hm; omega
  generalize hostsOk j.name occ hs = R at *
  clear hn hN hm
  obtain ⟨nm, sp, sa, sel, sc, jit, wav, fai, par, dea, mis, bnd⟩ := j
  simp only [jobV, jobC] at *
  go_enter Tryz.func78, Tryz.ntmps78
  go_wp2
  refine at_world (C := fun V => Code.wp _ _ _ _ V) (P := fun V => Below w.heap.size w V ∧ V.cell? ⟨w.heap.size, 0, none⟩ = some (.string ⟨nm.toArray⟩)) ⟨below_alloc _ _, by rw [cell_new]; rfl⟩ (fun W hW => ?_)
  have HW := Lib.hid hW
  clear hW
  go_loopw [7, 8, 11] (fun _ _ i wr => ∃ k : Nat, k ≤ hs.length ∧ i = .int .i64 (k : Int) ∧ Hid (∀ x ∈ hs.take k, keyB ⟨nm, occ, x⟩ = true) ∧ Hid ((hs.take k).Pairwise (· < ·)) ∧ Hid (Below W.heap.size W wr)) (fun _ _ i _ => hs.length - (intOf i).toNat)
  case atStart => exact ⟨0, Nat.zero_le _, rfl, Lib.hid (by simp), Lib.hid (by simp), Lib.hid (Below.refl _ _)⟩
  case round =>
    obtain ⟨k, hk, rfl, HF, HP, HB⟩ := hrel
    have HBW : Hid (Below w.heap.size w wr) := Lib.hid (HW.out.1.trans (HB.out.mono HW.out.1.size))
    have hcn := cell_later HB.out HW.out.2
    by_cases hlt : k < hs.length
    · have hlt' : (k : Int) < (hs.length : Int) := by omega
      have hk0 : (0 : Int) ≤ (k : Int) := by omega
      obtain ⟨b, o, rfl, c0, l1, l2⟩ := (HN.out.later HBW.out) k hlt
      have HRk := Lib.hid (HR.out k hlt)
      have HT := Lib.hid (fun (h : keyB ⟨nm, occ, hs[k]⟩ = true) => (show ∀ x ∈ hs.take (k + 1), keyB ⟨nm, occ, x⟩ = true from fun x hx => by
        rw [List.take_succ_eq_append_getElem hlt, List.mem_append, List.mem_singleton] at hx
        rcases hx with hx | rfl
        · exact HF.out x hx
        · exact h))
      by_cases e0 : k = 0
      · have h0' : ¬ (0 : Int) < (k : Int) := by omega
        have HS := Lib.hid (rise_snoc hlt HP.out (fun h => by omega))
        clear e0
        generalize hs[k] = x at *
        cases hq : keyB ⟨nm, occ, x⟩
        · have HV := HRk.out hq
          subst HV
          clear HRk HR HR2 HR3
          go_wp2_with (go_at_call 139; refine (HK.out x _).mono ?_; rintro e w1 ⟨rfl, hb⟩; have HB1 := Lib.hid (HB.out.trans (hb.mono HB.out.size)); have HB2 := Lib.hid (HBW.out.trans (hb.mono HBW.out.size)); clear hb)
          go_ret
          exact ⟨rfl, HB2.out⟩
        · have HT2 := Lib.hid (HT.out hq)
          go_wp2_with (go_at_call 139; refine (HK.out x _).mono ?_; rintro e w1 ⟨rfl, hb⟩; have HB1 := Lib.hid (HB.out.trans (hb.mono HB.out.size)); have HB2 := Lib.hid (HBW.out.trans (hb.mono HBW.out.size)); clear hb)
          go_roundw
          case rel => exact ⟨k + 1, by omega, by go_num, HT2, HS, HB1⟩
          case measure => simp [intOf]; omega
      · have h0 : 0 < k := by omega
        have h0' : (0 : Int) < (k : Int) := by omega
        obtain ⟨b', o', e', c1, l3, l4⟩ := (HN.out.later HBW.out) (k - 1) (by omega)
        injection e' with e'; injection e' with e1 e2 _; subst e1; subst e2
        have hkk : ((k - 1 : Nat) : Int) = (k : Int) - 1 := by omega
        have hk1 : (0 : Int) ≤ (k : Int) - 1 := by omega
        have hk2 : (k : Int) - 1 < (hs.length : Int) := by omega
        have hk3 : ((k : Int) - 1).toNat = k - 1 := by omega
        have HS := Lib.hid (fun (h : hs[k - 1]'(by omega) < hs[k]) => rise_snoc hlt HP.out (fun _ => h))
        have HRr := Lib.hid (HR2.out k hlt h0)
        generalize hs[k] = x at *
        generalize hs[k - 1]'(by omega) = y at *
        by_cases hle : x ≤ y
        · have HV := HRr.out hle
          subst HV
          clear HRk HR HR2 HR3 HRr HS HT
          go_wp2
          go_ret
          exact ⟨rfl, HBW.out⟩
        · have HS2 := Lib.hid (HS.out (by omega))
          clear HRr HS
          cases hq : keyB ⟨nm, occ, x⟩
          · have HV := HRk.out hq
            subst HV
            clear HRk HR HR2 HR3
            go_wp2_with (go_at_call 139; refine (HK.out x _).mono ?_; rintro e w1 ⟨rfl, hb⟩; have HB1 := Lib.hid (HB.out.trans (hb.mono HB.out.size)); have HB2 := Lib.hid (HBW.out.trans (hb.mono HBW.out.size)); clear hb)
            go_ret
            exact ⟨rfl, HB2.out⟩
          · have HT2 := Lib.hid (HT.out hq)
            go_wp2_with (go_at_call 139; refine (HK.out x _).mono ?_; rintro e w1 ⟨rfl, hb⟩; have HB1 := Lib.hid (HB.out.trans (hb.mono HB.out.size)); have HB2 := Lib.hid (HBW.out.trans (hb.mono HBW.out.size)); clear hb)
            go_roundw
            case rel => exact ⟨k + 1, by omega, by go_num, HT2, HS2, HB1⟩
            case measure => simp [intOf]; omega
    · obtain rfl : k = hs.length := by omega
      have HV := HR3.out (fun x hx => HF.out x (by rw [List.take_length]; exact hx)) (by have := HP.out; rwa [List.take_length] at this)
      subst HV
      clear hlt
      go_wp2
      go_ret
      exact ⟨rfl, HBW.out⟩
end Go.Proofs.YtnikhhbnbeljeaaGreatDoor.PL
