/- Package plan: Waves; the reference's Waves and Find; the law's Same. -/
import Derived.Test.YtnikhhbnbeljeaaGreatDoorPlnO
set_option linter.unusedSimpArgs false
set_option linter.unusedVariables false
namespace Go.Proofs.YtnikhhbnbeljeaaGreatDoor.PL
open Go.ChangeShapes Go.WideShapes Go.ChangeAt Go.RowKit Go.Base Go.Lab

/-- How many waves. -/
def wavesR (l : List Rn) : Int := l.foldl (fun n r => max n (r.wv + 1)) 0
theorem wavesR_snoc (l : List Rn) (r : Rn) : wavesR (l ++ [r]) = max (wavesR l) (r.wv + 1) := by unfold wavesR; rw [List.foldl_append]; rfl
theorem wavesR_le : ∀ (l : List Rn) (n B : Int), n ≤ B → (∀ r ∈ l, r.wv + 1 ≤ B) → l.foldl (fun n r => max n (r.wv + 1)) n ≤ B
  | [], _, _, h, _ => h
  | r :: l, n, B, h, h2 => wavesR_le l _ B (by show max n (r.wv + 1) ≤ B; have := h2 r (by simp); omega) (fun x hx => h2 x (by simp [hx]))
theorem wavesR_ge0 : ∀ (l : List Rn) (n : Int), n ≤ l.foldl (fun n r => max n (r.wv + 1)) n
  | [], _ => Int.le_refl _
  | r :: l, n => Int.le_trans (by show n ≤ max n (r.wv + 1); omega) (wavesR_ge0 l (max n (r.wv + 1)))
theorem wavesR_ge : ∀ (l : List Rn) (n : Int) (r : Rn), r ∈ l → r.wv + 1 ≤ l.foldl (fun n r => max n (r.wv + 1)) n
  | r :: l, n, x, h => by
    rcases List.mem_cons.1 h with rfl | h
    · exact Int.le_trans (by show x.wv + 1 ≤ max n (x.wv + 1); omega) (wavesR_ge0 l (max n (x.wv + 1)))
    · exact wavesR_ge l _ x h
theorem wavesR_max {l : List Rn} {m : Rn} (hm : m ∈ l) (h : ∀ x ∈ l, x.wv ≤ m.wv) (h0 : 0 ≤ m.wv) : wavesR l = m.wv + 1 :=
  Int.le_antisymm (wavesR_le l 0 _ (by omega) (fun r hr => by have := h r hr; omega)) (wavesR_ge l 0 m hm)
def WvOk (l : List Rn) : Prop := ∀ r ∈ l, 0 ≤ r.wv ∧ r.wv ≤ 1099511627776
theorem wavesR_bd {l : List Rn} (h : WvOk l) : 0 ≤ wavesR l ∧ wavesR l ≤ 1099511627777 := ⟨wavesR_ge0 l 0, wavesR_le l 0 _ (by omega) (fun r hr => by have := h r hr; omega)⟩
set_option maxHeartbeats 4000000 in
theorem waves_any (A : Option Addr) (l : List Rn) (c : Nat) (w : World) (hR : Rns w A l) (hm : l.length ≤ maxLen) (hw : WvOk l) :
    Calls Tryz.prog 42 #[.slice A l.length c] w fun e w' => e = .returned (.int .i64 (wavesR l)) ∧ Below w.heap.size w w' := by
  have hm' : (l.length : Int) ≤ 9223372036854775807 := by unfold maxLen at hm; omega
  by_cases h0 : l.length = 0
  · have HV : Hid (wavesR l = 0) := Lib.hid (by rw [List.length_eq_zero_iff.1 h0]; rfl)
    have h1 : ((l.length : Int) == 0) = true := by simpa using h0
    rw [HV.out]
    clear hR hm hw HV h0
    generalize l.length = n at *
    go_enter Tryz.func42, Tryz.ntmps42
    go_wp2
    go_ret
    exact ⟨rfl, Below.refl _ _⟩
  · have HM := Lib.hid (maxf_any A l c w hR hm (by omega))
    have HW : Hid (∀ m, m ∈ l → (∀ x ∈ l, x.wv ≤ m.wv) → wavesR l = m.wv + 1 ∧ 0 ≤ m.wv ∧ m.wv ≤ 1099511627776) := Lib.hid (fun m hm h => ⟨wavesR_max hm h (hw m hm).1, hw m hm⟩)
    have h1 : ((l.length : Int) == 0) = false := by simpa using h0
    generalize wavesR l = z at *
    clear hR hm hw h0
    go_enter Tryz.func42, Tryz.ntmps42
    go_wp2_with (go_at_call 90; refine HM.out.mono ?_; rintro e w1 ⟨m, rfl, hm1, hm2, hb⟩; have HZ := Lib.hid (HW.out m hm1 hm2); have hz1 := HZ.out.2.1; have hz2 := HZ.out.2.2; obtain ⟨mjob, mocc, mhost, mver, mat_, mun, mwv⟩ := m; simp only [rnC] at *; have HB := Lib.hid hb; clear hb hm1 hm2)
    go_ret
    exact ⟨ret_int HZ.out.1.symm, by have := HB.out; have z := this.size; exact (this.trans (Below.mono (by go_grown) z))⟩
set_option maxHeartbeats 4000000 in
theorem refWaves_any (A : Option Addr) (l : List Rn) (c : Nat) (w : World) (hR : Rns w A l) (hm : l.length ≤ maxLen) (hw : WvOk l) :
    Calls Tryz.prog 43 #[.slice A l.length c] w fun e w' => e = .returned (.int .i64 (wavesR l)) ∧ w = w' := by
  have HR := Lib.hid hR
  have hm' : (l.length : Int) ≤ 9223372036854775807 := by unfold maxLen at hm; omega
  have HW := Lib.hid hw
  have HBd : Hid (∀ k, 0 ≤ wavesR (l.take k) ∧ wavesR (l.take k) ≤ 1099511627777) := Lib.hid (fun k => wavesR_bd (fun r hr => hw r (List.mem_of_mem_take hr)))
  clear hR hm hw
  go_enter Tryz.func43, Tryz.ntmps43
  go_wp2
  go_loop [3, 4] (fun n i => ∃ k : Nat, k ≤ l.length ∧ i = .int .i64 (k : Int) ∧ n = .int .i64 (wavesR (l.take k))) (fun _ i => l.length - (intOf i).toNat)
  case atStart => exact ⟨0, Nat.zero_le _, rfl, rfl⟩
  case round =>
    obtain ⟨k, hk, rfl, rfl⟩ := hrel
    obtain ⟨z0, z1⟩ := HBd.out k
    by_cases hlt : k < l.length
    · have hlt' : (k : Int) < (l.length : Int) := by omega
      have hk0 : (0 : Int) ≤ (k : Int) := by omega
      obtain ⟨b, o, rfl, hr⟩ := HR.out k hlt
      obtain ⟨_, _, _, _, _, _, c6⟩ := rn_cells hr
      obtain ⟨x0, x1⟩ := HW.out l[k] (List.getElem_mem hlt)
      have HS : Hid (wavesR (l.take (k + 1)) = max (wavesR (l.take k)) (l[k].wv + 1)) := Lib.hid (by rw [List.take_succ_eq_append_getElem hlt, wavesR_snoc])
      have HZ0 : Hid (k = 0 → wavesR (l.take k) = 0) := Lib.hid (fun h => by rw [h]; rfl)
      clear hr
      generalize l[k].wv = x at *
      generalize wavesR (l.take k) = z at *
      by_cases hkz : k = 0
      · have e0 := HZ0.out hkz
        have hkb : ((k : Int) == 0) = true := by simpa using hkz
        have HV : Hid (wavesR (l.take (k + 1)) = x + 1) := Lib.hid (by rw [HS.out, e0]; omega)
        clear HZ0 HS e0 hkz
        go_wp2
        go_round
        case rel => exact ⟨k + 1, by omega, by go_num, by rw [HV.out]⟩
        case measure => simp [intOf]; omega
      · have hkb : ((k : Int) == 0) = false := by simpa using hkz
        by_cases hxz : z ≤ x
        · have HV : Hid (wavesR (l.take (k + 1)) = x + 1) := Lib.hid (by rw [HS.out]; omega)
          clear HZ0 HS hkz
          go_wp2
          go_round
          case rel => exact ⟨k + 1, by omega, by go_num, by rw [HV.out]⟩
          case measure => simp [intOf]; omega
        · have HV : Hid (wavesR (l.take (k + 1)) = z) := Lib.hid (by rw [HS.out]; omega)
          clear HZ0 HS hkz
          go_wp2
          go_round
          case rel => exact ⟨k + 1, by omega, by go_num, by rw [HV.out]⟩
          case measure => simp [intOf]; omega
    · obtain rfl : k = l.length := by omega
      have HV : Hid (wavesR (l.take l.length) = wavesR l) := Lib.hid (by rw [List.take_length])
      clear hlt
      go_wp2
      go_ret
      exact ⟨rfl, rfl⟩
set_option maxHeartbeats 4000000 in
theorem refFind_any (A : Option Addr) (l : List Rn) (c : Nat) (h : Int) (w : World) (hR : Rns w A l) (hm : l.length ≤ maxLen) :
    Calls Tryz.prog 41 #[.slice A l.length c, .int .i64 h] w fun e w' => e = .returned (findV l h) ∧ w = w' := by
  have HR := Lib.hid hR
  have hm' : (l.length : Int) ≤ 9223372036854775807 := by unfold maxLen at hm; omega
  have HF : Hid (∀ k (hk : k < l.length), (∀ j (hj : j < l.length), j < k → (l[j].host == h) = false) → (l[k].host == h) = true → findV l h = .tuple #[.int .i64 (k : Int), .bool true]) := Lib.hid (fun k hk hp he => by unfold findV; rw [find_at hk hp he])
  have HN : Hid ((∀ j (hj : j < l.length), (l[j].host == h) = false) → findV l h = .tuple #[.int .i64 0, .bool false]) := Lib.hid (fun hp => by unfold findV; rw [find_no hp])
  generalize findV l h = fv at *
  clear hR hm
  go_enter Tryz.func41, Tryz.ntmps41
  go_wp2
  go_loop [6] (fun i => ∃ k : Nat, k ≤ l.length ∧ i = .int .i64 (k : Int) ∧ Hid (∀ j (hj : j < l.length), j < k → (l[j].host == h) = false)) (fun i => l.length - (intOf i).toNat)
  case atStart => exact ⟨0, Nat.zero_le _, rfl, Lib.hid (fun j hj h => by omega)⟩
  case round =>
    obtain ⟨k, hk, rfl, HP⟩ := hrel
    by_cases hlt : k < l.length
    · have hlt' : (k : Int) < (l.length : Int) := by omega
      have hk0 : (0 : Int) ≤ (k : Int) := by omega
      obtain ⟨b, o, rfl, hr⟩ := HR.out k hlt
      obtain ⟨_, _, c2, _, _, _, _⟩ := rn_cells hr
      have HFk := Lib.hid (HF.out k hlt HP.out)
      have HPk : Hid ((l[k].host == h) = false → ∀ j (hj : j < l.length), j < k + 1 → (l[j].host == h) = false) := Lib.hid (fun hh j hj hjk => by
        by_cases e : j = k
        · subst e; exact hh
        · exact HP.out j hj (by omega))
      clear hr
      generalize l[k].host = x at *
      cases hq : (x == h)
      · have HP2 := Lib.hid (HPk.out hq)
        clear HPk HFk
        go_wp2
        go_round
        case rel => exact ⟨k + 1, by omega, by go_num, HP2⟩
        case measure => simp [intOf]; omega
      · have HV := HFk.out hq
        subst HV
        clear HPk HFk
        go_wp2
        go_ret2
        exact ⟨rfl, rfl⟩
    · obtain rfl : k = l.length := by omega
      have HV := HN.out (fun j hj => HP.out j hj hj)
      subst HV
      clear hlt
      go_wp2
      go_ret2
      exact ⟨rfl, rfl⟩
set_option maxHeartbeats 4000000 in
theorem same_true (A B : Option Addr) (l : List Rn) (c d : Nat) (w : World) (hA : Rns w A l) (hB : Rns w B l) (hm : l.length ≤ maxLen) :
    Calls Tryz.prog 35 #[.slice A l.length c, .slice B l.length d] w fun e w' => e = .returned (.bool true) ∧ Below w.heap.size w w' := by
  have HA := Lib.hid hA
  have HB := Lib.hid hB
  have hm' : (l.length : Int) ≤ 9223372036854775807 := by unfold maxLen at hm; omega
  clear hA hB hm
  go_enter Tryz.func35, Tryz.ntmps35
  go_wp2
  go_loopw [5] (fun i wr => ∃ k n : Nat, k ≤ l.length ∧ i = .int .i64 (k : Int) ∧ wr = w.drewN n) (fun i _ => l.length - (intOf i).toNat)
  case atStart => exact ⟨0, 0, Nat.zero_le _, rfl, rfl⟩
  case round =>
    obtain ⟨k, n, hk, rfl, rfl⟩ := hrel
    by_cases hlt : k < l.length
    · have hlt' : (k : Int) < (l.length : Int) := by omega
      have hk0 : (0 : Int) ≤ (k : Int) := by omega
      obtain ⟨b, o, rfl, hr⟩ := HA.out k hlt
      obtain ⟨b', o', rfl, hr'⟩ := HB.out k hlt
      obtain ⟨c0, c1, c2, c3, c4, c5, c6⟩ := rn_cells hr
      obtain ⟨d0, d1, d2, d3, d4, d5, d6⟩ := rn_cells hr'
      clear hr hr'
      generalize l[k] = x at *
      obtain ⟨xjob, xocc, xhost, xver, xat_, xun, xwv⟩ := x
      simp only at c0 c1 c2 c3 c4 c5 c6 d0 d1 d2 d3 d4 d5 d6
      go_wp2_with fail
      go_quiet (fail)
      go_wp2
      go_roundw
      case rel => exact ⟨k + 1, _, by omega, by go_num, rfl⟩
      case measure => simp [intOf]; omega
    · obtain rfl : k = l.length := by omega
      clear hlt
      go_wp2
      go_ret
      exact ⟨rfl, below_drewN (Below.refl _ _) _⟩
end Go.Proofs.YtnikhhbnbeljeaaGreatDoor.PL
