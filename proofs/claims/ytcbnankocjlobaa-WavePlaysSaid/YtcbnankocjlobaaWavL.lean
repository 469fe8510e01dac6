/- The reference of layer 17: Count. -/
import Derived.Test.YtcbnankocjlobaaWavK
set_option linter.unusedSimpArgs false
set_option linter.unusedVariables false
namespace Go.Proofs.Ytcbnankocjlobaa
open Go.ChangeShapes Go.WideShapes Go.ChangeAt Go.RowKit Go.Base Go.Maps

theorem good_of {s : Stp} (h : (s.st == 3) = true) : goodB s = !failB s := by unfold goodB failB bne; rw [h]; simp
theorem gf_no {s : Stp} (h : (s.st == 3) = false) : goodB s = false ∧ failB s = false := by unfold goodB failB; rw [h]; simp
set_option maxHeartbeats 8000000 in
theorem refCount_any (A : Option Addr) (l : List Stp) (c : Nat) (w : World) (hS : Stps w A l) (hm : l.length ≤ 2199023255552) :
    Calls Try.prog 13 #[.slice A l.length c] w (CountPost l w) := by
  have HS := Lib.hid hS
  have hm' : (l.length : Int) ≤ 2199023255552 := by omega
  have HL : Hid (∀ p k, cnt p (l.take k) ≤ k) := Lib.hid (fun p k => Nat.le_trans (cnt_le _ _) (by rw [List.length_take]; omega))
  have HT := Lib.hid (fun p k (hk : k < l.length) (b : Bool) (h : p l[k] = b) => (by rw [cnt_take p l hk, h]; cases b <;> rfl : cnt p (l.take (k + 1)) = cnt p (l.take k) + b.toNat))
  have HE : Hid (∀ p, cnt p l = cnt p (l.take l.length)) := Lib.hid (fun p => by rw [List.take_length])
  clear hS
  go_enter Try.func13, Try.ntmps13
  go_wp2
  go_loopw [7, 8, 9, 10, 11, 12] (fun n1 n2 n3 n4 n5 iv wr => ∃ k : Nat, k ≤ l.length ∧ n1 = .int .i64 (cnt (isS 1) (l.take k) : Nat) ∧ n2 = .int .i64 (cnt (isS 2) (l.take k) : Nat) ∧ n3 = .int .i64 (cnt goodB (l.take k) : Nat) ∧ n4 = .int .i64 (cnt failB (l.take k) : Nat) ∧ n5 = .int .i64 (cnt (isS 4) (l.take k) : Nat) ∧ iv = .int .i64 (k : Int) ∧ Hid (Below w.heap.size w wr)) (fun _ _ _ _ _ iv _ => l.length - (intOf iv).toNat)
  case atStart => exact ⟨0, Nat.zero_le _, rfl, rfl, rfl, rfl, rfl, rfl, Lib.hid (Below.refl _ _)⟩
  case round =>
    obtain ⟨k, hk, rfl, rfl, rfl, rfl, rfl, rfl, HB⟩ := hrel
    by_cases hlt : k < l.length
    · have hlt' : (k : Int) < (l.length : Int) := by omega
      have hk0 : (0 : Int) ≤ (k : Int) := by omega
      obtain ⟨b, o, rfl, hr⟩ := (HS.out.later HB.out) k hlt
      have c7 : wr.cell? ⟨b, o + k * 10 + 7, none⟩ = some (.int .i64 l[k].st) := hr 7 _ rfl
      have HR := Lib.hid hr
      have HCl := Lib.hid (refFailed1_any l[k] wr)
      have b1 := HL.out (isS 1) k
      have b2 := HL.out (isS 2) k
      have b3 := HL.out goodB k
      have b4 := HL.out failB k
      have b5 := HL.out (isS 4) k
      have t1 := HT.out (isS 1) k hlt
      have t2 := HT.out (isS 2) k hlt
      have t3 := HT.out goodB k hlt
      have t4 := HT.out failB k hlt
      have t5 := HT.out (isS 4) k hlt
      have HG := Lib.hid (good_of (s := l[k]'hlt))
      have HNo := Lib.hid (gf_no (s := l[k]'hlt))
      simp only [isS] at t1 t2 t5
      have T1 := Lib.hid t1
      have T2 := Lib.hid t2
      have T3 := Lib.hid t3
      have T4 := Lib.hid t4
      have T5 := Lib.hid t5
      have hzC := stC_size l[k]
      clear hr t1 t2 t3 t4 t5
      generalize l[k] = s at *
      obtain ⟨L, hL⟩ : ∃ L, L = stC s := ⟨_, rfl⟩
      rw [← hL] at hzC HR HCl
      have hszC : (Try.prog.info? 41).map (·.size) = some L.length := by rw [hzC]; exact szSt
      clear hL
      generalize cnt (isS 1) (l.take k) = m1 at *
      generalize cnt (isS 2) (l.take k) = m2 at *
      generalize cnt goodB (l.take k) = m3 at *
      generalize cnt failB (l.take k) = m4 at *
      generalize cnt (isS 4) (l.take k) = m5 at *
      generalize failB s = q at *
      generalize goodB s = g at *
      obtain ⟨job, occ, host, ver, at_, un, wv, v, out, rs⟩ := s
      simp only at c7 T1 T2 T5 HG HNo
      have b1' : (m1 : Int) ≤ 2199023255552 := by omega
      have b2' : (m2 : Int) ≤ 2199023255552 := by omega
      have b3' : (m3 : Int) ≤ 2199023255552 := by omega
      have b4' : (m4 : Int) ≤ 2199023255552 := by omega
      have b5' : (m5 : Int) ≤ 2199023255552 := by omega
      cases h1 : (v == 1)
      · cases h2 : (v == 2)
        · cases h3 : (v == 3)
          · obtain ⟨rfl, rfl⟩ := HNo.out h3
            cases h4 : (v == 4)
            · have U1 : Hid (cnt (isS 1) (l.take (k + 1)) = m1) := Lib.hid (T1.out false (by first | assumption | rfl))
              have U2 : Hid (cnt (isS 2) (l.take (k + 1)) = m2) := Lib.hid (T2.out false (by first | assumption | rfl))
              have U3 : Hid (cnt goodB (l.take (k + 1)) = m3) := Lib.hid (T3.out false (by first | assumption | rfl))
              have U4 : Hid (cnt failB (l.take (k + 1)) = m4) := Lib.hid (T4.out false (by first | assumption | rfl))
              have U5 : Hid (cnt (isS 4) (l.take (k + 1)) = m5) := Lib.hid (T5.out false (by first | assumption | rfl))
              clear T1 T2 T3 T4 T5 HG HNo
              go_wp2
              go_roundw
              case rel => exact ⟨k + 1, by omega, by rw [U1.out], by rw [U2.out], by rw [U3.out], by rw [U4.out], by rw [U5.out], by go_num, HB⟩
              case measure => simp [intOf]; omega
            · have U1 : Hid (cnt (isS 1) (l.take (k + 1)) = m1) := Lib.hid (T1.out false (by first | assumption | rfl))
              have U2 : Hid (cnt (isS 2) (l.take (k + 1)) = m2) := Lib.hid (T2.out false (by first | assumption | rfl))
              have U3 : Hid (cnt goodB (l.take (k + 1)) = m3) := Lib.hid (T3.out false (by first | assumption | rfl))
              have U4 : Hid (cnt failB (l.take (k + 1)) = m4) := Lib.hid (T4.out false (by first | assumption | rfl))
              have U5 : Hid (cnt (isS 4) (l.take (k + 1)) = m5 + 1) := Lib.hid (T5.out true (by first | assumption | rfl))
              clear T1 T2 T3 T4 T5 HG HNo
              go_wp2
              go_roundw
              case rel => exact ⟨k + 1, by omega, by rw [U1.out], by rw [U2.out], by rw [U3.out], by rw [U4.out], by rw [U5.out]; go_num, by go_num, HB⟩
              case measure => simp [intOf]; omega
          · have hg := HG.out h3
            have z4 : (v == 4) = false := by have := LawfulBEq.eq_of_beq h3; subst this; rfl
            cases q
            · obtain rfl : g = true := hg
              have U1 : Hid (cnt (isS 1) (l.take (k + 1)) = m1) := Lib.hid (T1.out false (by first | assumption | rfl))
              have U2 : Hid (cnt (isS 2) (l.take (k + 1)) = m2) := Lib.hid (T2.out false (by first | assumption | rfl))
              have U3 : Hid (cnt goodB (l.take (k + 1)) = m3 + 1) := Lib.hid (T3.out true (by first | assumption | rfl))
              have U4 : Hid (cnt failB (l.take (k + 1)) = m4) := Lib.hid (T4.out false (by first | assumption | rfl))
              have U5 : Hid (cnt (isS 4) (l.take (k + 1)) = m5) := Lib.hid (T5.out false (by first | assumption | rfl))
              clear T1 T2 T3 T4 T5 HG HNo
              go_wp2_with (first
        | (refine wpList_load_mid rfl 41 (.tmp 36) rfl b (o + k * 10) rfl L _ HR.out Try.underlying41 rfl hszC ?_)
        | (go_at_call 26; refine HCl.out.mono ?_; rintro e w1 ⟨rfl, hb⟩; have HB2 := Lib.hid (HB.out.trans (hb.mono HB.out.size)); clear hb)
        | go_in)
              go_roundw
              case rel => exact ⟨k + 1, by omega, by rw [U1.out], by rw [U2.out], by rw [U3.out]; go_num, by rw [U4.out], by rw [U5.out], by go_num, HB2⟩
              case measure => simp [intOf]; omega
            · obtain rfl : g = false := hg
              have U1 : Hid (cnt (isS 1) (l.take (k + 1)) = m1) := Lib.hid (T1.out false (by first | assumption | rfl))
              have U2 : Hid (cnt (isS 2) (l.take (k + 1)) = m2) := Lib.hid (T2.out false (by first | assumption | rfl))
              have U3 : Hid (cnt goodB (l.take (k + 1)) = m3) := Lib.hid (T3.out false (by first | assumption | rfl))
              have U4 : Hid (cnt failB (l.take (k + 1)) = m4 + 1) := Lib.hid (T4.out true (by first | assumption | rfl))
              have U5 : Hid (cnt (isS 4) (l.take (k + 1)) = m5) := Lib.hid (T5.out false (by first | assumption | rfl))
              clear T1 T2 T3 T4 T5 HG HNo
              go_wp2_with (first
        | (refine wpList_load_mid rfl 41 (.tmp 36) rfl b (o + k * 10) rfl L _ HR.out Try.underlying41 rfl hszC ?_)
        | (go_at_call 26; refine HCl.out.mono ?_; rintro e w1 ⟨rfl, hb⟩; have HB2 := Lib.hid (HB.out.trans (hb.mono HB.out.size)); clear hb)
        | go_in)
              go_roundw
              case rel => exact ⟨k + 1, by omega, by rw [U1.out], by rw [U2.out], by rw [U3.out], by rw [U4.out]; go_num, by rw [U5.out], by go_num, HB2⟩
              case measure => simp [intOf]; omega
        · have z3 : (v == 3) = false := by have := LawfulBEq.eq_of_beq h2; subst this; rfl
          have z4 : (v == 4) = false := by have := LawfulBEq.eq_of_beq h2; subst this; rfl
          obtain ⟨rfl, rfl⟩ := HNo.out z3
          have U1 : Hid (cnt (isS 1) (l.take (k + 1)) = m1) := Lib.hid (T1.out false (by first | assumption | rfl))
          have U2 : Hid (cnt (isS 2) (l.take (k + 1)) = m2 + 1) := Lib.hid (T2.out true (by first | assumption | rfl))
          have U3 : Hid (cnt goodB (l.take (k + 1)) = m3) := Lib.hid (T3.out false (by first | assumption | rfl))
          have U4 : Hid (cnt failB (l.take (k + 1)) = m4) := Lib.hid (T4.out false (by first | assumption | rfl))
          have U5 : Hid (cnt (isS 4) (l.take (k + 1)) = m5) := Lib.hid (T5.out false (by first | assumption | rfl))
          clear T1 T2 T3 T4 T5 HG HNo
          go_wp2
          go_roundw
          case rel => exact ⟨k + 1, by omega, by rw [U1.out], by rw [U2.out]; go_num, by rw [U3.out], by rw [U4.out], by rw [U5.out], by go_num, HB⟩
          case measure => simp [intOf]; omega
      · have z2 : (v == 2) = false := by have := LawfulBEq.eq_of_beq h1; subst this; rfl
        have z3 : (v == 3) = false := by have := LawfulBEq.eq_of_beq h1; subst this; rfl
        have z4 : (v == 4) = false := by have := LawfulBEq.eq_of_beq h1; subst this; rfl
        obtain ⟨rfl, rfl⟩ := HNo.out z3
        have U1 : Hid (cnt (isS 1) (l.take (k + 1)) = m1 + 1) := Lib.hid (T1.out true (by first | assumption | rfl))
        have U2 : Hid (cnt (isS 2) (l.take (k + 1)) = m2) := Lib.hid (T2.out false (by first | assumption | rfl))
        have U3 : Hid (cnt goodB (l.take (k + 1)) = m3) := Lib.hid (T3.out false (by first | assumption | rfl))
        have U4 : Hid (cnt failB (l.take (k + 1)) = m4) := Lib.hid (T4.out false (by first | assumption | rfl))
        have U5 : Hid (cnt (isS 4) (l.take (k + 1)) = m5) := Lib.hid (T5.out false (by first | assumption | rfl))
        clear T1 T2 T3 T4 T5 HG HNo
        go_wp2
        go_roundw
        case rel => exact ⟨k + 1, by omega, by rw [U1.out]; go_num, by rw [U2.out], by rw [U3.out], by rw [U4.out], by rw [U5.out], by go_num, HB⟩
        case measure => simp [intOf]; omega
    · obtain rfl : k = l.length := by omega
      clear hlt
      have e1 := HE.out (isS 1)
      have e2 := HE.out (isS 2)
      have e3 := HE.out goodB
      have e4 := HE.out failB
      have e5 := HE.out (isS 4)
      have E1 := Lib.hid e1
      have E2 := Lib.hid e2
      have E3 := Lib.hid e3
      have E4 := Lib.hid e4
      have E5 := Lib.hid e5
      clear e1 e2 e3 e4 e5
      generalize cnt (isS 1) (l.take l.length) = m1 at *
      generalize cnt (isS 2) (l.take l.length) = m2 at *
      generalize cnt goodB (l.take l.length) = m3 at *
      generalize cnt failB (l.take l.length) = m4 at *
      generalize cnt (isS 4) (l.take l.length) = m5 at *
      go_wp2
      (try simp only [Exit.inBlock, Exit.then])
      refine bodyPost_ret (results_tmp5 rfl _ _ _) rfl ?_
      exact ⟨by rw [E1.out, E2.out, E3.out, E4.out, E5.out]; rfl, HB.out⟩
end Go.Proofs.Ytcbnankocjlobaa
