/- Walk of package label's reference: Print. -/
import Derived.Test.YtpkjllliidpgoaaGreatDoorLabPb
set_option linter.unusedSimpArgs false
set_option linter.unusedVariables false
namespace Go.Proofs.YtpkjllliidpgoaaGreatDoor
open Go.ChangeShapes Go.WideShapes Go.ChangeAt Go.RowKit Go.Base Go.Lab

def prS (l : List Bytes) (k : Nat) : Bytes := Lib.join (l.take k) [44]
theorem prS_one {l : List Bytes} (h : 0 < l.length) : prS l 1 = l[0] := by
  unfold prS
  rw [List.take_succ_eq_append_getElem h, List.take_zero, List.nil_append, Lib.join_one]
theorem ba_size (x : Bytes) : (⟨x.toArray⟩ : ByteArray).size = x.length := by simp [ByteArray.size]
set_option maxHeartbeats 8000000 in
set_option maxRecDepth 20000 in
theorem refPrint_any (A : Option Addr) (cs : List Cl) (c : Nat) (w : World) (hC : Cls w A cs) (hm : cs.length ≤ maxLen) :
    Calls Tryz.prog 19 #[.slice A cs.length c] w fun e w' => e = .returned (strV (printB cs)) ∧ Below w.heap.size w w' := by
  have HC := Lib.hid hC
  have HNo := Lib.hid (fun (x : Cl) (hx : x ∈ cs) (h : rightB x = false) => printB_no hx h)
  have HYes := Lib.hid (fun (h : cs.length ≤ 16) (hr : ∀ x ∈ cs, rightB x = true) => printB_yes h hr)
  have HBig : Hid (16 < cs.length → printB cs = []) := Lib.hid (fun h => by unfold printB; rw [decide_eq_false (by omega)]; simp)
  generalize printB cs = R at *
  unfold maxLen at hm
  clear hC
  by_cases h16 : 16 < cs.length
  · have h16' : (16 : Int) < (cs.length : Int) := by omega
    have HR := Lib.hid (HBig.out h16)
    go_enter Tryz.func19, Tryz.ntmps19
    go_wp2
    go_ret
    exact ⟨by rw [HR.out]; rfl, Below.refl _ _⟩
  have hcl : cs.length ≤ 16 := by omega
  have hcl' : (cs.length : Int) ≤ 16 := by omega
  clear h16 hm HBig
  go_enter Tryz.func19, Tryz.ntmps19
  go_wp2
  go_loopw [3, 4] (fun o i wr => ∃ (k : Nat) (P : Bytes), k ≤ cs.length ∧ i = .int .i64 (k : Int) ∧ o = strV P ∧ Hid (P = prS (cs.map clTx) k) ∧ Hid (∀ x ∈ cs.take k, rightB x = true) ∧ Hid (Below w.heap.size w wr)) (fun _ i _ => cs.length - (intOf i).toNat)
  case atStart => exact ⟨0, [], Nat.zero_le _, rfl, rfl, Lib.hid rfl, Lib.hid (by simp), Lib.hid (Below.refl _ _)⟩
  case round =>
    obtain ⟨k, P, hk, rfl, rfl, HP, HF, HB⟩ := hrel
    by_cases hlt : k < cs.length
    · have hlt' : (k : Int) < (cs.length : Int) := by omega
      have hk0 : (0 : Int) ≤ (k : Int) := by omega
      obtain ⟨b, o, rfl, c0, c1, c2, hf⟩ := (HC.out.later HB.out) k hlt
      have HRt := Lib.hid (fun V (h : Below wr.heap.size wr V) => refRight_any cs[k] V (hf.later h))
      have HT := Lib.hid (take_memC (p := fun x => rightB x = true) hlt HF.out)
      have HNk := Lib.hid (HNo.out cs[k] (List.getElem_mem _))
      have hmk : k < (cs.map clTx).length := by simpa using hlt
      have HJ1 : Hid (k = 0 → prS (cs.map clTx) (k + 1) = clTx cs[k]) := Lib.hid (fun h => by
        subst h; rw [prS_one hmk]; simp)
      have HJ2 : Hid (0 < k → prS (cs.map clTx) (k + 1) = P ++ [44] ++ clTx cs[k]) := Lib.hid (fun h => by
        rw [HP.out]; unfold prS; rw [join_succ hmk h]; simp)
      have HLn : Hid (P.length ≤ 701 * 16) := Lib.hid (by
        rw [HP.out]; unfold prS
        have := join_lens (l := (cs.map clTx).take k) (n := 700) (fun x hx => by
          rw [← List.map_take] at hx
          obtain ⟨y, hy, rfl⟩ := List.mem_map.1 hx
          exact clT_len (HF.out y hy))
        have h2 : ((cs.map clTx).take k).length ≤ 16 := by simp; omega
        exact Nat.le_trans this (Nat.mul_le_mul_left _ h2))
      have HRR : Hid (rightB cs[k] = true → (pcOf cs[k]).2.2.length ≤ 16 ∧ (∀ x ∈ cs[k].vals, x.length ≤ 32) ∧ cs[k].key.length ≤ 32 ∧ ((cs[k].kind = 3 ∨ cs[k].kind = 4) ∧ cs[k].vals = [] ∨ (cs[k].kind = 1 ∨ cs[k].kind = 2) ∧ 1 ≤ cs[k].vals.length)) := Lib.hid (fun h => by
        have hr2 := right_form (p := pcOf cs[k]) h
        obtain ⟨h1, h2⟩ := snd_form hr2.1
        refine ⟨?_, fun x hx => val_len (h1 x hx), word_len h2, ?_⟩
        · rcases hr2.2 with ⟨_, _, h⟩ | ⟨_, h⟩
          · exact h
          · rw [h]; simp
        · rcases hr2.2 with ⟨h, h', _⟩ | ⟨h, h'⟩
          · exact .inr ⟨h, h'⟩
          · exact .inl ⟨h, h'⟩)
      have HV := Lib.hid hf.v
      have HP0 : Hid (k = 0 → P = []) := Lib.hid (fun h => by rw [HP.out, h]; rfl)
      clear hf hmk HP
      generalize hq : rightB cs[k] = q at *
      clear hq
      generalize cs[k] = x at *
      obtain ⟨kind, key, la, vals, lc⟩ := x
      unfold pcOf at HRR
      simp only at c0 c1 c2 HRR HV
      cases q
      · have HR := Lib.hid (HNk.out (by first | rfl | trivial))
        go_wp2_with (go_at_call 35; refine Calls.mono (by with_reducible exact HRt.out _ (Below.refl _ _)) ?_; rintro e w1 ⟨rfl, hb⟩; have HB1 := Lib.hid (HB.out.trans (hb.mono HB.out.size)); clear hb)
        go_ret
        exact ⟨by rw [HR.out]; rfl, HB1.out⟩
      · obtain ⟨hv16, hv32, hk32, hkinds⟩ := HRR.out (by first | rfl | trivial)
        have HT2 := Lib.hid (HT.out (by first | rfl | trivial))
        have HV32 := Lib.hid hv32
        have hv16' : (vals.length : Int) ≤ 16 := by omega
        have hPn := HLn.out
        have hP0 : ¬ 9223372036854775807 < P.length + 1 := by omega
        clear hv32 HRR HT HNk
        have hPs : (⟨P.toArray⟩ : ByteArray).size ≤ 701 * 16 := by rw [ba_size]; exact hPn
        have hPs : (⟨P.toArray⟩ : ByteArray).size ≤ 701 * 16 := by rw [ba_size]; exact hPn
        have hPs : (⟨P.toArray⟩ : ByteArray).size ≤ 701 * 16 := by rw [ba_size]; exact hPn
        have hPs : (⟨P.toArray⟩ : ByteArray).size ≤ 701 * 16 := by rw [ba_size]; exact hPn
        have hPs : (⟨P.toArray⟩ : ByteArray).size ≤ 701 * 16 := by rw [ba_size]; exact hPn
        by_cases h0 : k = 0
        · have hkz : ¬ ((0 : Int) < (k : Int)) := by omega
          have hkn : decide (0 < k) = false := by simp; omega
          have HJ : Hid (prS (cs.map clTx) (k + 1) = P ++ clTx ⟨kind, key, la, vals, lc⟩) := Lib.hid (by rw [HJ1.out h0]; have := HP0.out h0; rw [this]; rfl)
          clear h0 HJ1 HJ2 HP0
          have hQL : (⟨P.toArray⟩ : ByteArray).size ≤ 12000 := by omega
          clear hPs hPn hP0
          go_wp2_with (go_at_call 35; refine Calls.mono (by with_reducible exact HRt.out _ (Below.refl _ _)) ?_; rintro e w1 ⟨rfl, hb⟩; have HB1 := Lib.hid (HB.out.trans (hb.mono HB.out.size)); have HBr := Lib.hid hb; have d0 := cell_later hb c0; have d1 := cell_later hb c1; have d2 := cell_later hb c2; clear hb)
          generalize P = Q at *
          have HQL := Lib.hid hQL
          have HV1 := Lib.hid (HV.out.later HBr.out)
          go_loop [5, 6] (fun v j => ∃ (t : Nat) (V : Bytes), t ≤ vals.length ∧ j = .int .i64 (t : Int) ∧ v = strV V ∧ Hid (V = prS vals t) ∧ (⟨V.toArray⟩ : ByteArray).size ≤ 33 * 16) (fun _ j => vals.length - (intOf j).toNat)
          case atStart => exact ⟨0, [], Nat.zero_le _, rfl, rfl, Lib.hid rfl, by rw [ba_size]; simp⟩
          case round =>
            obtain ⟨t, V, ht, rfl, rfl, HVt, hVl⟩ := hrel
            by_cases htl : t < vals.length
            · have htl' : (t : Int) < (vals.length : Int) := by omega
              have ht0 : (0 : Int) ≤ (t : Int) := by omega
              obtain ⟨g, q, rfl, v1, _⟩ := HV1.out t htl
              have hz : (⟨vals[t].toArray⟩ : ByteArray).size ≤ 32 := by rw [ba_size]; exact HV32.out _ (List.getElem_mem _)
              have hz2 : vals[t].length ≤ 32 := HV32.out _ (List.getElem_mem _)
              have hVl2 : V.length ≤ 528 := by rw [ba_size] at hVl; exact hVl
              have HS1 : Hid (t = 0 → prS vals (t + 1) = V ++ vals[t]) := Lib.hid (fun h => by
                have hV := HVt.out; subst h; rw [prS_one htl, hV]; rfl)
              have HS2 : Hid (0 < t → prS vals (t + 1) = V ++ [44] ++ vals[t]) := Lib.hid (fun h => by
                rw [HVt.out]; unfold prS; rw [join_succ htl h])
              have HSl : Hid ((⟨(prS vals (t + 1)).toArray⟩ : ByteArray).size ≤ 33 * 16) := Lib.hid (by
                rw [ba_size]; unfold prS
                have := join_lens (l := vals.take (t + 1)) (n := 32) (fun x hx => HV32.out x (List.mem_of_mem_take hx))
                have h2 : (vals.take (t + 1)).length ≤ 16 := by simp; omega
                exact Nat.le_trans this (Nat.mul_le_mul_left _ h2))
              generalize vals[t] = z at *
              by_cases t0 : t = 0
              · have hkz2 : ¬ ((0 : Int) < (t : Int)) := by omega
                have hkn2 : decide (0 < t) = false := by simp; omega
                have HE := Lib.hid (HS1.out t0)
                clear t0 HS1 HS2
                go_wp2
                go_round
                case rel => exact ⟨t + 1, V ++ z, by omega, by go_num, (congrArg Value.string (ByteArray.ext (by simp))), Lib.hid HE.out.symm, by rw [← HE.out]; exact HSl.out⟩
                case measure => simp [intOf]; omega
              · have hkz2 : (0 : Int) < (t : Int) := by omega
                have hkn2 : decide (0 < t) = true := by simp; omega
                have HE := Lib.hid (HS2.out (by omega))
                clear t0 HS1 HS2
                have n1 : ¬ 9223372036854775807 < V.length + 1 := by omega
                have n2 : ¬ 9223372036854775807 < V.length + 1 + z.length := by omega
                go_wp2
                go_round
                case rel => exact ⟨t + 1, V ++ [44] ++ z, by omega, by go_num, (congrArg Value.string (ByteArray.ext (by simp))), Lib.hid HE.out.symm, by rw [← HE.out]; exact HSl.out⟩
                case measure => simp [intOf]; omega
            · obtain rfl : t = vals.length := by omega
              have HVe : Hid (V = Lib.join vals [44]) := Lib.hid (by rw [HVt.out]; unfold prS; rw [List.take_length])
              have hks : (⟨key.toArray⟩ : ByteArray).size ≤ 32 := by rw [ba_size]; exact hk32
              have hVl2 : V.length ≤ 528 := by rw [ba_size] at hVl; exact hVl
              have hQl2 : Q.length ≤ 12000 := by have := HQL.out; rw [ba_size] at this; exact this
              have n1 : ¬ 9223372036854775807 < Q.length + key.length := by omega
              rcases hkinds with ⟨hk34, hv0⟩ | ⟨hk12, hv1⟩
              · subst hv0
                have HV0 : Hid (V = []) := Lib.hid HVe.out
                rcases hk34 with rfl | rfl
                · have HCT : Hid (clTx ⟨3, key, la, [], lc⟩ = key) := Lib.hid rfl
                  go_wp2
                  go_roundw
                  case rel => exact ⟨k + 1, Q ++ clTx ⟨3, key, la, [], lc⟩, by omega, by go_num, (by rw [HCT.out]; exact congrArg Value.string (ByteArray.ext (by simp))), Lib.hid HJ.out.symm, HT2, HB1⟩
                  case measure => simp [intOf]; omega
                · have HCT : Hid (clTx ⟨4, key, la, [], lc⟩ = [33] ++ key) := Lib.hid rfl
                  have m0 : ¬ 9223372036854775807 < Q.length + 1 := by omega
                  have m1 : ¬ 9223372036854775807 < Q.length + 1 + key.length := by omega
                  go_wp2
                  go_roundw
                  case rel => exact ⟨k + 1, Q ++ clTx ⟨4, key, la, [], lc⟩, by omega, by go_num, (by rw [HCT.out]; exact congrArg Value.string (ByteArray.ext (by simp))), Lib.hid HJ.out.symm, HT2, HB1⟩
                  case measure => simp [intOf]; omega
              · rcases vals with _ | ⟨x0, _ | ⟨x1, xr⟩⟩
                · simp at hv1
                · have HV0 : Hid (V = x0) := Lib.hid (by rw [HVe.out, Lib.join_one])
                  have hln : (([x0] : List Bytes).length : Int) = 1 := rfl
                  rcases hk12 with rfl | rfl
                  · have HCT : Hid (clTx ⟨1, key, la, [x0], lc⟩ = key ++ [61] ++ V) := Lib.hid (by rw [HV0.out]; rfl)
                    have m0 : ¬ 9223372036854775807 < Q.length + key.length + 1 := by omega
                    have m1 : ¬ 9223372036854775807 < Q.length + key.length + 1 + V.length := by omega
                    go_wp2
                    go_roundw
                    case rel => exact ⟨k + 1, Q ++ clTx ⟨1, key, la, [x0], lc⟩, by omega, by go_num, (by rw [HCT.out]; exact congrArg Value.string (ByteArray.ext (by simp))), Lib.hid HJ.out.symm, HT2, HB1⟩
                    case measure => simp [intOf]; omega
                  · have HCT : Hid (clTx ⟨2, key, la, [x0], lc⟩ = key ++ [33, 61] ++ V) := Lib.hid (by rw [HV0.out]; rfl)
                    have m0 : ¬ 9223372036854775807 < Q.length + key.length + 2 := by omega
                    have m1 : ¬ 9223372036854775807 < Q.length + key.length + 2 + V.length := by omega
                    go_wp2
                    go_roundw
                    case rel => exact ⟨k + 1, Q ++ clTx ⟨2, key, la, [x0], lc⟩, by omega, by go_num, (by rw [HCT.out]; exact congrArg Value.string (ByteArray.ext (by simp))), Lib.hid HJ.out.symm, HT2, HB1⟩
                    case measure => simp [intOf]; omega
                · have HLX : Hid ((((x0 :: x1 :: xr : List Bytes).length : Int) == 1) = false) := Lib.hid (by simp only [List.length_cons, beq_eq_false_iff_ne]; omega)
                  have hlx := HLX.out
                  rcases hk12 with rfl | rfl
                  · have HCT : Hid (clTx ⟨1, key, la, x0 :: x1 :: xr, lc⟩ = key ++ [32, 105, 110, 32, 40] ++ V ++ [41]) := Lib.hid (by rw [HVe.out]; show key ++ [32, 105, 110, 32] ++ [40] ++ _ ++ [41] = _; simp)
                    have m0 : ¬ 9223372036854775807 < Q.length + key.length + 5 := by omega
                    have m1 : ¬ 9223372036854775807 < Q.length + key.length + 5 + V.length := by omega
                    have m2 : ¬ 9223372036854775807 < Q.length + key.length + 5 + V.length + 1 := by omega
                    go_wp2
                    go_roundw
                    case rel => exact ⟨k + 1, Q ++ clTx ⟨1, key, la, x0 :: x1 :: xr, lc⟩, by omega, by go_num, (by rw [HCT.out]; exact congrArg Value.string (ByteArray.ext (by simp))), Lib.hid HJ.out.symm, HT2, HB1⟩
                    case measure => simp [intOf]; omega
                  · have HCT : Hid (clTx ⟨2, key, la, x0 :: x1 :: xr, lc⟩ = key ++ [32, 110, 111, 116, 105, 110, 32, 40] ++ V ++ [41]) := Lib.hid (by rw [HVe.out]; show key ++ [32, 110, 111, 116, 105, 110, 32] ++ [40] ++ _ ++ [41] = _; simp)
                    have m0 : ¬ 9223372036854775807 < Q.length + key.length + 8 := by omega
                    have m1 : ¬ 9223372036854775807 < Q.length + key.length + 8 + V.length := by omega
                    have m2 : ¬ 9223372036854775807 < Q.length + key.length + 8 + V.length + 1 := by omega
                    go_wp2
                    go_roundw
                    case rel => exact ⟨k + 1, Q ++ clTx ⟨2, key, la, x0 :: x1 :: xr, lc⟩, by omega, by go_num, (by rw [HCT.out]; exact congrArg Value.string (ByteArray.ext (by simp))), Lib.hid HJ.out.symm, HT2, HB1⟩
                    case measure => simp [intOf]; omega
        · have hkz : (0 : Int) < (k : Int) := by omega
          have hkn : decide (0 < k) = true := by simp; omega
          have HJ := Lib.hid (HJ2.out (by omega))
          clear h0 HJ1 HJ2 HP0
          go_wp2_with (go_at_call 35; refine Calls.mono (by with_reducible exact HRt.out _ (Below.refl _ _)) ?_; rintro e w1 ⟨rfl, hb⟩; have HB1 := Lib.hid (HB.out.trans (hb.mono HB.out.size)); have HBr := Lib.hid hb; have d0 := cell_later hb c0; have d1 := cell_later hb c1; have d2 := cell_later hb c2; clear hb)
          have hcm : (⟨P.toArray⟩ : ByteArray) ++ ⟨#[44]⟩ = ⟨(P ++ [44]).toArray⟩ := ba_add P [44]
          rw [hcm]
          have hQL : (⟨(P ++ [44]).toArray⟩ : ByteArray).size ≤ 12000 := by rw [ba_size, List.length_append]; show P.length + 1 ≤ _; omega
          clear hcm hPs hPn hP0
          generalize P ++ [44] = Q at *
          have HQL := Lib.hid hQL
          have HV1 := Lib.hid (HV.out.later HBr.out)
          go_loop [5, 6] (fun v j => ∃ (t : Nat) (V : Bytes), t ≤ vals.length ∧ j = .int .i64 (t : Int) ∧ v = strV V ∧ Hid (V = prS vals t) ∧ (⟨V.toArray⟩ : ByteArray).size ≤ 33 * 16) (fun _ j => vals.length - (intOf j).toNat)
          case atStart => exact ⟨0, [], Nat.zero_le _, rfl, rfl, Lib.hid rfl, by rw [ba_size]; simp⟩
          case round =>
            obtain ⟨t, V, ht, rfl, rfl, HVt, hVl⟩ := hrel
            by_cases htl : t < vals.length
            · have htl' : (t : Int) < (vals.length : Int) := by omega
              have ht0 : (0 : Int) ≤ (t : Int) := by omega
              obtain ⟨g, q, rfl, v1, _⟩ := HV1.out t htl
              have hz : (⟨vals[t].toArray⟩ : ByteArray).size ≤ 32 := by rw [ba_size]; exact HV32.out _ (List.getElem_mem _)
              have hz2 : vals[t].length ≤ 32 := HV32.out _ (List.getElem_mem _)
              have hVl2 : V.length ≤ 528 := by rw [ba_size] at hVl; exact hVl
              have HS1 : Hid (t = 0 → prS vals (t + 1) = V ++ vals[t]) := Lib.hid (fun h => by
                have hV := HVt.out; subst h; rw [prS_one htl, hV]; rfl)
              have HS2 : Hid (0 < t → prS vals (t + 1) = V ++ [44] ++ vals[t]) := Lib.hid (fun h => by
                rw [HVt.out]; unfold prS; rw [join_succ htl h])
              have HSl : Hid ((⟨(prS vals (t + 1)).toArray⟩ : ByteArray).size ≤ 33 * 16) := Lib.hid (by
                rw [ba_size]; unfold prS
                have := join_lens (l := vals.take (t + 1)) (n := 32) (fun x hx => HV32.out x (List.mem_of_mem_take hx))
                have h2 : (vals.take (t + 1)).length ≤ 16 := by simp; omega
                exact Nat.le_trans this (Nat.mul_le_mul_left _ h2))
              generalize vals[t] = z at *
              by_cases t0 : t = 0
              · have hkz2 : ¬ ((0 : Int) < (t : Int)) := by omega
                have hkn2 : decide (0 < t) = false := by simp; omega
                have HE := Lib.hid (HS1.out t0)
                clear t0 HS1 HS2
                go_wp2
                go_round
                case rel => exact ⟨t + 1, V ++ z, by omega, by go_num, (congrArg Value.string (ByteArray.ext (by simp))), Lib.hid HE.out.symm, by rw [← HE.out]; exact HSl.out⟩
                case measure => simp [intOf]; omega
              · have hkz2 : (0 : Int) < (t : Int) := by omega
                have hkn2 : decide (0 < t) = true := by simp; omega
                have HE := Lib.hid (HS2.out (by omega))
                clear t0 HS1 HS2
                have n1 : ¬ 9223372036854775807 < V.length + 1 := by omega
                have n2 : ¬ 9223372036854775807 < V.length + 1 + z.length := by omega
                go_wp2
                go_round
                case rel => exact ⟨t + 1, V ++ [44] ++ z, by omega, by go_num, (congrArg Value.string (ByteArray.ext (by simp))), Lib.hid HE.out.symm, by rw [← HE.out]; exact HSl.out⟩
                case measure => simp [intOf]; omega
            · obtain rfl : t = vals.length := by omega
              have HVe : Hid (V = Lib.join vals [44]) := Lib.hid (by rw [HVt.out]; unfold prS; rw [List.take_length])
              have hks : (⟨key.toArray⟩ : ByteArray).size ≤ 32 := by rw [ba_size]; exact hk32
              have hVl2 : V.length ≤ 528 := by rw [ba_size] at hVl; exact hVl
              have hQl2 : Q.length ≤ 12000 := by have := HQL.out; rw [ba_size] at this; exact this
              have n1 : ¬ 9223372036854775807 < Q.length + key.length := by omega
              rcases hkinds with ⟨hk34, hv0⟩ | ⟨hk12, hv1⟩
              · subst hv0
                have HV0 : Hid (V = []) := Lib.hid HVe.out
                rcases hk34 with rfl | rfl
                · have HCT : Hid (clTx ⟨3, key, la, [], lc⟩ = key) := Lib.hid rfl
                  go_wp2
                  go_roundw
                  case rel => exact ⟨k + 1, Q ++ clTx ⟨3, key, la, [], lc⟩, by omega, by go_num, (by rw [HCT.out]; exact congrArg Value.string (ByteArray.ext (by simp))), Lib.hid HJ.out.symm, HT2, HB1⟩
                  case measure => simp [intOf]; omega
                · have HCT : Hid (clTx ⟨4, key, la, [], lc⟩ = [33] ++ key) := Lib.hid rfl
                  have m0 : ¬ 9223372036854775807 < Q.length + 1 := by omega
                  have m1 : ¬ 9223372036854775807 < Q.length + 1 + key.length := by omega
                  go_wp2
                  go_roundw
                  case rel => exact ⟨k + 1, Q ++ clTx ⟨4, key, la, [], lc⟩, by omega, by go_num, (by rw [HCT.out]; exact congrArg Value.string (ByteArray.ext (by simp))), Lib.hid HJ.out.symm, HT2, HB1⟩
                  case measure => simp [intOf]; omega
              · rcases vals with _ | ⟨x0, _ | ⟨x1, xr⟩⟩
                · simp at hv1
                · have HV0 : Hid (V = x0) := Lib.hid (by rw [HVe.out, Lib.join_one])
                  have hln : (([x0] : List Bytes).length : Int) = 1 := rfl
                  rcases hk12 with rfl | rfl
                  · have HCT : Hid (clTx ⟨1, key, la, [x0], lc⟩ = key ++ [61] ++ V) := Lib.hid (by rw [HV0.out]; rfl)
                    have m0 : ¬ 9223372036854775807 < Q.length + key.length + 1 := by omega
                    have m1 : ¬ 9223372036854775807 < Q.length + key.length + 1 + V.length := by omega
                    go_wp2
                    go_roundw
                    case rel => exact ⟨k + 1, Q ++ clTx ⟨1, key, la, [x0], lc⟩, by omega, by go_num, (by rw [HCT.out]; exact congrArg Value.string (ByteArray.ext (by simp))), Lib.hid HJ.out.symm, HT2, HB1⟩
                    case measure => simp [intOf]; omega
                  · have HCT : Hid (clTx ⟨2, key, la, [x0], lc⟩ = key ++ [33, 61] ++ V) := Lib.hid (by rw [HV0.out]; rfl)
                    have m0 : ¬ 9223372036854775807 < Q.length + key.length + 2 := by omega
                    have m1 : ¬ 9223372036854775807 < Q.length + key.length + 2 + V.length := by omega
                    go_wp2
                    go_roundw
                    case rel => exact ⟨k + 1, Q ++ clTx ⟨2, key, la, [x0], lc⟩, by omega, by go_num, (by rw [HCT.out]; exact congrArg Value.string (ByteArray.ext (by simp))), Lib.hid HJ.out.symm, HT2, HB1⟩
                    case measure => simp [intOf]; omega
                · have HLX : Hid ((((x0 :: x1 :: xr : List Bytes).length : Int) == 1) = false) := Lib.hid (by simp only [List.length_cons, beq_eq_false_iff_ne]; omega)
                  have hlx := HLX.out
                  rcases hk12 with rfl | rfl
                  · have HCT : Hid (clTx ⟨1, key, la, x0 :: x1 :: xr, lc⟩ = key ++ [32, 105, 110, 32, 40] ++ V ++ [41]) := Lib.hid (by rw [HVe.out]; show key ++ [32, 105, 110, 32] ++ [40] ++ _ ++ [41] = _; simp)
                    have m0 : ¬ 9223372036854775807 < Q.length + key.length + 5 := by omega
                    have m1 : ¬ 9223372036854775807 < Q.length + key.length + 5 + V.length := by omega
                    have m2 : ¬ 9223372036854775807 < Q.length + key.length + 5 + V.length + 1 := by omega
                    go_wp2
                    go_roundw
                    case rel => exact ⟨k + 1, Q ++ clTx ⟨1, key, la, x0 :: x1 :: xr, lc⟩, by omega, by go_num, (by rw [HCT.out]; exact congrArg Value.string (ByteArray.ext (by simp))), Lib.hid HJ.out.symm, HT2, HB1⟩
                    case measure => simp [intOf]; omega
                  · have HCT : Hid (clTx ⟨2, key, la, x0 :: x1 :: xr, lc⟩ = key ++ [32, 110, 111, 116, 105, 110, 32, 40] ++ V ++ [41]) := Lib.hid (by rw [HVe.out]; show key ++ [32, 110, 111, 116, 105, 110, 32] ++ [40] ++ _ ++ [41] = _; simp)
                    have m0 : ¬ 9223372036854775807 < Q.length + key.length + 8 := by omega
                    have m1 : ¬ 9223372036854775807 < Q.length + key.length + 8 + V.length := by omega
                    have m2 : ¬ 9223372036854775807 < Q.length + key.length + 8 + V.length + 1 := by omega
                    go_wp2
                    go_roundw
                    case rel => exact ⟨k + 1, Q ++ clTx ⟨2, key, la, x0 :: x1 :: xr, lc⟩, by omega, by go_num, (by rw [HCT.out]; exact congrArg Value.string (ByteArray.ext (by simp))), Lib.hid HJ.out.symm, HT2, HB1⟩
                    case measure => simp [intOf]; omega
    · obtain rfl : k = cs.length := by omega
      have HR := Lib.hid (HYes.out hcl (fun x hx => HF.out x (by rw [List.take_length]; exact hx)))
      have HP2 : Hid (P = R) := Lib.hid (by rw [HP.out, HR.out]; unfold prS; rw [List.take_of_length_le (by simp)])
      go_wp2
      go_ret
      exact ⟨by rw [← HP2.out]; rfl, HB.out⟩
end Go.Proofs.YtpkjllliidpgoaaGreatDoor
