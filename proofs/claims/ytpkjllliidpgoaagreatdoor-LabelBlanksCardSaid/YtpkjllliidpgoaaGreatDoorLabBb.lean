/- The law LabelBlanks. -/
import Derived.Test.YtpkjllliidpgoaaGreatDoorLabBa
set_option linter.unusedSimpArgs false
set_option linter.unusedVariables false
namespace Go.Proofs.YtpkjllliidpgoaaGreatDoor
open Go.ChangeShapes Go.WideShapes Go.ChangeAt Go.RowKit Go.Base Go.Lab

theorem bytes_oneL (l : Bytes) (k : Nat) (h : k < l.length) : (⟨l.toArray⟩ : ByteArray).extract k (k + 1) = ⟨[l[k]].toArray⟩ := by
  apply ByteArray.ext
  rw [ByteArray.data_extract]
  apply Array.ext'
  simp only [Array.toList_extract, List.extract_eq_take_drop, Nat.add_sub_cancel_left]
  rw [List.drop_eq_getElem_cons h]
  rfl
theorem pc_pad {cs : List Cl} (n : Nat) (h : printB cs ≠ []) (hl : (padB n (printB cs)).length ≤ 512) : parseB (padB n (printB cs)) = .ok (cs.map pcOf) := by
  rw [printB_pc] at h hl ⊢
  exact pad_back n h hl
theorem padB_succ (n : Nat) (t : Bytes) (k : Nat) (h : k < t.length) : padB n (t.take (k + 1)) = padB n (t.take k) ++ padOne n t[k] := by
  rw [List.take_succ_eq_append_getElem h, padB_app]
  unfold padB; simp
theorem padB_len (n : Nat) (hn : n ≤ 3) (t : Bytes) : (padB n t).length ≤ 7 * t.length := by
  unfold padB
  induction t with
  | nil => simp
  | cons c t ih =>
    rw [List.flatMap_cons, List.length_append, List.length_cons]
    have : (padOne n c).length ≤ 7 := by
      unfold padOne spB; split
      · simp; omega
      · simp
    omega
theorem u8_ne {c d : UInt8} (h : c ≠ d) : ((c.toNat : Int) == (d.toNat : Int)) = false := by
  simp only [beq_eq_false_iff_ne]
  intro e
  exact h (UInt8.toNat_inj.1 (by omega))
set_option maxHeartbeats 8000000 in
set_option maxRecDepth 20000 in
theorem law_blanks (A : Option Addr) (cs : List Cl) (c : Nat) (n : Int) (w : World) (hV : VarI w) (hC : Cls w A cs) (hm : cs.length ≤ maxLen) (hn0 : -9223372036854775808 ≤ n) (hn1 : n ≤ 9223372036854775807) :
    Calls Tryz.prog 6 #[.slice A cs.length c, .int .i64 n] w fun e w' => e = .returned (.bool true) ∧ Below w.heap.size w w' := by
  have HC := Lib.hid hC
  have HP := Lib.hid (print_any A cs c w hC hm)
  have HLi := Lib.hid (fun V (h : Below w.heap.size w V) => lives_any V (hV.later h))
  have HPa := Lib.hid (fun V (S : Bytes) (hS : S.length ≤ maxLen) (h : Below w.heap.size w V) => parse_l S hS V (hV.later h))
  have HBk := Lib.hid (fun m => @pc_pad cs m)
  have hln := printB_len cs
  generalize printB cs = T at *
  clear hV hC
  by_cases hT : T = []
  · subst hT
    go_enter Tryz.func6, Tryz.ntmps6
    go_wp2_with (first
      | (go_at_call 18; refine Calls.mono (by with_reducible exact HP.out) ?_; rintro e W1 ⟨rfl, hb⟩; have HB1 := Lib.hid hb; clear hb)
      | (go_at_call 12; refine Calls.mono (by with_reducible exact HLi.out _ HB1.out) ?_; rintro e W2 ⟨rfl, hb⟩; have HB2 := Lib.hid (HB1.out.trans (hb.mono HB1.out.size)); clear hb)
      | (go_at_call 12; refine Calls.mono (by with_reducible exact HLi.out _ HB2.out) ?_; rintro e W3 ⟨rfl, hb⟩; have HB3 := Lib.hid (HB2.out.trans (hb.mono HB2.out.size)); clear hb))
    go_ret
    exact ⟨rfl, HB3.out⟩
  have hTe : T.isEmpty = false := by cases T with
    | nil => exact absurd rfl hT
    | cons x xs => rfl
  have HT := Lib.hid hT
  clear hT
  by_cases hneg : n < 0
  · go_enter Tryz.func6, Tryz.ntmps6
    go_wp2_with (first
      | (go_at_call 18; refine Calls.mono (by with_reducible exact HP.out) ?_; rintro e W1 ⟨rfl, hb⟩; have HB1 := Lib.hid hb; clear hb)
      | (go_at_call 12; refine Calls.mono (by with_reducible exact HLi.out _ HB1.out) ?_; rintro e W2 ⟨rfl, hb⟩; have HB2 := Lib.hid (HB1.out.trans (hb.mono HB1.out.size)); clear hb)
      | (go_at_call 12; refine Calls.mono (by with_reducible exact HLi.out _ HB2.out) ?_; rintro e W3 ⟨rfl, hb⟩; have HB3 := Lib.hid (HB2.out.trans (hb.mono HB2.out.size)); clear hb))
    go_ret
    exact ⟨rfl, HB3.out⟩
  by_cases hbig : 3 < n
  · go_enter Tryz.func6, Tryz.ntmps6
    go_wp2_with (first
      | (go_at_call 18; refine Calls.mono (by with_reducible exact HP.out) ?_; rintro e W1 ⟨rfl, hb⟩; have HB1 := Lib.hid hb; clear hb)
      | (go_at_call 12; refine Calls.mono (by with_reducible exact HLi.out _ HB1.out) ?_; rintro e W2 ⟨rfl, hb⟩; have HB2 := Lib.hid (HB1.out.trans (hb.mono HB1.out.size)); clear hb)
      | (go_at_call 12; refine Calls.mono (by with_reducible exact HLi.out _ HB2.out) ?_; rintro e W3 ⟨rfl, hb⟩; have HB3 := Lib.hid (HB2.out.trans (hb.mono HB2.out.size)); clear hb))
    go_ret
    exact ⟨rfl, HB3.out⟩
  obtain ⟨m, rfl⟩ : ∃ m : Nat, n = (m : Int) := ⟨n.toNat, by omega⟩
  have hm3 : m ≤ 3 := by omega
  have hm3' : (m : Int) ≤ 3 := by omega
  have hm0 : (0 : Int) ≤ (m : Int) := by omega
  have HBL : Hid ((⟨#[32, 32, 32]⟩ : ByteArray).extract 0 m = ⟨(spB m).toArray⟩) := Lib.hid (by
    rcases (by omega : m = 0 ∨ m = 1 ∨ m = 2 ∨ m = 3) with rfl | rfl | rfl | rfl <;> rfl)
  have HBm := Lib.hid (HBk.out m HT.out)
  have HPs := Lib.hid (padB_succ m T)
  have HPl : Hid (∀ k, (padB m (T.take k)).length ≤ 140000) := Lib.hid (fun k => by
    have := padB_len m hm3 (T.take k)
    have h2 : (T.take k).length ≤ 20000 := by rw [List.length_take]; omega
    omega)
  have HPO : Hid (∀ b, padOne m b = if marked b then spB m ++ [b] ++ spB m else [b]) := Lib.hid (fun b => rfl)
  have hsl : (spB m).length ≤ 3 := by unfold spB; simp; exact hm3
  have hT' : (T.length : Int) ≤ 20000 := by omega
  clear hneg hbig hn0 hn1
  go_enter Tryz.func6, Tryz.ntmps6
  go_wp2_with (first
    | (go_at_call 18; refine Calls.mono (by with_reducible exact HP.out) ?_; rintro e W1 ⟨rfl, hb⟩; have HB1 := Lib.hid hb; clear hb)
    | (go_at_call 12; refine Calls.mono (by with_reducible exact HLi.out _ HB1.out) ?_; rintro e W2 ⟨rfl, hb⟩; have HB2 := Lib.hid (HB1.out.trans (hb.mono HB1.out.size)); clear hb))
  rw [HBL.out]
  generalize spB m = bl at *
  go_loop [7, 8] (fun s i => ∃ (k : Nat) (S : Bytes), k ≤ T.length ∧ i = .int .i64 (k : Int) ∧ s = strV S ∧ Hid (S = padB m (T.take k))) (fun _ i => T.length - (intOf i).toNat)
  case atStart => exact ⟨0, [], Nat.zero_le _, rfl, rfl, Lib.hid rfl⟩
  case round =>
    obtain ⟨k, S, hk, rfl, rfl, HS⟩ := hrel
    have hSl : S.length ≤ 140000 := by rw [HS.out]; exact HPl.out k
    by_cases hlt : k < T.length
    · have hlt' : (k : Int) < (T.length : Int) := by omega
      have hk0 : (0 : Int) ≤ (k : Int) := by omega
      have hk1 : (0 : Int) ≤ (k : Int) + 1 := by omega
      have hk63 : IntKind.i64.wrap ((k : Int) + 1) = (k : Int) + 1 := by rw [IntKind.wrap_i64]; omega
      have hkT : (k : Int) + 1 ≤ (T.length : Int) := by omega
      have hkn : ((k : Int) + 1).toNat = k + 1 := by omega
      have hsz : k < (⟨T.toArray⟩ : ByteArray).size := hlt
      have hat : (⟨T.toArray⟩ : ByteArray)[k]'hsz = T[k] := rfl
      have hex := bytes_oneL T k hlt
      have HN := Lib.hid (HPs.out k hlt)
      generalize T[k] = b at *
      have HNo := HPO.out b
      have n1 : ¬ 9223372036854775807 < S.length + bl.length := by omega
      have n2 : ¬ 9223372036854775807 < S.length + bl.length + 1 := by omega
      have n3 : ¬ 9223372036854775807 < S.length + bl.length + 1 + bl.length := by omega
      have n4 : ¬ 9223372036854775807 < S.length + 1 := by omega
      by_cases h44 : b = 44
      · subst h44
        have e1 : (((44 : UInt8).toNat : Int) == 44) = true := by decide
        have HE : Hid (padB m (T.take (k + 1)) = S ++ bl ++ [44] ++ bl) := Lib.hid (by rw [HN.out, HNo, if_pos (by decide), ← HS.out]; try simp)
        clear HNo HN
        go_wp2
        go_round
        case rel => exact ⟨k + 1, S ++ bl ++ [44] ++ bl, by omega, by go_num, (congrArg Value.string (ByteArray.ext (by simp))), Lib.hid HE.out.symm⟩
        case measure => simp [intOf]; omega
      have d44 : ((b.toNat : Int) == 44) = false := u8_ne h44
      by_cases h40 : b = 40
      · subst h40
        have e1 : (((40 : UInt8).toNat : Int) == 40) = true := by decide
        have HE : Hid (padB m (T.take (k + 1)) = S ++ bl ++ [40] ++ bl) := Lib.hid (by rw [HN.out, HNo, if_pos (by decide), ← HS.out]; try simp)
        clear HNo HN
        go_wp2
        go_round
        case rel => exact ⟨k + 1, S ++ bl ++ [40] ++ bl, by omega, by go_num, (congrArg Value.string (ByteArray.ext (by simp))), Lib.hid HE.out.symm⟩
        case measure => simp [intOf]; omega
      have d40 : ((b.toNat : Int) == 40) = false := u8_ne h40
      by_cases h41 : b = 41
      · subst h41
        have e1 : (((41 : UInt8).toNat : Int) == 41) = true := by decide
        have HE : Hid (padB m (T.take (k + 1)) = S ++ bl ++ [41] ++ bl) := Lib.hid (by rw [HN.out, HNo, if_pos (by decide), ← HS.out]; try simp)
        clear HNo HN
        go_wp2
        go_round
        case rel => exact ⟨k + 1, S ++ bl ++ [41] ++ bl, by omega, by go_num, (congrArg Value.string (ByteArray.ext (by simp))), Lib.hid HE.out.symm⟩
        case measure => simp [intOf]; omega
      have d41 : ((b.toNat : Int) == 41) = false := u8_ne h41
      have hmk : ¬ marked b = true := by unfold marked; simp [h44, h40, h41]
      have HE : Hid (padB m (T.take (k + 1)) = S ++ [b]) := Lib.hid (by rw [HN.out, HNo, if_neg hmk, ← HS.out]; try simp)
      clear HNo HN
      go_wp2
      go_round
      case rel => exact ⟨k + 1, S ++ [b], by omega, by go_num, (congrArg Value.string (ByteArray.ext (by simp))), Lib.hid HE.out.symm⟩
      case measure => simp [intOf]; omega
    · obtain rfl : k = T.length := by omega
      have HSe : Hid (S = padB m T) := Lib.hid (by rw [HS.out, List.take_length])
      clear hk hlt HS
      by_cases h512 : 512 < S.length
      · have h512' : (512 : Int) < (S.length : Int) := by omega
        go_wp2
        go_ret
        exact ⟨rfl, HB2.out⟩
      have h512' : (S.length : Int) ≤ 512 := by omega
      by_cases t512 : 512 < T.length
      · have t512' : (512 : Int) < (T.length : Int) := by omega
        go_wp2
        go_ret
        exact ⟨rfl, HB2.out⟩
      have t512' : (T.length : Int) ≤ 512 := by omega
      have HPb := Lib.hid (HPa.out W2 S (by unfold maxLen; omega) HB2.out)
      rw [HSe.out, HBm.out (by rw [← HSe.out]; omega), ← HSe.out] at HPb
      have HLe : Hid ((cs.map pcOf).length = cs.length) := Lib.hid (by simp)
      clear h512 t512
      go_wp2_with (first
        | (go_at_call 20; refine Calls.mono (by with_reducible exact HPb.out) ?_; rintro e W4 ⟨_, h, hb⟩; obtain ⟨v, rfl, hr⟩ := h _ rfl; obtain ⟨A2, cap2, l2, rfl, h3, hl, hc2, _⟩ := hr.cls (n := cs.length) HLe.out; have HB4 := Lib.hid (HB2.out.trans (hb.mono HB2.out.size)); have HSm := Lib.hid (same_true A2 A l2 cs cs.length cap2 c W4 hc2 (HC.out.later HB4.out) h3 hl hm); clear hb h hr h3 hl hc2)
        | (go_at_call 21; refine Calls.mono (by with_reducible exact HSm.out) ?_; rintro e W5 ⟨rfl, hb⟩; have HB5 := Lib.hid (HB4.out.trans (hb.mono HB4.out.size)); clear hb))
      go_ret
      exact ⟨rfl, HB5.out⟩
end Go.Proofs.YtpkjllliidpgoaaGreatDoor
