/- The law LabelPrints: the program's text of a selector is the reference's, and says the selector again. -/
import Derived.Test.YtpkjllliidpgoaaGreatDoorLabPc
set_option linter.unusedSimpArgs false
set_option linter.unusedVariables false
namespace Go.Proofs.YtpkjllliidpgoaaGreatDoor
open Go.ChangeShapes Go.WideShapes Go.ChangeAt Go.RowKit Go.Base Go.Lab

theorem printB_len (cs : List Cl) : (printB cs).length ≤ 20000 := by
  unfold printB
  split
  · next h =>
    simp only [Bool.and_eq_true, decide_eq_true_eq] at h
    have hr := List.all_eq_true.1 h.2
    have := join_lens (l := cs.map clTx) (n := 700) (fun x hx => by
      obtain ⟨y, hy, rfl⟩ := List.mem_map.1 hx
      exact clT_len (hr y hy))
    rw [List.length_map] at this
    omega
  · simp
theorem pc_back {cs : List Cl} (h : printB cs ≠ []) : parseB (printB cs) = if 512 < (printB cs).length then .error (3, 0) else .ok (cs.map pcOf) := by
  rw [printB_pc] at h ⊢
  exact print_back h
theorem pc_few {cs : List Cl} (h : printB cs ≠ []) : cs.length ≤ 16 := by
  unfold printB at h
  split at h
  · next hh => simp only [Bool.and_eq_true, decide_eq_true_eq] at hh; exact hh.1
  · exact absurd rfl h
set_option maxHeartbeats 4000000 in
set_option maxRecDepth 20000 in
theorem law_prints (A : Option Addr) (cs : List Cl) (c : Nat) (w : World) (hV : VarI w) (hC : Cls w A cs) (hm : cs.length ≤ maxLen) :
    Calls Tryz.prog 4 #[.slice A cs.length c] w fun e w' => e = .returned (.bool true) ∧ Below w.heap.size w w' := by
  have HC := Lib.hid hC
  have HP := Lib.hid (print_any A cs c w hC hm)
  have HRp := Lib.hid (fun V (h : Below w.heap.size w V) => refPrint_any A cs c V (hC.later h) hm)
  have HLi := Lib.hid (fun V (h : Below w.heap.size w V) => lives_any V (hV.later h))
  have HPa := Lib.hid (fun V (h : Below w.heap.size w V) => parse_l (printB cs) (Nat.le_trans (printB_len cs) (by unfold maxLen; decide)) V (hV.later h))
  have HBk := Lib.hid (@pc_back cs)
  have HFw := Lib.hid (@pc_few cs)
  have hln := printB_len cs
  generalize printB cs = T at *
  have hnc : ((⟨T.toArray⟩ : ByteArray).toList == (⟨T.toArray⟩ : ByteArray).toList) = true := beq_self_eq_true _
  clear hV hC
  by_cases hT : T = []
  · subst hT
    go_enter Tryz.func4, Tryz.ntmps4
    go_wp2_with (first
      | (go_at_call 18; refine Calls.mono (by with_reducible exact HP.out) ?_; rintro e W1 ⟨rfl, hb⟩; have HB1 := Lib.hid hb; clear hb)
      | (go_at_call 12; refine Calls.mono (by with_reducible exact HLi.out _ HB1.out) ?_; rintro e W2 ⟨rfl, hb⟩; have HB2 := Lib.hid (HB1.out.trans (hb.mono HB1.out.size)); clear hb)
      | (go_at_call 19; refine Calls.mono (by with_reducible exact HRp.out _ HB2.out) ?_; rintro e W3 ⟨rfl, hb⟩; have HB3 := Lib.hid (HB2.out.trans (hb.mono HB2.out.size)); clear hb))
    go_ret
    exact ⟨rfl, HB3.out⟩
  · have hTe : T.isEmpty = false := by cases T with
      | nil => exact absurd rfl hT
      | cons x xs => rfl
    have hbk := HBk.out hT
    have hfw := HFw.out hT
    have HT := Lib.hid hT
    by_cases h512 : 512 < T.length
    · rw [if_pos h512] at hbk
      rw [hbk] at HPa
      have h512' : (512 : Int) < (T.length : Int) := by omega
      clear hbk hT
      go_enter Tryz.func4, Tryz.ntmps4
      go_wp2_with (first
        | (go_at_call 18; refine Calls.mono (by with_reducible exact HP.out) ?_; rintro e W1 ⟨rfl, hb⟩; have HB1 := Lib.hid hb; clear hb)
        | (go_at_call 12; refine Calls.mono (by with_reducible exact HLi.out _ HB1.out) ?_; rintro e W2 ⟨rfl, hb⟩; have HB2 := Lib.hid (HB1.out.trans (hb.mono HB1.out.size)); clear hb)
        | (go_at_call 19; refine Calls.mono (by with_reducible exact HRp.out _ HB2.out) ?_; rintro e W3 ⟨rfl, hb⟩; have HB3 := Lib.hid (HB2.out.trans (hb.mono HB2.out.size)); clear hb)
        | (go_at_call 20; refine Calls.mono (by with_reducible exact HPa.out _ HB3.out) ?_; rintro e W4 ⟨h, _, hb⟩; obtain rfl := h _ _ rfl; have HB4 := Lib.hid (HB3.out.trans (hb.mono HB3.out.size)); clear hb h))
      go_ret
      exact ⟨rfl, HB4.out⟩
    · rw [if_neg h512] at hbk
      rw [hbk] at HPa
      have h512' : (T.length : Int) ≤ 512 := by omega
      have hlen : (cs.map pcOf).length = cs.length := by simp
      have HLe := Lib.hid hlen
      clear hbk hT hlen
      go_enter Tryz.func4, Tryz.ntmps4
      go_wp2_with (first
        | (go_at_call 18; refine Calls.mono (by with_reducible exact HP.out) ?_; rintro e W1 ⟨rfl, hb⟩; have HB1 := Lib.hid hb; clear hb)
        | (go_at_call 12; refine Calls.mono (by with_reducible exact HLi.out _ HB1.out) ?_; rintro e W2 ⟨rfl, hb⟩; have HB2 := Lib.hid (HB1.out.trans (hb.mono HB1.out.size)); clear hb)
        | (go_at_call 19; refine Calls.mono (by with_reducible exact HRp.out _ HB2.out) ?_; rintro e W3 ⟨rfl, hb⟩; have HB3 := Lib.hid (HB2.out.trans (hb.mono HB2.out.size)); clear hb)
        | (go_at_call 20; refine Calls.mono (by with_reducible exact HPa.out _ HB3.out) ?_; rintro e W4 ⟨_, h, hb⟩; obtain ⟨v, rfl, hr⟩ := h _ rfl; obtain ⟨A2, cap2, l2, rfl, h3, hl, hc2, _⟩ := hr.cls (n := cs.length) HLe.out; have HB4 := Lib.hid (HB3.out.trans (hb.mono HB3.out.size)); have HSm := Lib.hid (same_true A2 A l2 cs cs.length cap2 c W4 hc2 (HC.out.later HB4.out) h3 hl hm); clear hb h hr h3 hl hc2)
        | (go_at_call 21; refine Calls.mono (by with_reducible exact HSm.out) ?_; rintro e W5 ⟨rfl, hb⟩; have HB5 := Lib.hid (HB4.out.trans (hb.mono HB4.out.size)); clear hb))
      go_ret
      exact ⟨rfl, HB5.out⟩
end Go.Proofs.YtpkjllliidpgoaaGreatDoor
