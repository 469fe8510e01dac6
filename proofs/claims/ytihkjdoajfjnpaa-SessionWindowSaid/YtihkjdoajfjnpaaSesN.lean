/- Package session: tellOut. -/
import Derived.Test.YtihkjdoajfjnpaaSesM
set_option linter.unusedSimpArgs false
set_option linter.unusedVariables false
namespace Go.Ses
theorem someE_empty (m : Int) (l : Link) (fr to : Nat) : (someE m l fr to).isEmpty = decide (to ≤ fr) := by
  rw [Bool.eq_iff_iff, List.isEmpty_iff_length_eq_zero, someE_len]; simp; omega
theorem outL_again {m now : Int} {l : Link} (h : again now (actL now l) = true) : outL m now l = { useA (actL now l) now with sent := l.out.length, ackDue := false } := by
  have h1 : 0 < (actL now l).sent := by unfold again at h; simp at h; exact h.1
  have e : (outE m now l).isEmpty = false := by
    unfold outE againE
    rw [if_pos h]
    have : (someE m (actL now l) 0 (min (actL now l).sent.toNat 8)).isEmpty = false := by rw [someE_empty]; simp; omega
    cases hs : someE m (actL now l) 0 (min (actL now l).sent.toNat 8) with
    | nil => rw [hs] at this; cases this
    | cons a r => rfl
  have hf : firstL now (useA (actL now l) now) = useA (actL now l) now := by
    unfold firstL
    rw [if_neg (fun e => by have e1 : (actL now l).sent = 0 := e.1; omega)]
  unfold outL againL
  rw [if_pos h, hf, e, Bool.and_false]
theorem outL_pos {m now : Int} {l : Link} (h : again now (actL now l) = false) (h0 : ¬ (l.sent = 0 ∧ 0 < l.out.length)) : outL m now l = { actL now l with sent := l.out.length, ackDue := l.ackDue && decide (l.out.length ≤ l.sent.toNat) } := by
  have e : (outE m now l).isEmpty = decide (l.out.length ≤ l.sent.toNat) := by
    unfold outE againE
    rw [if_neg (by simp [h]), List.nil_append, someE_empty, (actL_out now l).2.1]
  have hf : firstL now (actL now l) = actL now l := by
    unfold firstL
    rw [(actL_out now l).2.1, (actL_out now l).1, if_neg h0]
  unfold outL againL
  rw [if_neg (by simp [h]), hf, e]
theorem outL_first {m now : Int} {l : Link} (h : again now (actL now l) = false) (h0 : l.sent = 0 ∧ 0 < l.out.length) : outL m now l = { useA (actL now l) now with sent := l.out.length, ackDue := l.ackDue && decide (l.out.length ≤ l.sent.toNat) } := by
  have e : (outE m now l).isEmpty = decide (l.out.length ≤ l.sent.toNat) := by
    unfold outE againE
    rw [if_neg (by simp [h]), List.nil_append, someE_empty, (actL_out now l).2.1]
  have hf : firstL now (actL now l) = useA (actL now l) now := by
    unfold firstL
    rw [(actL_out now l).2.1, (actL_out now l).1, if_pos h0]
  unfold outL againL
  rw [if_neg (by simp [h]), hf, e]
theorem someE_same (m : Int) {l l2 : Link} (h1 : l2.out = l.out) (h2 : l2.gone = l.gone) (h3 : l2.wanted = l.wanted) (h4 : l2.yours = l.yours) (fr to : Nat) : someE m l2 fr to = someE m l fr to := by
  unfold someE
  apply List.map_congr_left
  intro i _
  exact dataE_same m h1 h2 h3 h4 i
end Go.Ses
namespace Go.Proofs.Ytihkjdoajfjnpaa
open Go.ChangeShapes Go.WideShapes Go.ChangeAt Go.RowKit Go.Base Go.Ses

section
variable {F G : Nat → Prop} {w w1 w' W V : World} {p kb kt : Nat} {s s2 : Ss} {A At : Option Addr} {c ct : Nat} {vs : List SlV} {bm : Nat} {D : DataW Value} {q : Nat → Prop} {l : List EvV} {E : List Ev} {now : Int}
def EqB (a b : Bool) : Prop := a = b
theorem TkX.tks (h : TkX F p s A c vs bm D kb kt At ct l w W) : TkS F p s kb kt (l.map (·.e)) w W := ⟨A, c, vs, bm, D, At, ct, l, h, rfl⟩
theorem TkX.acts (h : TkX F p s A c vs bm D kb kt At ct l w W) (hac : s.l.acked = false) : TkX F p ⟨s.mine, actL now s.l⟩ A c vs bm D kb kt At ct l w (W.setCell ⟨p, 8, none⟩ (.bool false)) := by
  have hok := ok_actL (m := s.mine) (l := s.l) h.ses.ok now
  refine h.set 8 (.bool false) _ ?_ hok (actL_out now s.l).1 (actL_out now s.l).2.2.2.2.2.2.1 (actL_out now s.l).2.2.2.2.2.2.2.2
  unfold actL; rw [if_neg (by simp [hac])]; rfl
theorem TkX.actsU (h : TkX F p ⟨s.mine, Ses.useA s.l now⟩ A c vs bm D kb kt At ct l w W) (h0 : Ok s) (hac : s.l.acked = true) : TkX F p ⟨s.mine, actL now s.l⟩ A c vs bm D kb kt At ct l w (W.setCell ⟨p, 8, none⟩ (.bool false)) := by
  have hok := ok_actL (m := s.mine) (l := s.l) h0 now
  refine h.set 8 (.bool false) _ ?_ hok (actL_out now s.l).1 (actL_out now s.l).2.2.2.2.2.2.1 (actL_out now s.l).2.2.2.2.2.2.2.2
  unfold actL; rw [if_pos hac]; rfl
def OutPost (F : Nat → Prop) (p : Nat) (s : Ss) (kb kt : Nat) (E : List Ev) (now : Int) (w : World) (e : Ending) (W' : World) : Prop := e = .returned (.tuple #[]) ∧ TkS F p ⟨s.mine, outL s.mine now s.l⟩ kb kt (E ++ outE s.mine now s.l) w W'
/-- The end of tellOut: how many were sent is set. -/
theorem out_end (h : TkX F p s2 A c vs bm D kb kt At ct l w W) (hok : Ok ⟨s.mine, outL s.mine now s.l⟩) (hm : s2.mine = s.mine) (h2 : outL s.mine now s.l = { s2.l with sent := s.l.out.length }) (ho : s2.l.out = s.l.out) (hE : l.map (·.e) = E ++ outE s.mine now s.l) :
    TkS F p ⟨s.mine, outL s.mine now s.l⟩ kb kt (E ++ outE s.mine now s.l) w (W.setCell ⟨p, 7, none⟩ (.int .i64 (s.l.out.length : Int))) := by
  refine ⟨_, _, _, _, _, _, _, _, h.set 7 (.int .i64 (s.l.out.length : Int)) ⟨s.mine, outL s.mine now s.l⟩ ?_ hok ?_ ?_ ?_, hE⟩
  · obtain ⟨m2, l2⟩ := s2
    simp only at hm h2
    rw [h2, ← hm]; rfl
  · rw [h2]
  · rw [h2]
  · rw [h2]
set_option maxHeartbeats 8000000 in
set_option maxRecDepth 20000 in
theorem tellOut_any (h : TkX F p s A c vs bm D kb kt At ct l w W) (hl : l.length ≤ 40000) (hn : -9223372036854775808 ≤ now ∧ now ≤ 9223372036854775807) :
    Calls Try.prog 32 #[.pointer (some ⟨p, 1, none⟩), .int .i64 now, tellV kb kt] W (OutPost F p s kb kt (l.map (·.e)) now w) := by
  have HX := Lib.hid h
  have HN := Lib.hid hn
  have HLn : Hid ((l.map (·.e)).length ≤ 40000) := Lib.hid (by rw [List.length_map]; exact hl)
  obtain ⟨E, hE⟩ : ∃ E, E = l.map (·.e) := ⟨_, rfl⟩
  have HE := Lib.hid hE
  have HOkO := Lib.hid (ok_outL (m := s.mine) (l := s.l) h.ses.ok now)
  obtain ⟨a, ha⟩ : ∃ a : Nat, (a : Int) = s.l.sent := ⟨s.l.sent.toNat, by have := h.ses.ok.sent; omega⟩
  have HA := Lib.hid ha
  obtain ⟨n, hnn⟩ : ∃ n, n = s.l.out.length := ⟨_, rfl⟩
  have HNn := Lib.hid hnn
  have hav : a ≤ n := by have := h.ses.ok.sent; omega
  have hn64 : n ≤ 64 := by have := h.ses.ok.few; omega
  obtain ⟨ac, hac⟩ : ∃ b, b = s.l.acked := ⟨_, rfl⟩
  have HAc : Hid (EqB s.l.acked ac) := Lib.hid hac.symm
  obtain ⟨ov, hov⟩ : ∃ b, b = decide ((actL now s.l).aAt ≤ now) := ⟨_, rfl⟩
  have HOv : Hid (EqB (decide ((actL now s.l).aAt ≤ now)) ov) := Lib.hid hov.symm
  have c8 : W.cell? ⟨p, 8, none⟩ = some (.bool ac) := by rw [hac]; exact h.ses.c8
  have f8 := h.ses.free 8
  have c7 : W.cell? ⟨p, 7, none⟩ = some (.int .i64 (a : Int)) := by rw [ha]; exact h.ses.c7
  rw [← hE] at HLn ⊢
  clear h hl hn ha hnn hac hov hE
  cases ac with
  | true =>
    by_cases h0 : a = 0
    · subst h0
      by_cases h1 : n = 0
      · subst h1
        have HU0 := Lib.hid (callA HX.out.ses HN.out)
        go_enter Try.func32, Try.ntmps32
        go_wp2_with (first
          | (go_at_call 34; refine Calls.mono (by with_reducible exact HU0.out) ?_; rintro e w2 ⟨rfl, hh, hm⟩; have hx := HX.out.useA hh hm; clear c8 f8 c7; have c8 := hx.ses.c8; have f8 := hx.ses.free 8; have c7 : w2.cell? ⟨p, 7, none⟩ = some (.int .i64 0) := (by rw [show (0 : Int) = s.l.sent from HA.out]; exact hx.ses.c7); have hX1 := hx.actsU HX.out.ses.ok HAc.out; have HS1 := Lib.hid hX1.tks; rw [← HE.out] at HS1; have HT2 : Hid (Calls Try.prog 35 #[.pointer (some ⟨p, 1, none⟩), .int .i64 0, .int .i64 0, tellV kb kt] (w2.setCell ⟨p, 8, none⟩ (.bool false)) fun e W2 => e = .returned (.tuple #[]) ∧ TkS F p (sA ⟨s.mine, actL now s.l⟩ ((actL now s.l).ackDue && decide (0 ≤ 0))) kb kt (E ++ someE s.mine (actL now s.l) 0 0) w W2) := Lib.hid (tellSome_any HS1.out 0 0 (by show _ ≤ (actL now s.l).out.length; rw [(actL_out now s.l).1, ← HNn.out]; omega) (by have := HLn.out; omega)); have l6 : (w2.setCell ⟨p, 8, none⟩ (.bool false)).cell? ⟨p, 6, none⟩ = some (.slice A vs.length c) := hX1.ses.c6; have ln : vs.length = 0 := (by rw [HNn.out]; exact hX1.ses.len.trans (by rw [(actL_out now s.l).1])); rw [ln] at l6; clear hx hh hm hX1 ln)
          | (go_at_call 35; refine Calls.mono (by with_reducible exact HT2.out) ?_; rintro e w5 ⟨rfl, hS⟩; obtain ⟨B4, d4, us4, bn4, D4, At4, ct4, l4, hX4, hl4⟩ := hS; have HX4 := Lib.hid hX4; have HL4 := Lib.hid hl4; clear l6; have l6 : w5.cell? ⟨p, 6, none⟩ = some (.slice B4 us4.length d4) := hX4.ses.c6; have ln : us4.length = 0 := (by rw [HNn.out]; exact hX4.ses.len.trans (by show (actL now s.l).out.length = _; rw [(actL_out now s.l).1])); rw [ln] at l6; have j7 := hX4.ses.c7; have g7 := hX4.ses.free 7; have HU4 := Lib.hid (callA hX4.ses HN.out); clear hX4 hl4 ln))
        go_end0
        have hag : again now (actL now s.l) = false := by unfold again; rw [(actL_out now s.l).2.1, ← HA.out]; simp
        refine ⟨rfl, ?_⟩
        have hnz : ((0 : Int) : Int) = (s.l.out.length : Int) := by have := HNn.out; omega
        rw [hnz]
        refine out_end HX4.out HOkO.out rfl ?_ ?_ ?_
        · rw [outL_pos hag (fun e => by have h1 := e.1; have h2 := e.2; have := HNn.out; have := HA.out; omega)]
          rw [show s.l.sent.toNat = 0 by have := HA.out; omega, ← HNn.out]
          unfold sA
          simp [(actL_out now s.l).2.2.2.2.2.1]
        · exact (actL_out now s.l).1
        · rw [HL4.out]
          congr 1
          unfold outE againE
          rw [if_neg (by simp [hag]), List.nil_append, (actL_out now s.l).2.1, show s.l.sent.toNat = 0 by have := HA.out; omega, ← HNn.out]
      · have h1b : (0 : Int) < (n : Int) := by omega
        have HU0 := Lib.hid (callA HX.out.ses HN.out)
        go_enter Try.func32, Try.ntmps32
        go_wp2_with (first
          | (go_at_call 34; refine Calls.mono (by with_reducible exact HU0.out) ?_; rintro e w2 ⟨rfl, hh, hm⟩; have hx := HX.out.useA hh hm; clear c8 f8 c7; have c8 := hx.ses.c8; have f8 := hx.ses.free 8; have c7 : w2.cell? ⟨p, 7, none⟩ = some (.int .i64 0) := (by rw [show (0 : Int) = s.l.sent from HA.out]; exact hx.ses.c7); have hX1 := hx.actsU HX.out.ses.ok HAc.out; have HS1 := Lib.hid hX1.tks; rw [← HE.out] at HS1; have HT2 : Hid (Calls Try.prog 35 #[.pointer (some ⟨p, 1, none⟩), .int .i64 0, .int .i64 (n : Int), tellV kb kt] (w2.setCell ⟨p, 8, none⟩ (.bool false)) fun e W2 => e = .returned (.tuple #[]) ∧ TkS F p (sA ⟨s.mine, actL now s.l⟩ ((actL now s.l).ackDue && decide (n ≤ 0))) kb kt (E ++ someE s.mine (actL now s.l) 0 n) w W2) := Lib.hid (tellSome_any HS1.out 0 n (by show _ ≤ (actL now s.l).out.length; rw [(actL_out now s.l).1, ← HNn.out]; omega) (by have := HLn.out; omega)); have l6 : (w2.setCell ⟨p, 8, none⟩ (.bool false)).cell? ⟨p, 6, none⟩ = some (.slice A vs.length c) := hX1.ses.c6; have ln : vs.length = n := (by rw [HNn.out]; exact hX1.ses.len.trans (by rw [(actL_out now s.l).1])); rw [ln] at l6; clear hx hh hm hX1 ln)
          | (go_at_call 35; refine Calls.mono (by with_reducible exact HT2.out) ?_; rintro e w5 ⟨rfl, hS⟩; obtain ⟨B4, d4, us4, bn4, D4, At4, ct4, l4, hX4, hl4⟩ := hS; have HX4 := Lib.hid hX4; have HL4 := Lib.hid hl4; clear l6; have l6 : w5.cell? ⟨p, 6, none⟩ = some (.slice B4 us4.length d4) := hX4.ses.c6; have ln : us4.length = n := (by rw [HNn.out]; exact hX4.ses.len.trans (by show (actL now s.l).out.length = _; rw [(actL_out now s.l).1])); rw [ln] at l6; have j7 := hX4.ses.c7; have g7 := hX4.ses.free 7; have HU4 := Lib.hid (callA hX4.ses HN.out); clear hX4 hl4 ln)
          | (go_at_call 34; refine Calls.mono (by with_reducible exact HU4.out) ?_; rintro e w6 ⟨rfl, hh, hm⟩; have hx := HX4.out.useA hh hm; have HX5 := Lib.hid hx; clear l6 j7 g7; have l6 : w6.cell? ⟨p, 6, none⟩ = some (.slice B4 us4.length d4) := hx.ses.c6; have ln : us4.length = n := (by rw [HNn.out]; exact hx.ses.len.trans (by show (actL now s.l).out.length = _; rw [(actL_out now s.l).1])); rw [ln] at l6; have j7 := hx.ses.c7; have g7 := hx.ses.free 7; clear hx hh hm ln))
        go_end0
        have hag : again now (actL now s.l) = false := by unfold again; rw [(actL_out now s.l).2.1, ← HA.out]; simp
        refine ⟨rfl, ?_⟩
        have hnz : ((n : Int) : Int) = (s.l.out.length : Int) := by have := HNn.out; omega
        rw [hnz]
        refine out_end HX5.out HOkO.out rfl ?_ ?_ ?_
        · rw [outL_first hag ⟨HA.out.symm, by have := HNn.out; omega⟩]
          rw [show s.l.sent = 0 from HA.out.symm, ← HNn.out]
          unfold sA useA
          simp [(actL_out now s.l).2.2.2.2.2.1]
        · exact (actL_out now s.l).1
        · rw [HL4.out]
          congr 1
          unfold outE againE
          rw [if_neg (by simp [hag]), List.nil_append, (actL_out now s.l).2.1, show s.l.sent.toNat = 0 by have := HA.out; omega, ← HNn.out]
    have h0b : (0 : Int) < (a : Int) := by omega
    have h0c : ((a : Int) == 0) = false := by simp; omega
    cases ov with
    | false =>
      have HU0 := Lib.hid (callA HX.out.ses HN.out)
      go_enter Try.func32, Try.ntmps32
      go_wp2_with (first
        | (go_at_call 34; refine Calls.mono (by with_reducible exact HU0.out) ?_; rintro e w2 ⟨rfl, hh, hm⟩; have hx := HX.out.useA hh hm; clear c8 f8 c7; have c8 := hx.ses.c8; have f8 := hx.ses.free 8; have c7 : w2.cell? ⟨p, 7, none⟩ = some (.int .i64 (a : Int)) := (by rw [show ((a : Int) : Int) = s.l.sent from HA.out]; exact hx.ses.c7); have hX1 := hx.actsU HX.out.ses.ok HAc.out; have HS1 := Lib.hid hX1.tks; rw [← HE.out] at HS1; have HIs := Lib.hid (over_any (p := p) (k := 13) (actL now s.l).aAt (actL now s.l).aGap now _ hX1.ses.c13); rw [show decide ((actL now s.l).aAt ≤ now) = false from HOv.out] at HIs; have HT2 : Hid (Calls Try.prog 35 #[.pointer (some ⟨p, 1, none⟩), .int .i64 (a : Int), .int .i64 (n : Int), tellV kb kt] (w2.setCell ⟨p, 8, none⟩ (.bool false)) fun e W2 => e = .returned (.tuple #[]) ∧ TkS F p (sA ⟨s.mine, actL now s.l⟩ ((actL now s.l).ackDue && decide (n ≤ a))) kb kt (E ++ someE s.mine (actL now s.l) a n) w W2) := Lib.hid (tellSome_any HS1.out a n (by show _ ≤ (actL now s.l).out.length; rw [(actL_out now s.l).1, ← HNn.out]; omega) (by have := HLn.out; omega)); have l6 : (w2.setCell ⟨p, 8, none⟩ (.bool false)).cell? ⟨p, 6, none⟩ = some (.slice A vs.length c) := hX1.ses.c6; have ln : vs.length = n := (by rw [HNn.out]; exact hX1.ses.len.trans (by rw [(actL_out now s.l).1])); rw [ln] at l6; clear hx hh hm hX1 ln)
        | (go_at_call 33; refine Calls.mono (by with_reducible exact HIs.out) ?_; rintro e w9 ⟨rfl, rfl⟩)
        | (go_at_call 35; refine Calls.mono (by with_reducible exact HT2.out) ?_; rintro e w5 ⟨rfl, hS⟩; obtain ⟨B4, d4, us4, bn4, D4, At4, ct4, l4, hX4, hl4⟩ := hS; have HX4 := Lib.hid hX4; have HL4 := Lib.hid hl4; clear l6; have l6 : w5.cell? ⟨p, 6, none⟩ = some (.slice B4 us4.length d4) := hX4.ses.c6; have ln : us4.length = n := (by rw [HNn.out]; exact hX4.ses.len.trans (by show (actL now s.l).out.length = _; rw [(actL_out now s.l).1])); rw [ln] at l6; have j7 := hX4.ses.c7; have g7 := hX4.ses.free 7; have HU4 := Lib.hid (callA hX4.ses HN.out); clear hX4 hl4 ln))
      go_end0
      have hag : again now (actL now s.l) = false := by unfold again; rw [(actL_out now s.l).2.1, ← HA.out]; rw [Bool.decide_and, show decide ((actL now s.l).aAt ≤ now) = false from HOv.out]; simp
      refine ⟨rfl, ?_⟩
      have hnz : ((n : Int) : Int) = (s.l.out.length : Int) := by have := HNn.out; omega
      rw [hnz]
      refine out_end HX4.out HOkO.out rfl ?_ ?_ ?_
      · rw [outL_pos hag (fun e => by have h1 := e.1; have h2 := e.2; have := HNn.out; have := HA.out; omega)]
        rw [show s.l.sent.toNat = a by have := HA.out; omega, ← HNn.out]
        unfold sA
        simp [(actL_out now s.l).2.2.2.2.2.1]
      · exact (actL_out now s.l).1
      · rw [HL4.out]
        congr 1
        unfold outE againE
        rw [if_neg (by simp [hag]), List.nil_append, (actL_out now s.l).2.1, show s.l.sent.toNat = a by have := HA.out; omega, ← HNn.out]
    | true =>
      by_cases h8 : 8 < a
      · have h8b : (8 : Int) < (a : Int) := by omega
        have HU0 := Lib.hid (callA HX.out.ses HN.out)
        go_enter Try.func32, Try.ntmps32
        go_wp2_with (first
          | (go_at_call 34; refine Calls.mono (by with_reducible exact HU0.out) ?_; rintro e w2 ⟨rfl, hh, hm⟩; have hx := HX.out.useA hh hm; clear c8 f8 c7; have c8 := hx.ses.c8; have f8 := hx.ses.free 8; have c7 : w2.cell? ⟨p, 7, none⟩ = some (.int .i64 (a : Int)) := (by rw [show ((a : Int) : Int) = s.l.sent from HA.out]; exact hx.ses.c7); have hX1 := hx.actsU HX.out.ses.ok HAc.out; have HS1 := Lib.hid hX1.tks; rw [← HE.out] at HS1; have HIs := Lib.hid (over_any (p := p) (k := 13) (actL now s.l).aAt (actL now s.l).aGap now _ hX1.ses.c13); rw [show decide ((actL now s.l).aAt ≤ now) = true from HOv.out] at HIs; have HT1 : Hid (Calls Try.prog 35 #[.pointer (some ⟨p, 1, none⟩), .int .i64 0, .int .i64 8, tellV kb kt] (w2.setCell ⟨p, 8, none⟩ (.bool false)) fun e W2 => e = .returned (.tuple #[]) ∧ TkS F p (sA ⟨s.mine, actL now s.l⟩ ((actL now s.l).ackDue && decide (8 ≤ 0))) kb kt (E ++ someE s.mine (actL now s.l) 0 8) w W2) := Lib.hid (tellSome_any HS1.out 0 8 (by show _ ≤ (actL now s.l).out.length; rw [(actL_out now s.l).1, ← HNn.out]; omega) (by have := HLn.out; omega)); have l6 : (w2.setCell ⟨p, 8, none⟩ (.bool false)).cell? ⟨p, 6, none⟩ = some (.slice A vs.length c) := hX1.ses.c6; have ln : vs.length = n := (by rw [HNn.out]; exact hX1.ses.len.trans (by rw [(actL_out now s.l).1])); rw [ln] at l6; clear hx hh hm hX1 ln)
          | (go_at_call 33; refine Calls.mono (by with_reducible exact HIs.out) ?_; rintro e w9 ⟨rfl, rfl⟩)
          | (go_at_call 35; refine Calls.mono (by with_reducible exact HT1.out) ?_; rintro e w3 ⟨rfl, hS⟩; obtain ⟨B2, d2, us2, bn2, D2, At2, ct2, l2, hX2, hl2⟩ := hS; have HX2 := Lib.hid hX2; have HL2 := Lib.hid hl2; have HU2 := Lib.hid (callA hX2.ses HN.out); clear hX2 hl2 l6)
          | (go_at_call 34; refine Calls.mono (by with_reducible exact HU2.out) ?_; rintro e w4 ⟨rfl, hh, hm⟩; have hx := HX2.out.useA hh hm; have HX3 := Lib.hid hx; have HT2 : Hid (Calls Try.prog 35 #[.pointer (some ⟨p, 1, none⟩), .int .i64 (a : Int), .int .i64 (n : Int), tellV kb kt] w4 (fun e W2 => e = .returned (.tuple #[]) ∧ TkS F p (sA ⟨s.mine, useA (sA ⟨s.mine, actL now s.l⟩ ((actL now s.l).ackDue && decide (8 ≤ 0))).l now⟩ (((actL now s.l).ackDue && decide (8 ≤ 0)) && decide (n ≤ a))) kb kt ((E ++ someE s.mine (actL now s.l) 0 8) ++ someE s.mine (useA (sA ⟨s.mine, actL now s.l⟩ ((actL now s.l).ackDue && decide (8 ≤ 0))).l now) a n) w W2)) := Lib.hid (by rw [← HL2.out]; exact tellSome_any hx.tks a n (by show _ ≤ (actL now s.l).out.length; rw [(actL_out now s.l).1, ← HNn.out]; omega) (by rw [HL2.out, List.length_append, someE_len]; have := HLn.out; omega)); have l6 : w4.cell? ⟨p, 6, none⟩ = some (.slice B2 us2.length d2) := hx.ses.c6; have ln : us2.length = n := (by rw [HNn.out]; exact hx.ses.len.trans (by show (actL now s.l).out.length = _; rw [(actL_out now s.l).1])); rw [ln] at l6; clear hx hh hm ln)
          | (go_at_call 35; refine Calls.mono (by with_reducible exact HT2.out) ?_; rintro e w5 ⟨rfl, hS⟩; obtain ⟨B4, d4, us4, bn4, D4, At4, ct4, l4, hX4, hl4⟩ := hS; have HX4 := Lib.hid hX4; have HL4 := Lib.hid hl4; clear l6; have l6 : w5.cell? ⟨p, 6, none⟩ = some (.slice B4 us4.length d4) := hX4.ses.c6; have ln : us4.length = n := (by rw [HNn.out]; exact hX4.ses.len.trans (by show (actL now s.l).out.length = _; rw [(actL_out now s.l).1])); rw [ln] at l6; have j7 := hX4.ses.c7; have g7 := hX4.ses.free 7; clear hX4 hl4 ln))
        go_end0
        have hag : again now (actL now s.l) = true := by unfold again; rw [(actL_out now s.l).2.1, ← HA.out]; rw [Bool.decide_and, show decide ((actL now s.l).aAt ≤ now) = true from HOv.out]; simp; omega
        refine ⟨rfl, ?_⟩
        have hnz : ((n : Int) : Int) = (s.l.out.length : Int) := by have := HNn.out; omega
        rw [hnz]
        refine out_end HX4.out HOkO.out rfl ?_ ?_ ?_
        · rw [outL_again hag]
          unfold sA useA
          simp [show ¬ 8 = 0 by omega]
        · exact (actL_out now s.l).1
        · rw [HL4.out, List.append_assoc]
          congr 1
          unfold outE againE
          rw [if_pos hag, (actL_out now s.l).2.1, ← HA.out, ← HNn.out, Int.toNat_natCast, show min a 8 = 8 by omega]
          try congr 1
          try exact someE_same s.mine rfl rfl rfl rfl a n
      · have h8b : ¬ (8 : Int) < (a : Int) := by omega
        have HU0 := Lib.hid (callA HX.out.ses HN.out)
        go_enter Try.func32, Try.ntmps32
        go_wp2_with (first
          | (go_at_call 34; refine Calls.mono (by with_reducible exact HU0.out) ?_; rintro e w2 ⟨rfl, hh, hm⟩; have hx := HX.out.useA hh hm; clear c8 f8 c7; have c8 := hx.ses.c8; have f8 := hx.ses.free 8; have c7 : w2.cell? ⟨p, 7, none⟩ = some (.int .i64 (a : Int)) := (by rw [show ((a : Int) : Int) = s.l.sent from HA.out]; exact hx.ses.c7); have hX1 := hx.actsU HX.out.ses.ok HAc.out; have HS1 := Lib.hid hX1.tks; rw [← HE.out] at HS1; have HIs := Lib.hid (over_any (p := p) (k := 13) (actL now s.l).aAt (actL now s.l).aGap now _ hX1.ses.c13); rw [show decide ((actL now s.l).aAt ≤ now) = true from HOv.out] at HIs; have HT1 : Hid (Calls Try.prog 35 #[.pointer (some ⟨p, 1, none⟩), .int .i64 0, .int .i64 (a : Int), tellV kb kt] (w2.setCell ⟨p, 8, none⟩ (.bool false)) fun e W2 => e = .returned (.tuple #[]) ∧ TkS F p (sA ⟨s.mine, actL now s.l⟩ ((actL now s.l).ackDue && decide (a ≤ 0))) kb kt (E ++ someE s.mine (actL now s.l) 0 a) w W2) := Lib.hid (tellSome_any HS1.out 0 a (by show _ ≤ (actL now s.l).out.length; rw [(actL_out now s.l).1, ← HNn.out]; omega) (by have := HLn.out; omega)); have l6 : (w2.setCell ⟨p, 8, none⟩ (.bool false)).cell? ⟨p, 6, none⟩ = some (.slice A vs.length c) := hX1.ses.c6; have ln : vs.length = n := (by rw [HNn.out]; exact hX1.ses.len.trans (by rw [(actL_out now s.l).1])); rw [ln] at l6; clear hx hh hm hX1 ln)
          | (go_at_call 33; refine Calls.mono (by with_reducible exact HIs.out) ?_; rintro e w9 ⟨rfl, rfl⟩)
          | (go_at_call 35; refine Calls.mono (by with_reducible exact HT1.out) ?_; rintro e w3 ⟨rfl, hS⟩; obtain ⟨B2, d2, us2, bn2, D2, At2, ct2, l2, hX2, hl2⟩ := hS; have HX2 := Lib.hid hX2; have HL2 := Lib.hid hl2; have HU2 := Lib.hid (callA hX2.ses HN.out); clear hX2 hl2 l6)
          | (go_at_call 34; refine Calls.mono (by with_reducible exact HU2.out) ?_; rintro e w4 ⟨rfl, hh, hm⟩; have hx := HX2.out.useA hh hm; have HX3 := Lib.hid hx; have HT2 : Hid (Calls Try.prog 35 #[.pointer (some ⟨p, 1, none⟩), .int .i64 (a : Int), .int .i64 (n : Int), tellV kb kt] w4 (fun e W2 => e = .returned (.tuple #[]) ∧ TkS F p (sA ⟨s.mine, useA (sA ⟨s.mine, actL now s.l⟩ ((actL now s.l).ackDue && decide (a ≤ 0))).l now⟩ (((actL now s.l).ackDue && decide (a ≤ 0)) && decide (n ≤ a))) kb kt ((E ++ someE s.mine (actL now s.l) 0 a) ++ someE s.mine (useA (sA ⟨s.mine, actL now s.l⟩ ((actL now s.l).ackDue && decide (a ≤ 0))).l now) a n) w W2)) := Lib.hid (by rw [← HL2.out]; exact tellSome_any hx.tks a n (by show _ ≤ (actL now s.l).out.length; rw [(actL_out now s.l).1, ← HNn.out]; omega) (by rw [HL2.out, List.length_append, someE_len]; have := HLn.out; omega)); have l6 : w4.cell? ⟨p, 6, none⟩ = some (.slice B2 us2.length d2) := hx.ses.c6; have ln : us2.length = n := (by rw [HNn.out]; exact hx.ses.len.trans (by show (actL now s.l).out.length = _; rw [(actL_out now s.l).1])); rw [ln] at l6; clear hx hh hm ln)
          | (go_at_call 35; refine Calls.mono (by with_reducible exact HT2.out) ?_; rintro e w5 ⟨rfl, hS⟩; obtain ⟨B4, d4, us4, bn4, D4, At4, ct4, l4, hX4, hl4⟩ := hS; have HX4 := Lib.hid hX4; have HL4 := Lib.hid hl4; clear l6; have l6 : w5.cell? ⟨p, 6, none⟩ = some (.slice B4 us4.length d4) := hX4.ses.c6; have ln : us4.length = n := (by rw [HNn.out]; exact hX4.ses.len.trans (by show (actL now s.l).out.length = _; rw [(actL_out now s.l).1])); rw [ln] at l6; have j7 := hX4.ses.c7; have g7 := hX4.ses.free 7; clear hX4 hl4 ln))
        go_end0
        have hag : again now (actL now s.l) = true := by unfold again; rw [(actL_out now s.l).2.1, ← HA.out]; rw [Bool.decide_and, show decide ((actL now s.l).aAt ≤ now) = true from HOv.out]; simp; omega
        refine ⟨rfl, ?_⟩
        have hnz : ((n : Int) : Int) = (s.l.out.length : Int) := by have := HNn.out; omega
        rw [hnz]
        refine out_end HX4.out HOkO.out rfl ?_ ?_ ?_
        · rw [outL_again hag]
          unfold sA useA
          simp [show ¬ a = 0 by omega]
        · exact (actL_out now s.l).1
        · rw [HL4.out, List.append_assoc]
          congr 1
          unfold outE againE
          rw [if_pos hag, (actL_out now s.l).2.1, ← HA.out, ← HNn.out, Int.toNat_natCast, show min a 8 = a by omega]
          try congr 1
          try exact someE_same s.mine rfl rfl rfl rfl a n
  | false =>
    by_cases h0 : a = 0
    · subst h0
      by_cases h1 : n = 0
      · subst h1
        have hX1 := HX.out.acts (now := now) HAc.out
        have HS1 := Lib.hid hX1.tks
        rw [← HE.out] at HS1
        have HT2 : Hid (Calls Try.prog 35 #[.pointer (some ⟨p, 1, none⟩), .int .i64 0, .int .i64 0, tellV kb kt] (W.setCell ⟨p, 8, none⟩ (.bool false)) fun e W2 => e = .returned (.tuple #[]) ∧ TkS F p (sA ⟨s.mine, actL now s.l⟩ ((actL now s.l).ackDue && decide (0 ≤ 0))) kb kt (E ++ someE s.mine (actL now s.l) 0 0) w W2) := Lib.hid (tellSome_any HS1.out 0 0 (by show _ ≤ (actL now s.l).out.length; rw [(actL_out now s.l).1, ← HNn.out]; omega) (by have := HLn.out; omega))
        have l6 : (W.setCell ⟨p, 8, none⟩ (.bool false)).cell? ⟨p, 6, none⟩ = some (.slice A vs.length c) := hX1.ses.c6
        have ln : vs.length = 0 := by rw [HNn.out]; exact hX1.ses.len.trans (by rw [(actL_out now s.l).1])
        rw [ln] at l6
        clear hX1 ln
        go_enter Try.func32, Try.ntmps32
        go_wp2_with (first
          | (go_at_call 35; refine Calls.mono (by with_reducible exact HT2.out) ?_; rintro e w5 ⟨rfl, hS⟩; obtain ⟨B4, d4, us4, bn4, D4, At4, ct4, l4, hX4, hl4⟩ := hS; have HX4 := Lib.hid hX4; have HL4 := Lib.hid hl4; clear l6; have l6 : w5.cell? ⟨p, 6, none⟩ = some (.slice B4 us4.length d4) := hX4.ses.c6; have ln : us4.length = 0 := (by rw [HNn.out]; exact hX4.ses.len.trans (by show (actL now s.l).out.length = _; rw [(actL_out now s.l).1])); rw [ln] at l6; have j7 := hX4.ses.c7; have g7 := hX4.ses.free 7; have HU4 := Lib.hid (callA hX4.ses HN.out); clear hX4 hl4 ln))
        go_end0
        have hag : again now (actL now s.l) = false := by unfold again; rw [(actL_out now s.l).2.1, ← HA.out]; simp
        refine ⟨rfl, ?_⟩
        have hnz : ((0 : Int) : Int) = (s.l.out.length : Int) := by have := HNn.out; omega
        rw [hnz]
        refine out_end HX4.out HOkO.out rfl ?_ ?_ ?_
        · rw [outL_pos hag (fun e => by have h1 := e.1; have h2 := e.2; have := HNn.out; have := HA.out; omega)]
          rw [show s.l.sent.toNat = 0 by have := HA.out; omega, ← HNn.out]
          unfold sA
          simp [(actL_out now s.l).2.2.2.2.2.1]
        · exact (actL_out now s.l).1
        · rw [HL4.out]
          congr 1
          unfold outE againE
          rw [if_neg (by simp [hag]), List.nil_append, (actL_out now s.l).2.1, show s.l.sent.toNat = 0 by have := HA.out; omega, ← HNn.out]
      · have h1b : (0 : Int) < (n : Int) := by omega
        have hX1 := HX.out.acts (now := now) HAc.out
        have HS1 := Lib.hid hX1.tks
        rw [← HE.out] at HS1
        have HT2 : Hid (Calls Try.prog 35 #[.pointer (some ⟨p, 1, none⟩), .int .i64 0, .int .i64 (n : Int), tellV kb kt] (W.setCell ⟨p, 8, none⟩ (.bool false)) fun e W2 => e = .returned (.tuple #[]) ∧ TkS F p (sA ⟨s.mine, actL now s.l⟩ ((actL now s.l).ackDue && decide (n ≤ 0))) kb kt (E ++ someE s.mine (actL now s.l) 0 n) w W2) := Lib.hid (tellSome_any HS1.out 0 n (by show _ ≤ (actL now s.l).out.length; rw [(actL_out now s.l).1, ← HNn.out]; omega) (by have := HLn.out; omega))
        have l6 : (W.setCell ⟨p, 8, none⟩ (.bool false)).cell? ⟨p, 6, none⟩ = some (.slice A vs.length c) := hX1.ses.c6
        have ln : vs.length = n := by rw [HNn.out]; exact hX1.ses.len.trans (by rw [(actL_out now s.l).1])
        rw [ln] at l6
        clear hX1 ln
        go_enter Try.func32, Try.ntmps32
        go_wp2_with (first
          | (go_at_call 35; refine Calls.mono (by with_reducible exact HT2.out) ?_; rintro e w5 ⟨rfl, hS⟩; obtain ⟨B4, d4, us4, bn4, D4, At4, ct4, l4, hX4, hl4⟩ := hS; have HX4 := Lib.hid hX4; have HL4 := Lib.hid hl4; clear l6; have l6 : w5.cell? ⟨p, 6, none⟩ = some (.slice B4 us4.length d4) := hX4.ses.c6; have ln : us4.length = n := (by rw [HNn.out]; exact hX4.ses.len.trans (by show (actL now s.l).out.length = _; rw [(actL_out now s.l).1])); rw [ln] at l6; have j7 := hX4.ses.c7; have g7 := hX4.ses.free 7; have HU4 := Lib.hid (callA hX4.ses HN.out); clear hX4 hl4 ln)
          | (go_at_call 34; refine Calls.mono (by with_reducible exact HU4.out) ?_; rintro e w6 ⟨rfl, hh, hm⟩; have hx := HX4.out.useA hh hm; have HX5 := Lib.hid hx; clear l6 j7 g7; have l6 : w6.cell? ⟨p, 6, none⟩ = some (.slice B4 us4.length d4) := hx.ses.c6; have ln : us4.length = n := (by rw [HNn.out]; exact hx.ses.len.trans (by show (actL now s.l).out.length = _; rw [(actL_out now s.l).1])); rw [ln] at l6; have j7 := hx.ses.c7; have g7 := hx.ses.free 7; clear hx hh hm ln))
        go_end0
        have hag : again now (actL now s.l) = false := by unfold again; rw [(actL_out now s.l).2.1, ← HA.out]; simp
        refine ⟨rfl, ?_⟩
        have hnz : ((n : Int) : Int) = (s.l.out.length : Int) := by have := HNn.out; omega
        rw [hnz]
        refine out_end HX5.out HOkO.out rfl ?_ ?_ ?_
        · rw [outL_first hag ⟨HA.out.symm, by have := HNn.out; omega⟩]
          rw [show s.l.sent = 0 from HA.out.symm, ← HNn.out]
          unfold sA useA
          simp [(actL_out now s.l).2.2.2.2.2.1]
        · exact (actL_out now s.l).1
        · rw [HL4.out]
          congr 1
          unfold outE againE
          rw [if_neg (by simp [hag]), List.nil_append, (actL_out now s.l).2.1, show s.l.sent.toNat = 0 by have := HA.out; omega, ← HNn.out]
    have h0b : (0 : Int) < (a : Int) := by omega
    have h0c : ((a : Int) == 0) = false := by simp; omega
    cases ov with
    | false =>
      have hX1 := HX.out.acts (now := now) HAc.out
      have HS1 := Lib.hid hX1.tks
      rw [← HE.out] at HS1
      have HIs := Lib.hid (over_any (p := p) (k := 13) (actL now s.l).aAt (actL now s.l).aGap now _ hX1.ses.c13)
      rw [show decide ((actL now s.l).aAt ≤ now) = false from HOv.out] at HIs
      have HT2 : Hid (Calls Try.prog 35 #[.pointer (some ⟨p, 1, none⟩), .int .i64 (a : Int), .int .i64 (n : Int), tellV kb kt] (W.setCell ⟨p, 8, none⟩ (.bool false)) fun e W2 => e = .returned (.tuple #[]) ∧ TkS F p (sA ⟨s.mine, actL now s.l⟩ ((actL now s.l).ackDue && decide (n ≤ a))) kb kt (E ++ someE s.mine (actL now s.l) a n) w W2) := Lib.hid (tellSome_any HS1.out a n (by show _ ≤ (actL now s.l).out.length; rw [(actL_out now s.l).1, ← HNn.out]; omega) (by have := HLn.out; omega))
      have l6 : (W.setCell ⟨p, 8, none⟩ (.bool false)).cell? ⟨p, 6, none⟩ = some (.slice A vs.length c) := hX1.ses.c6
      have ln : vs.length = n := by rw [HNn.out]; exact hX1.ses.len.trans (by rw [(actL_out now s.l).1])
      rw [ln] at l6
      clear hX1 ln
      go_enter Try.func32, Try.ntmps32
      go_wp2_with (first
        | (go_at_call 33; refine Calls.mono (by with_reducible exact HIs.out) ?_; rintro e w9 ⟨rfl, rfl⟩)
        | (go_at_call 35; refine Calls.mono (by with_reducible exact HT2.out) ?_; rintro e w5 ⟨rfl, hS⟩; obtain ⟨B4, d4, us4, bn4, D4, At4, ct4, l4, hX4, hl4⟩ := hS; have HX4 := Lib.hid hX4; have HL4 := Lib.hid hl4; clear l6; have l6 : w5.cell? ⟨p, 6, none⟩ = some (.slice B4 us4.length d4) := hX4.ses.c6; have ln : us4.length = n := (by rw [HNn.out]; exact hX4.ses.len.trans (by show (actL now s.l).out.length = _; rw [(actL_out now s.l).1])); rw [ln] at l6; have j7 := hX4.ses.c7; have g7 := hX4.ses.free 7; have HU4 := Lib.hid (callA hX4.ses HN.out); clear hX4 hl4 ln))
      go_end0
      have hag : again now (actL now s.l) = false := by unfold again; rw [(actL_out now s.l).2.1, ← HA.out]; rw [Bool.decide_and, show decide ((actL now s.l).aAt ≤ now) = false from HOv.out]; simp
      refine ⟨rfl, ?_⟩
      have hnz : ((n : Int) : Int) = (s.l.out.length : Int) := by have := HNn.out; omega
      rw [hnz]
      refine out_end HX4.out HOkO.out rfl ?_ ?_ ?_
      · rw [outL_pos hag (fun e => by have h1 := e.1; have h2 := e.2; have := HNn.out; have := HA.out; omega)]
        rw [show s.l.sent.toNat = a by have := HA.out; omega, ← HNn.out]
        unfold sA
        simp [(actL_out now s.l).2.2.2.2.2.1]
      · exact (actL_out now s.l).1
      · rw [HL4.out]
        congr 1
        unfold outE againE
        rw [if_neg (by simp [hag]), List.nil_append, (actL_out now s.l).2.1, show s.l.sent.toNat = a by have := HA.out; omega, ← HNn.out]
    | true =>
      by_cases h8 : 8 < a
      · have h8b : (8 : Int) < (a : Int) := by omega
        have hX1 := HX.out.acts (now := now) HAc.out
        have HS1 := Lib.hid hX1.tks
        rw [← HE.out] at HS1
        have HIs := Lib.hid (over_any (p := p) (k := 13) (actL now s.l).aAt (actL now s.l).aGap now _ hX1.ses.c13)
        rw [show decide ((actL now s.l).aAt ≤ now) = true from HOv.out] at HIs
        have HT1 : Hid (Calls Try.prog 35 #[.pointer (some ⟨p, 1, none⟩), .int .i64 0, .int .i64 8, tellV kb kt] (W.setCell ⟨p, 8, none⟩ (.bool false)) fun e W2 => e = .returned (.tuple #[]) ∧ TkS F p (sA ⟨s.mine, actL now s.l⟩ ((actL now s.l).ackDue && decide (8 ≤ 0))) kb kt (E ++ someE s.mine (actL now s.l) 0 8) w W2) := Lib.hid (tellSome_any HS1.out 0 8 (by show _ ≤ (actL now s.l).out.length; rw [(actL_out now s.l).1, ← HNn.out]; omega) (by have := HLn.out; omega))
        have l6 : (W.setCell ⟨p, 8, none⟩ (.bool false)).cell? ⟨p, 6, none⟩ = some (.slice A vs.length c) := hX1.ses.c6
        have ln : vs.length = n := by rw [HNn.out]; exact hX1.ses.len.trans (by rw [(actL_out now s.l).1])
        rw [ln] at l6
        clear hX1 ln
        go_enter Try.func32, Try.ntmps32
        go_wp2_with (first
          | (go_at_call 33; refine Calls.mono (by with_reducible exact HIs.out) ?_; rintro e w9 ⟨rfl, rfl⟩)
          | (go_at_call 35; refine Calls.mono (by with_reducible exact HT1.out) ?_; rintro e w3 ⟨rfl, hS⟩; obtain ⟨B2, d2, us2, bn2, D2, At2, ct2, l2, hX2, hl2⟩ := hS; have HX2 := Lib.hid hX2; have HL2 := Lib.hid hl2; have HU2 := Lib.hid (callA hX2.ses HN.out); clear hX2 hl2 l6)
          | (go_at_call 34; refine Calls.mono (by with_reducible exact HU2.out) ?_; rintro e w4 ⟨rfl, hh, hm⟩; have hx := HX2.out.useA hh hm; have HX3 := Lib.hid hx; have HT2 : Hid (Calls Try.prog 35 #[.pointer (some ⟨p, 1, none⟩), .int .i64 (a : Int), .int .i64 (n : Int), tellV kb kt] w4 (fun e W2 => e = .returned (.tuple #[]) ∧ TkS F p (sA ⟨s.mine, useA (sA ⟨s.mine, actL now s.l⟩ ((actL now s.l).ackDue && decide (8 ≤ 0))).l now⟩ (((actL now s.l).ackDue && decide (8 ≤ 0)) && decide (n ≤ a))) kb kt ((E ++ someE s.mine (actL now s.l) 0 8) ++ someE s.mine (useA (sA ⟨s.mine, actL now s.l⟩ ((actL now s.l).ackDue && decide (8 ≤ 0))).l now) a n) w W2)) := Lib.hid (by rw [← HL2.out]; exact tellSome_any hx.tks a n (by show _ ≤ (actL now s.l).out.length; rw [(actL_out now s.l).1, ← HNn.out]; omega) (by rw [HL2.out, List.length_append, someE_len]; have := HLn.out; omega)); have l6 : w4.cell? ⟨p, 6, none⟩ = some (.slice B2 us2.length d2) := hx.ses.c6; have ln : us2.length = n := (by rw [HNn.out]; exact hx.ses.len.trans (by show (actL now s.l).out.length = _; rw [(actL_out now s.l).1])); rw [ln] at l6; clear hx hh hm ln)
          | (go_at_call 35; refine Calls.mono (by with_reducible exact HT2.out) ?_; rintro e w5 ⟨rfl, hS⟩; obtain ⟨B4, d4, us4, bn4, D4, At4, ct4, l4, hX4, hl4⟩ := hS; have HX4 := Lib.hid hX4; have HL4 := Lib.hid hl4; clear l6; have l6 : w5.cell? ⟨p, 6, none⟩ = some (.slice B4 us4.length d4) := hX4.ses.c6; have ln : us4.length = n := (by rw [HNn.out]; exact hX4.ses.len.trans (by show (actL now s.l).out.length = _; rw [(actL_out now s.l).1])); rw [ln] at l6; have j7 := hX4.ses.c7; have g7 := hX4.ses.free 7; clear hX4 hl4 ln))
        go_end0
        have hag : again now (actL now s.l) = true := by unfold again; rw [(actL_out now s.l).2.1, ← HA.out]; rw [Bool.decide_and, show decide ((actL now s.l).aAt ≤ now) = true from HOv.out]; simp; omega
        refine ⟨rfl, ?_⟩
        have hnz : ((n : Int) : Int) = (s.l.out.length : Int) := by have := HNn.out; omega
        rw [hnz]
        refine out_end HX4.out HOkO.out rfl ?_ ?_ ?_
        · rw [outL_again hag]
          unfold sA useA
          simp [show ¬ 8 = 0 by omega]
        · exact (actL_out now s.l).1
        · rw [HL4.out, List.append_assoc]
          congr 1
          unfold outE againE
          rw [if_pos hag, (actL_out now s.l).2.1, ← HA.out, ← HNn.out, Int.toNat_natCast, show min a 8 = 8 by omega]
          try congr 1
          try exact someE_same s.mine rfl rfl rfl rfl a n
      · have h8b : ¬ (8 : Int) < (a : Int) := by omega
        have hX1 := HX.out.acts (now := now) HAc.out
        have HS1 := Lib.hid hX1.tks
        rw [← HE.out] at HS1
        have HIs := Lib.hid (over_any (p := p) (k := 13) (actL now s.l).aAt (actL now s.l).aGap now _ hX1.ses.c13)
        rw [show decide ((actL now s.l).aAt ≤ now) = true from HOv.out] at HIs
        have HT1 : Hid (Calls Try.prog 35 #[.pointer (some ⟨p, 1, none⟩), .int .i64 0, .int .i64 (a : Int), tellV kb kt] (W.setCell ⟨p, 8, none⟩ (.bool false)) fun e W2 => e = .returned (.tuple #[]) ∧ TkS F p (sA ⟨s.mine, actL now s.l⟩ ((actL now s.l).ackDue && decide (a ≤ 0))) kb kt (E ++ someE s.mine (actL now s.l) 0 a) w W2) := Lib.hid (tellSome_any HS1.out 0 a (by show _ ≤ (actL now s.l).out.length; rw [(actL_out now s.l).1, ← HNn.out]; omega) (by have := HLn.out; omega))
        have l6 : (W.setCell ⟨p, 8, none⟩ (.bool false)).cell? ⟨p, 6, none⟩ = some (.slice A vs.length c) := hX1.ses.c6
        have ln : vs.length = n := by rw [HNn.out]; exact hX1.ses.len.trans (by rw [(actL_out now s.l).1])
        rw [ln] at l6
        clear hX1 ln
        go_enter Try.func32, Try.ntmps32
        go_wp2_with (first
          | (go_at_call 33; refine Calls.mono (by with_reducible exact HIs.out) ?_; rintro e w9 ⟨rfl, rfl⟩)
          | (go_at_call 35; refine Calls.mono (by with_reducible exact HT1.out) ?_; rintro e w3 ⟨rfl, hS⟩; obtain ⟨B2, d2, us2, bn2, D2, At2, ct2, l2, hX2, hl2⟩ := hS; have HX2 := Lib.hid hX2; have HL2 := Lib.hid hl2; have HU2 := Lib.hid (callA hX2.ses HN.out); clear hX2 hl2 l6)
          | (go_at_call 34; refine Calls.mono (by with_reducible exact HU2.out) ?_; rintro e w4 ⟨rfl, hh, hm⟩; have hx := HX2.out.useA hh hm; have HX3 := Lib.hid hx; have HT2 : Hid (Calls Try.prog 35 #[.pointer (some ⟨p, 1, none⟩), .int .i64 (a : Int), .int .i64 (n : Int), tellV kb kt] w4 (fun e W2 => e = .returned (.tuple #[]) ∧ TkS F p (sA ⟨s.mine, useA (sA ⟨s.mine, actL now s.l⟩ ((actL now s.l).ackDue && decide (a ≤ 0))).l now⟩ (((actL now s.l).ackDue && decide (a ≤ 0)) && decide (n ≤ a))) kb kt ((E ++ someE s.mine (actL now s.l) 0 a) ++ someE s.mine (useA (sA ⟨s.mine, actL now s.l⟩ ((actL now s.l).ackDue && decide (a ≤ 0))).l now) a n) w W2)) := Lib.hid (by rw [← HL2.out]; exact tellSome_any hx.tks a n (by show _ ≤ (actL now s.l).out.length; rw [(actL_out now s.l).1, ← HNn.out]; omega) (by rw [HL2.out, List.length_append, someE_len]; have := HLn.out; omega)); have l6 : w4.cell? ⟨p, 6, none⟩ = some (.slice B2 us2.length d2) := hx.ses.c6; have ln : us2.length = n := (by rw [HNn.out]; exact hx.ses.len.trans (by show (actL now s.l).out.length = _; rw [(actL_out now s.l).1])); rw [ln] at l6; clear hx hh hm ln)
          | (go_at_call 35; refine Calls.mono (by with_reducible exact HT2.out) ?_; rintro e w5 ⟨rfl, hS⟩; obtain ⟨B4, d4, us4, bn4, D4, At4, ct4, l4, hX4, hl4⟩ := hS; have HX4 := Lib.hid hX4; have HL4 := Lib.hid hl4; clear l6; have l6 : w5.cell? ⟨p, 6, none⟩ = some (.slice B4 us4.length d4) := hX4.ses.c6; have ln : us4.length = n := (by rw [HNn.out]; exact hX4.ses.len.trans (by show (actL now s.l).out.length = _; rw [(actL_out now s.l).1])); rw [ln] at l6; have j7 := hX4.ses.c7; have g7 := hX4.ses.free 7; clear hX4 hl4 ln))
        go_end0
        have hag : again now (actL now s.l) = true := by unfold again; rw [(actL_out now s.l).2.1, ← HA.out]; rw [Bool.decide_and, show decide ((actL now s.l).aAt ≤ now) = true from HOv.out]; simp; omega
        refine ⟨rfl, ?_⟩
        have hnz : ((n : Int) : Int) = (s.l.out.length : Int) := by have := HNn.out; omega
        rw [hnz]
        refine out_end HX4.out HOkO.out rfl ?_ ?_ ?_
        · rw [outL_again hag]
          unfold sA useA
          simp [show ¬ a = 0 by omega]
        · exact (actL_out now s.l).1
        · rw [HL4.out, List.append_assoc]
          congr 1
          unfold outE againE
          rw [if_pos hag, (actL_out now s.l).2.1, ← HA.out, ← HNn.out, Int.toNat_natCast, show min a 8 = a by omega]
          try congr 1
          try exact someE_same s.mine rfl rfl rfl rfl a n
end
end Go.Proofs.Ytihkjdoajfjnpaa
