/- The law SessionWindow, walked. -/
import Derived.Test.YtihkjdoajfjnpaaSesY
set_option linter.unusedSimpArgs false
set_option linter.unusedVariables false
namespace Go.Ses
structure Win (s : Ss) (i : Nat) : Prop where
  mine : s.mine = 3
  yours : s.l.yours = 9
  knows : s.l.knows = true
  gone : s.l.gone = 0
  out : s.l.out.length = min i 64
  puts : s.l.puts = 0
theorem win_first : Win (onS (newS 3) ⟨1, 9, 3, 0, 0, []⟩).2 0 := by
  have h : onS (newS 3) ⟨1, 9, 3, 0, 0, []⟩ = (([], true, 0), (onS (newS 3) ⟨1, 9, 3, 0, 0, []⟩).2) := rfl
  exact ⟨rfl, rfl, rfl, rfl, rfl, rfl⟩
theorem win_step {s : Ss} {i : Nat} (h : Win s i) (b : Bytes) (hb : b.length ≤ 32768) : (sendS s b).1 = (if i < 64 then 0 else 2) ∧ Win (sendS s b).2 (i + 1) := by
  obtain ⟨h1, h2, h3, h4, h5, h6⟩ := h
  have a1 : ¬ 32768 < b.length := by omega
  have a2 : ¬ s.l.yours = 0 := by omega
  by_cases hi : i < 64
  · have a3 : ¬ (64 ≤ s.l.out.length ∨ 2147483647 < s.l.next) := by unfold Link.next; omega
    have e : sendS s b = (0, { s with l := { s.l with out := s.l.out ++ [b] } }) := by unfold sendS; rw [if_neg a1, if_neg a2, if_neg a3]
    rw [e, if_pos hi]
    refine ⟨rfl, ⟨h1, h2, h3, h4, ?_, h6⟩⟩
    show (s.l.out ++ [b]).length = _
    rw [List.length_append, h5, List.length_singleton]; omega
  · have a3 : (64 ≤ s.l.out.length ∨ 2147483647 < s.l.next) := by left; omega
    have e : sendS s b = (2, s) := by unfold sendS; rw [if_neg a1, if_neg a2, if_pos a3]
    rw [e, if_neg hi]
    exact ⟨rfl, ⟨h1, h2, h3, h4, by rw [h5]; show min i 64 = min (i + 1) 64; omega, h6⟩⟩
theorem win_fits {ack : Int} (h0 : 0 ≤ ack) (h1 : ack ≤ 64) : fitsB ⟨3, 9, 3, 0, ack, []⟩ = true := by
  unfold fitsB
  simp
  omega
theorem win_last {s : Ss} {i : Nat} (h : Win s i) {ack : Int} (h0 : 0 ≤ ack) (h1 : ack ≤ (min i 64 : Nat)) : ((onS s ⟨3, 9, 3, 0, ack, []⟩).2.l.out.length : Int) = ((min i 64 : Nat) : Int) - ack := by
  obtain ⟨g1, g2, g3, g4, g5, g6⟩ := h
  have hf : ¬ fitsB ⟨3, 9, 3, 0, ack, []⟩ = false := by rw [win_fits h0 (by omega)]; decide
  have hfr : freshL s ⟨3, 9, 3, 0, ack, []⟩ = s.l := by unfold freshL; rw [if_neg (by rw [g2]; exact (by decide : ¬ (9 : Int) < 9))]
  unfold onS
  rw [if_neg hf, if_neg (by rw [g2]; exact (by decide : ¬ (9 : Int) < 9)), if_neg (by rw [g1]; exact (by decide : ¬ (3 : Int) ≠ 3)), if_neg (show ¬ (3 : Int) = 1 by decide), if_pos rfl, hfr]
  show ((letGo { s.l with knows := true } ack).out.length : Int) = _
  unfold letGo
  split
  · rename_i e
    rcases e with e | e
    · have e2 : ack - s.l.gone ≤ 0 := e
      show (s.l.out.length : Int) = _
      rw [g5]; omega
    · exfalso
      have e2 : s.l.gone + s.l.out.length + 1 ≤ ack := e
      omega
  · show ((s.l.out.drop (ack - s.l.gone).toNat).length : Int) = _
    rw [List.length_drop, g5, g4]; omega
end Go.Ses
namespace Go.Proofs.Ytihkjdoajfjnpaa
open Go.ChangeShapes Go.WideShapes Go.ChangeAt Go.RowKit Go.Base Go.Ses

def WinR (w : World) (p : Nat) (s : Ss) (wr : World) : Prop := SE (fun k => w.heap.size ≤ k ∧ k < wr.heap.size) wr p s ∧ Below w.heap.size w wr
section
variable {w wr w' : World} {p : Nat} {s s2 : Ss}
theorem WinR.later (h : WinR w p s wr) (hb : Below wr.heap.size wr w') : WinR w p s w' :=
  ⟨((h.1.kept (Below.movedNew hb) (fun _ _ h => h) (Below.ku hb))).wide (fun k hk => ⟨hk.1, Nat.lt_of_lt_of_le hk.2 hb.size⟩), h.2.trans (hb.mono h.2.size)⟩
theorem WinR.op (h : WinR w p s wr) (hs : SE (fun k => (w.heap.size ≤ k ∧ k < wr.heap.size) ∨ wr.heap.size ≤ k) w' p s2) (hm : Moved (fun k => w.heap.size ≤ k ∧ k < wr.heap.size) wr w') : WinR w p s2 w' :=
  ⟨hs.tight.wide (fun k hk => ⟨by have := h.2.size; rcases hk.1 with h1 | h1 <;> omega, hk.2⟩), h.2.trans (hm.below (fun k _ hk => hk.1) h.2.size)⟩
theorem win_send (h : WinR w p s wr) (A0 : Option Addr) (b : Bytes) (c0 : Nat) (hy : Byt wr A0 b) (hm : b.length ≤ 9223372036854775807) : Calls Try.prog 11 #[.pointer (some ⟨p, 0, none⟩), .slice A0 b.length c0] wr fun e w' => e = .returned (.int .i64 (sendS s b).1) ∧ WinR w p (sendS s b).2 w' := by
  obtain ⟨A, c, vs, bm, D, hS⟩ := h.1
  refine Calls.mono (send_any hS A0 b c0 hy hm) ?_
  rintro e w' ⟨rfl, h1, h2, _⟩
  exact ⟨rfl, h.op h1 h2⟩
theorem win_on (h : WinR w p s wr) (v : Ev) (hv : v.body = []) (hf : fitsB v = true) (hp : s.l.puts = 0) : Calls Try.prog 10 #[.pointer (some ⟨p, 0, none⟩), .agg #[.int .i64 v.kind, .int .i64 v.mine, .int .i64 v.yours, .int .i64 v.seq, .int .i64 v.ack, .slice none 0 0]] wr fun e w' => (∃ a b c, e = .returned (.tuple #[a, b, c])) ∧ WinR w p (onS s v).2 w' := by
  obtain ⟨A, c, vs, bm, D, hS⟩ := h.1
  have := on_any hS (fun k hk => hk.2) v none 0 (.inl hv) hf (by omega)
  rw [hv] at this
  refine Calls.mono this ?_
  rintro e w' ⟨Ab, cb, bs, rfl, _, _, _, h1, h2, _⟩
  exact ⟨⟨_, _, _, rfl⟩, h.op h1 h2⟩
theorem win_look (h : WinR w p s wr) : Calls Try.prog 13 #[.pointer (some ⟨p, 0, none⟩)] wr (fun e w' => e = .returned (.bool s.l.knows) ∧ wr = w') ∧ Calls Try.prog 14 #[.pointer (some ⟨p, 0, none⟩)] wr (fun e w' => e = .returned (.int .i64 s.l.yours) ∧ wr = w') ∧ Calls Try.prog 15 #[.pointer (some ⟨p, 0, none⟩)] wr (fun e w' => e = .returned (.int .i64 (s.l.out.length : Int)) ∧ wr = w') := by
  obtain ⟨A, c, vs, bm, D, hS⟩ := h.1
  exact ⟨ready_any hS, yours_any hS, pending_any hS⟩
end
set_option maxHeartbeats 8000000 in
set_option maxRecDepth 20000 in
theorem law_window (n ack : Int) (hn : -9223372036854775808 ≤ n ∧ n ≤ 9223372036854775807) (ha : -9223372036854775808 ≤ ack ∧ ack ≤ 9223372036854775807) (w : World) : Calls Try.prog 5 #[.int .i64 n, .int .i64 ack] w fun e w' => e = .returned (.bool true) ∧ Below w.heap.size w w' := by
  have HNw := Lib.hid (new_any (m := 3) (by omega) w)
  have hk1 : -100 < n.tmod 100 := Int.lt_tmod_of_pos n (by decide)
  have hk2 : n.tmod 100 < 100 := Int.tmod_lt_of_pos n (by decide)
  obtain ⟨k, hk⟩ : ∃ k, k = n.tmod 100 := ⟨_, rfl⟩
  have HK := Lib.hid hk
  rw [← hk] at hk1 hk2
  clear hk
  go_enter Try.func5, Try.ntmps5
  go_wp2_with (first
    | (go_at_call 16; refine Calls.mono HNw.out ?_; rintro e w1 ⟨p, rfl, hs, hb⟩; have hw1 : WinR w p (newS 3) w1 := ⟨hs.tight, hb⟩; have HW1 := Lib.hid hw1; have HLv := Lib.hid (lives_any w1); clear hs hb hw1)
    | (go_at_call 7; refine Calls.mono HLv.out ?_; rintro e w2 ⟨rfl, hb2⟩; have HW2 := Lib.hid (HW1.out.later hb2); have HSn : Hid (Calls Try.prog 11 #[.pointer (some ⟨p, 0, none⟩), .slice none 0 0] w2 fun e w' => e = .returned (.int .i64 130) ∧ WinR w p (newS 3) w') := Lib.hid (win_send HW2.out none [] 0 (Byt.nil _ _) (by decide)); clear hb2)
    | (go_at_call 11; refine Calls.mono (by with_reducible exact HSn.out) ?_; rintro e w3 ⟨rfl, hw3⟩; have HOn := Lib.hid (win_on hw3 ⟨1, 9, 3, 0, 0, []⟩ rfl rfl rfl); clear hw3)
    | (go_at_call 10; refine Calls.mono HOn.out ?_; rintro e w4 ⟨⟨ra, rb, rc, rfl⟩, hw4⟩; have HW4 : Hid (∃ s, Win s 0 ∧ WinR w p s w4) := Lib.hid ⟨_, win_first, hw4⟩; clear hw4)
    | (rw [← HK.out]))
  try rw [← HK.out]
  clear HNw HLv HOn HSn HW1 HW2
  go_loopw [8] (fun iv wr => ∃ i : Nat, (i = 0 ∨ (i : Int) ≤ k) ∧ iv = .int .i64 (i : Int) ∧ Hid (∃ s, Win s i ∧ WinR w p s wr)) (fun iv _ => k.toNat - (intOf iv).toNat)
  case atStart => exact ⟨0, .inl rfl, rfl, HW4⟩
  case round =>
    obtain ⟨i, hik, rfl, H⟩ := hrel
    by_cases hlt : (i : Int) < k
    · obtain ⟨s, hs, hw⟩ := H.out
      have kw : IntKind.u8.wrap (i : Int) = (i : Int) := by rw [IntKind.wrap_u8]; omega
      obtain ⟨h1, h2⟩ := win_step hs [UInt8.ofNat i] (by simp)
      have hb : Byt (wr.alloc (.cells #[.int .u8 (i : Int)] 5)) (some ⟨wr.heap.size, 0, none⟩) [UInt8.ofNat i] := byt_new wr [UInt8.ofNat i] 5 (0, 0) #[.int .u8 (i : Int)] (by simp; omega)
      have hc := win_send (hw.later (below_alloc wr (.cells #[.int .u8 (i : Int)] 5))) (some ⟨wr.heap.size, 0, none⟩) [UInt8.ofNat i] 1 hb (by simp)
      have hi0 : (0 : Int) ≤ (i : Int) := by omega
      by_cases hi : i < 64
      · have hi' : ¬ (64 : Int) ≤ (i : Int) := by omega
        have hi2 : (i : Int) < 64 := by omega
        rw [if_pos hi] at h1
        rw [h1] at hc
        have HC := Lib.hid hc
        have HS2 := Lib.hid h2
        clear hs hw h1 h2 hb hc
        go_wp2_with (go_at_call 11; refine Calls.mono HC.out ?_; rintro e w5 ⟨rfl, hw5⟩; have HW5 := Lib.hid hw5; clear hw5)
        go_roundw
        case rel => exact ⟨i + 1, .inr (by omega), by go_num, Lib.hid ⟨_, HS2.out, HW5.out⟩⟩
        case measure => simp [intOf]; omega
      · have hi' : (64 : Int) ≤ (i : Int) := by omega
        have hi2 : ¬ (i : Int) < 64 := by omega
        rw [if_neg hi] at h1
        rw [h1] at hc
        have HC := Lib.hid hc
        have HS2 := Lib.hid h2
        clear hs hw h1 h2 hb hc
        go_wp2_with (go_at_call 11; refine Calls.mono HC.out ?_; rintro e w5 ⟨rfl, hw5⟩; have HW5 := Lib.hid hw5; clear hw5)
        go_roundw
        case rel => exact ⟨i + 1, .inr (by omega), by go_num, Lib.hid ⟨_, HS2.out, HW5.out⟩⟩
        case measure => simp [intOf]; omega
    · by_cases h64 : 64 < k
      · obtain ⟨s, hs, hw⟩ := H.out
        have hout : ((min i 64 : Nat) : Int) = 64 := by omega
        obtain ⟨hR, hY, hP⟩ := win_look hw
        rw [hs.knows] at hR
        rw [hs.yours] at hY
        rw [hs.out, hout] at hP
        have HR := Lib.hid hR
        have HY := Lib.hid hY
        have HP := Lib.hid hP
        have HS := Lib.hid hs
        have HWw := Lib.hid hw
        have HO := Lib.hid hout
        clear hR hY hP hs hw hout
        by_cases ha1 : ack < 0
        · go_wp2_with (first
            | (go_at_call 15; refine Calls.mono (by with_reducible exact HP.out) ?_; rintro e w5 ⟨rfl, rfl⟩)
            | (go_at_call 13; refine Calls.mono (by with_reducible exact HR.out) ?_; rintro e w5 ⟨rfl, rfl⟩)
            | (go_at_call 14; refine Calls.mono (by with_reducible exact HY.out) ?_; rintro e w5 ⟨rfl, rfl⟩))
          go_ret
          exact ⟨rfl, HWw.out.2⟩
        · by_cases ha2 : 64 < ack
          · go_wp2_with (first
              | (go_at_call 15; refine Calls.mono (by with_reducible exact HP.out) ?_; rintro e w5 ⟨rfl, rfl⟩)
              | (go_at_call 13; refine Calls.mono (by with_reducible exact HR.out) ?_; rintro e w5 ⟨rfl, rfl⟩)
              | (go_at_call 14; refine Calls.mono (by with_reducible exact HY.out) ?_; rintro e w5 ⟨rfl, rfl⟩))
            go_ret
            exact ⟨rfl, HWw.out.2⟩
          · have kw : IntKind.i64.wrap (64 - ack) = 64 - ack := by rw [IntKind.wrap_i64]; omega
            have HOn := Lib.hid (win_on HWw.out ⟨3, 9, 3, 0, ack, []⟩ rfl (win_fits (by omega) (by omega)) HS.out.puts)
            have HLs : Hid (((onS s ⟨3, 9, 3, 0, ack, []⟩).2.l.out.length : Int) = 64 - ack) := Lib.hid (by rw [win_last HS.out (by omega) (by have := HO.out; omega), HO.out])
            go_wp2_with (first
              | (go_at_call 15; refine Calls.mono (by with_reducible exact HP.out) ?_; rintro e w5 ⟨rfl, rfl⟩)
              | (go_at_call 13; refine Calls.mono (by with_reducible exact HR.out) ?_; rintro e w5 ⟨rfl, rfl⟩)
              | (go_at_call 14; refine Calls.mono (by with_reducible exact HY.out) ?_; rintro e w5 ⟨rfl, rfl⟩)
              | (go_at_call 10; refine Calls.mono HOn.out ?_; rintro e w6 ⟨⟨ra, rb, rc, rfl⟩, hw6⟩; have HW6 := Lib.hid hw6; have hP6 := (win_look hw6).2.2; rw [HLs.out] at hP6; have HP6 := Lib.hid hP6; clear hP6 hw6)
              | (go_at_call 15; refine Calls.mono (by with_reducible exact HP6.out) ?_; rintro e w7 ⟨rfl, rfl⟩))
            go_ret
            exact ⟨rfl, HW6.out.2⟩
      · by_cases h0 : k < 0
        · obtain ⟨s, hs, hw⟩ := H.out
          have hout : ((min i 64 : Nat) : Int) = 0 := by omega
          obtain ⟨hR, hY, hP⟩ := win_look hw
          rw [hs.knows] at hR
          rw [hs.yours] at hY
          rw [hs.out, hout] at hP
          have HR := Lib.hid hR
          have HY := Lib.hid hY
          have HP := Lib.hid hP
          have HS := Lib.hid hs
          have HWw := Lib.hid hw
          have HO := Lib.hid hout
          clear hR hY hP hs hw hout
          by_cases ha1 : ack < 0
          · go_wp2_with (first
              | (go_at_call 15; refine Calls.mono (by with_reducible exact HP.out) ?_; rintro e w5 ⟨rfl, rfl⟩)
              | (go_at_call 13; refine Calls.mono (by with_reducible exact HR.out) ?_; rintro e w5 ⟨rfl, rfl⟩)
              | (go_at_call 14; refine Calls.mono (by with_reducible exact HY.out) ?_; rintro e w5 ⟨rfl, rfl⟩))
            go_ret
            exact ⟨rfl, HWw.out.2⟩
          · by_cases ha2 : 0 < ack
            · go_wp2_with (first
                | (go_at_call 15; refine Calls.mono (by with_reducible exact HP.out) ?_; rintro e w5 ⟨rfl, rfl⟩)
                | (go_at_call 13; refine Calls.mono (by with_reducible exact HR.out) ?_; rintro e w5 ⟨rfl, rfl⟩)
                | (go_at_call 14; refine Calls.mono (by with_reducible exact HY.out) ?_; rintro e w5 ⟨rfl, rfl⟩))
              go_ret
              exact ⟨rfl, HWw.out.2⟩
            · have kw : IntKind.i64.wrap (0 - ack) = 0 - ack := by rw [IntKind.wrap_i64]; omega
              have HOn := Lib.hid (win_on HWw.out ⟨3, 9, 3, 0, ack, []⟩ rfl (win_fits (by omega) (by omega)) HS.out.puts)
              have HLs : Hid (((onS s ⟨3, 9, 3, 0, ack, []⟩).2.l.out.length : Int) = 0 - ack) := Lib.hid (by rw [win_last HS.out (by omega) (by have := HO.out; omega), HO.out])
              go_wp2_with (first
                | (go_at_call 15; refine Calls.mono (by with_reducible exact HP.out) ?_; rintro e w5 ⟨rfl, rfl⟩)
                | (go_at_call 13; refine Calls.mono (by with_reducible exact HR.out) ?_; rintro e w5 ⟨rfl, rfl⟩)
                | (go_at_call 14; refine Calls.mono (by with_reducible exact HY.out) ?_; rintro e w5 ⟨rfl, rfl⟩)
                | (go_at_call 10; refine Calls.mono HOn.out ?_; rintro e w6 ⟨⟨ra, rb, rc, rfl⟩, hw6⟩; have HW6 := Lib.hid hw6; have hP6 := (win_look hw6).2.2; rw [HLs.out] at hP6; have HP6 := Lib.hid hP6; clear hP6 hw6)
                | (go_at_call 15; refine Calls.mono (by with_reducible exact HP6.out) ?_; rintro e w7 ⟨rfl, rfl⟩))
              go_ret
              exact ⟨rfl, HW6.out.2⟩
        · obtain ⟨s, hs, hw⟩ := H.out
          have hout : ((min i 64 : Nat) : Int) = k := by omega
          obtain ⟨hR, hY, hP⟩ := win_look hw
          rw [hs.knows] at hR
          rw [hs.yours] at hY
          rw [hs.out, hout] at hP
          have HR := Lib.hid hR
          have HY := Lib.hid hY
          have HP := Lib.hid hP
          have HS := Lib.hid hs
          have HWw := Lib.hid hw
          have HO := Lib.hid hout
          clear hR hY hP hs hw hout
          by_cases ha1 : ack < 0
          · go_wp2_with (first
              | (go_at_call 15; refine Calls.mono (by with_reducible exact HP.out) ?_; rintro e w5 ⟨rfl, rfl⟩)
              | (go_at_call 13; refine Calls.mono (by with_reducible exact HR.out) ?_; rintro e w5 ⟨rfl, rfl⟩)
              | (go_at_call 14; refine Calls.mono (by with_reducible exact HY.out) ?_; rintro e w5 ⟨rfl, rfl⟩))
            go_ret
            exact ⟨rfl, HWw.out.2⟩
          · by_cases ha2 : k < ack
            · go_wp2_with (first
                | (go_at_call 15; refine Calls.mono (by with_reducible exact HP.out) ?_; rintro e w5 ⟨rfl, rfl⟩)
                | (go_at_call 13; refine Calls.mono (by with_reducible exact HR.out) ?_; rintro e w5 ⟨rfl, rfl⟩)
                | (go_at_call 14; refine Calls.mono (by with_reducible exact HY.out) ?_; rintro e w5 ⟨rfl, rfl⟩))
              go_ret
              exact ⟨rfl, HWw.out.2⟩
            · have kw : IntKind.i64.wrap (k - ack) = k - ack := by rw [IntKind.wrap_i64]; omega
              have HOn := Lib.hid (win_on HWw.out ⟨3, 9, 3, 0, ack, []⟩ rfl (win_fits (by omega) (by omega)) HS.out.puts)
              have HLs : Hid (((onS s ⟨3, 9, 3, 0, ack, []⟩).2.l.out.length : Int) = k - ack) := Lib.hid (by rw [win_last HS.out (by omega) (by have := HO.out; omega), HO.out])
              go_wp2_with (first
                | (go_at_call 15; refine Calls.mono (by with_reducible exact HP.out) ?_; rintro e w5 ⟨rfl, rfl⟩)
                | (go_at_call 13; refine Calls.mono (by with_reducible exact HR.out) ?_; rintro e w5 ⟨rfl, rfl⟩)
                | (go_at_call 14; refine Calls.mono (by with_reducible exact HY.out) ?_; rintro e w5 ⟨rfl, rfl⟩)
                | (go_at_call 10; refine Calls.mono HOn.out ?_; rintro e w6 ⟨⟨ra, rb, rc, rfl⟩, hw6⟩; have HW6 := Lib.hid hw6; have hP6 := (win_look hw6).2.2; rw [HLs.out] at hP6; have HP6 := Lib.hid hP6; clear hP6 hw6)
                | (go_at_call 15; refine Calls.mono (by with_reducible exact HP6.out) ?_; rintro e w7 ⟨rfl, rfl⟩))
              go_ret
              exact ⟨rfl, HW6.out.2⟩
end Go.Proofs.Ytihkjdoajfjnpaa
