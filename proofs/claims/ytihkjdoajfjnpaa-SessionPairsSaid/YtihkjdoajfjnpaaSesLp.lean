/- The law SessionPairs, walked. -/
import Derived.Test.YtihkjdoajfjnpaaSesY
import Derived.Test.YtihkjdoajfjnpaaSesOps
set_option linter.unusedSimpArgs false
set_option linter.unusedVariables false
namespace Go.Proofs.Ytihkjdoajfjnpaa
open Go.ChangeShapes Go.WideShapes Go.ChangeAt Go.RowKit Go.Base Go.Ses

theorem bd_of {w w' : World} {A : Option Addr} {bs : Bytes} (h : Byt w A bs) (hb : Below w.heap.size w w') : Bd w.heap.size w' A bs := by
  by_cases e : bs = []
  · exact .inl (.inl e)
  · refine .inr ⟨h.later hb, fun a ha => ?_⟩
    obtain ⟨b, o, e2, c⟩ := h 0 (by cases bs with | nil => exact absurd rfl e | cons x r => simp)
    rw [ha] at e2
    injection e2 with e2
    subst e2
    exact World.block_lt_of_cell? w _ c
def PrR (w : World) (i : Nat) (wr : World) : Prop := ∃ X, Bun w.heap.size wr w.heap.size X i ∧ Below w.heap.size w wr
set_option maxHeartbeats 8000000 in
set_option maxRecDepth 20000 in
theorem law_pairs (A0 : Option Addr) (l : List SOp) (n c : Nat) (w : World) (hN : SOps w A0 l) (hl : l.length = n) (hm : n ≤ maxLen) (hr : ∀ (i : Nat) (h : i < l.length), l[i].bl.length ≤ 140737488355328) :
    Calls Try.prog 3 #[.slice A0 n c] w fun e w' => e = .returned (.bool true) ∧ Below w.heap.size w w' := by
  have HN := Lib.hid hN
  have HR := Lib.hid hr
  have HL := Lib.hid hl
  have hm1 : n ≤ 9223372036854775807 := by unfold maxLen at hm; omega
  have HBg := Lib.hid (begin_any w)
  clear hN hr hl hm
  go_enter Try.func3, Try.ntmps3
  go_wp2_with (first
    | (go_at_call 6; refine Calls.mono HBg.out ?_; rintro e w1 ⟨rfl, hb1⟩; have HB1 := Lib.hid hb1; have HLi := Lib.hid (lives_any w1); clear hb1)
    | (go_at_call 7; refine Calls.mono HLi.out ?_; rintro e w2 ⟨rfl, hb2⟩; have H0 : Hid (PrR w 0 w2) := Lib.hid ⟨X0, HB1.out.1.later hb2, HB1.out.2.trans (hb2.mono HB1.out.2.size)⟩; clear hb2))
  go_loopw [4] (fun iv wr => ∃ i : Nat, i ≤ n ∧ i ≤ 400 ∧ iv = .int .i64 (i : Int) ∧ Hid (PrR w i wr)) (fun iv _ => n - (intOf iv).toNat)
  case atStart => exact ⟨0, by omega, by omega, rfl, H0⟩
  case round =>
    obtain ⟨i, hin, hi4, rfl, H⟩ := hrel
    by_cases hlt : i < n
    · have hlt1 : (i : Int) < (n : Int) := by omega
      have hi0 : (0 : Int) ≤ (i : Int) := by omega
      by_cases hlt4 : i < 400
      · have hlt5 : (i : Int) < 400 := by omega
        obtain ⟨X, hB, hbw⟩ := H.out
        have hil : i < l.length := by rw [HL.out]; exact hlt
        obtain ⟨gb, go, rfl, hc, hfit⟩ := HN.out i hil
        have hrr := HR.out i hil
        generalize l[i] = x at *
        obtain ⟨k, sd, now, bA, bl, bc, e0, e1, e2, e3, e4, eA, el, ec⟩ := x
        obtain ⟨nb, hnb⟩ : ∃ k, k = bl.length := ⟨_, rfl⟩
        obtain ⟨ne, hne⟩ : ∃ k, k = el.length := ⟨_, rfl⟩
        have hcc := fun j u hu => cell_later hbw (hc j u hu)
        have c0 : wr.cell? ⟨gb, go + i * 10, none⟩ = some (.int .i64 k) := hcc 0 _ rfl
        have c1 : wr.cell? ⟨gb, go + i * 10 + 1, none⟩ = some (.int .i64 sd) := hcc 1 _ rfl
        have c2 : wr.cell? ⟨gb, go + i * 10 + 2, none⟩ = some (.slice bA nb bc) := by rw [hnb]; exact hcc 2 _ rfl
        have c3 : wr.cell? ⟨gb, go + i * 10 + 3, none⟩ = some (.int .i64 e0) := hcc 3 _ rfl
        have c4 : wr.cell? ⟨gb, go + i * 10 + 4, none⟩ = some (.int .i64 e1) := hcc 4 _ rfl
        have c5 : wr.cell? ⟨gb, go + i * 10 + 5, none⟩ = some (.int .i64 e2) := hcc 5 _ rfl
        have c6 : wr.cell? ⟨gb, go + i * 10 + 6, none⟩ = some (.int .i64 e3) := hcc 6 _ rfl
        have c7 : wr.cell? ⟨gb, go + i * 10 + 7, none⟩ = some (.int .i64 e4) := hcc 7 _ rfl
        have c8 : wr.cell? ⟨gb, go + i * 10 + 8, none⟩ = some (.slice eA ne ec) := by rw [hne]; exact hcc 8 _ rfl
        have c9 : wr.cell? ⟨gb, go + i * 10 + 9, none⟩ = some (.int .i64 now) := hcc 9 _ rfl
        have HDo : Hid (Calls Try.prog 8 #[.pointer (some ⟨w.heap.size, 0, none⟩), .agg #[.int .i64 k, .int .i64 sd, .slice bA nb bc, .int .i64 e0, .int .i64 e1, .int .i64 e2, .int .i64 e3, .int .i64 e4, .slice eA ne ec, .int .i64 now]] wr (DoneP w.heap.size w.heap.size (sd % 2).toNat i X k now bl wr)) := Lib.hid (by
          have := do_any hB (by omega) k sd now ⟨hfit.a1, hfit.a2⟩ ⟨hfit.b1, hfit.b2⟩ bA bl bc (bd_of hfit.y hbw) hrr (.int .i64 e0) (.int .i64 e1) (.int .i64 e2) (.int .i64 e3) (.int .i64 e4) (.slice eA ne ec)
          rw [hnb]; exact this)
        have HBw := Lib.hid hbw
        clear hB hbw hc hcc hfit hrr hnb hne hil
        go_wp2_with (first
          | (go_at_call 8; refine Calls.mono (by with_reducible exact HDo.out) ?_; rintro e w5 ⟨rfl, hb5, hl5, hk5⟩; have HD5 := Lib.hid (And.intro hb5 hl5); have HRt := Lib.hid (right_any hb5); clear hb5 hl5 hk5)
          | (go_at_call 9; refine Calls.mono (by with_reducible exact HRt.out) ?_; rintro e w6 ⟨rfl, hb6⟩; have HB6 := Lib.hid hb6; clear hb6))
        go_roundw
        case rel => exact ⟨i + 1, by omega, by omega, by go_num, Lib.hid ⟨_, HD5.out.1.later HB6.out, (HBw.out.trans HD5.out.2).trans (HB6.out.mono (Nat.le_trans HBw.out.size HD5.out.2.size))⟩⟩
        case measure => simp [intOf]; omega
      · have hlt5 : ¬ (i : Int) < 400 := by omega
        go_wp2
        go_ret
        obtain ⟨X, _, hbw⟩ := H.out
        exact ⟨rfl, hbw⟩
    · have hlt1 : ¬ (i : Int) < (n : Int) := by omega
      go_wp2
      go_ret
      obtain ⟨X, _, hbw⟩ := H.out
      exact ⟨rfl, hbw⟩
end Go.Proofs.Ytihkjdoajfjnpaa
