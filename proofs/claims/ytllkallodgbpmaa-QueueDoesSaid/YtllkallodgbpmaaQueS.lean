/- The law QueueMoves. -/
import Derived.Test.YtllkallodgbpmaaQueR
import Derived.Test.YtllkallodgbpmaaIRows
import Derived.Deep.CutBlock
set_option linter.unusedSimpArgs false
set_option linter.unusedVariables false
namespace Go.Proofs.Ytllkallodgbpmaa
open Go.ChangeShapes Go.WideShapes Go.ChangeAt Go.RowKit Go.Base Go.Que

section
variable {B q n m : Nat} {w w' : World} {S : Tm → Prop} {turns : Int}
/-- Whatever was there: the timer is there now, alone of its Id. -/
def SetAny (B q m : Nat) (turns : Int) (t0 : Tm) (w : World) (e : Ending) (w' : World) : Prop :=
  ∃ S' m', e = .returned (.int .i64 0) ∧ QL B w' q S' m' (turns + 1) ∧ Below B w w' ∧ m' ≤ m + 1 ∧ S' t0
theorem setL_any (h : QL B w q S m turns) {id at_ : Int} (ht : tfit ⟨at_, id, turns + 1⟩) (hfew : m < 65536) (ht0 : 0 ≤ turns) :
    Calls Try.prog 9 #[.pointer (some ⟨q, 0, none⟩), .int .i64 id, .int .i64 at_] w (SetAny B q m turns ⟨at_, id, turns + 1⟩ w) := by
  by_cases hx : ∃ t, S t ∧ t.id = id
  · obtain ⟨t, hS, rfl⟩ := hx
    exact (setL_hit h hS ht ht0).mono fun e w' ⟨h1, h2, h3⟩ => ⟨_, _, h1, h2, h3, by omega, .inl rfl⟩
  · exact (setL_miss h ht (fun t hS e => hx ⟨t, hS, e⟩) hfew ht0).mono fun e w' ⟨h1, h2, h3⟩ => ⟨_, _, h1, h2, h3, Nat.le_refl _, .inl rfl⟩
/-- Dropped: one less, and of that Id none. -/
def Dropped (B q m : Nat) (turns id : Int) (w : World) (e : Ending) (w' : World) : Prop :=
  ∃ S' m', e = .returned (.bool true) ∧ QL B w' q S' m' turns ∧ Below B w w' ∧ (m' : Int) = (m : Int) - 1 ∧ ∀ t, S' t → t.id ≠ id
theorem dropped_any (h : QL B w q S m turns) {t0 : Tm} (hS : S t0) (id : Int) (hid : t0.id = id) : Calls Try.prog 11 #[.pointer (some ⟨q, 0, none⟩), .int .i64 id] w (Dropped B q m turns id w) := by
  subst hid
  have := h.pos hS
  obtain ⟨m4, rfl⟩ : ∃ m4, m = m4 + 1 := ⟨m - 1, by omega⟩
  exact (dropL_hit h hS).mono fun e w' ⟨h1, h2, h3⟩ => ⟨_, m4, h1, h2, h3, by omega, fun t ht => ht.2⟩
theorem lenL_is (h : QL B w q S m turns) (z : Int) (hz : (m : Int) = z) : Calls Try.prog 20 #[.pointer (some ⟨q, 0, none⟩)] w fun e w' => e = .returned (.int .i64 z) ∧ w = w' := by
  subst hz; exact lenL h
end
set_option maxHeartbeats 8000000 in
set_option maxRecDepth 20000 in
theorem law_moves (A : Option Addr) (l : List (Nat → Int)) (n c : Nat) (id a b : Int) (w : World) (hl : IRows w A 2 l) (hn : l.length = n) (hm : n ≤ maxLen) (hid : -9223372036854775808 ≤ id ∧ id ≤ 9223372036854775807) (ha : -9223372036854775808 ≤ a ∧ a ≤ 9223372036854775807) (hb : -9223372036854775808 ≤ b ∧ b ≤ 9223372036854775807) :
    Calls Try.prog 6 #[.slice A n c, .int .i64 id, .int .i64 a, .int .i64 b] w fun e w' => e = .returned (.bool true) ∧ Below w.heap.size w w' := by
  have HLi := Lib.hid (fun V => qlives_any V)
  have HN := Lib.hid (newL w w.heap.size (Nat.le_refl _))
  unfold maxLen at hm
  have hm' : (n : Int) ≤ 9223372036854775807 := by omega
  have HL := Lib.hid hl
  have HLn := Lib.hid hn
  have HId := Lib.hid hid
  have HAa := Lib.hid ha
  have HBb := Lib.hid hb
  clear hl hn hid ha hb
  go_enter Try.func6, Try.ntmps6
  go_wp2_with (first
    | (go_at_call 7; refine Calls.mono (by with_reducible exact HN.out) ?_; rintro e w1 ⟨q, rfl, hx, hb⟩; have HX1 := Lib.hid hx; have HB1 := Lib.hid hb; clear hx hb)
    | (go_at_call 8; refine Calls.mono (by with_reducible exact HLi.out _) ?_; rintro e w2 ⟨rfl, hb⟩; have HX2 := Lib.hid (HX1.out.later hb); have HB2 := Lib.hid (HB1.out.trans (hb.mono HB1.out.size)); clear hb HX1))
  go_loopw [10] (fun iv wr => ∃ (k : Nat) (S : Tm → Prop) (m : Nat), k ≤ n ∧ k ≤ 100 ∧ m ≤ k ∧ iv = .int .i64 (k : Int) ∧ Hid (QL w.heap.size wr q S m (k : Int)) ∧ Hid (Below w.heap.size w wr)) (fun iv _ => n - (intOf iv).toNat)
  case atStart => exact ⟨0, _, 0, by omega, by omega, by omega, rfl, HX2, HB2⟩
  case round =>
    clear HX2 HB2
    obtain ⟨k, S, m, hkn, hk100, hmk, rfl, HX, HB⟩ := hrel
    have hkz : (0 : Int) ≤ (k : Int) := by omega
    by_cases hk : k < n ∧ k < 100
    · obtain ⟨hk1, hk2⟩ := hk
      have hk1' : (k : Int) < (n : Int) := by omega
      have hk2' : (k : Int) < 100 := by omega
      have hh : k < l.length := by rw [HLn.out]; exact hk1
      obtain ⟨g, o, rfl, hc⟩ := HL.out k hh
      have hg : g < w.heap.size := World.block_lt_of_cell? w _ (hc 0 (by omega)).1
      have HAt : Hid (∀ V, Below w.heap.size w V → V.cell? ⟨g, o + k * 2, none⟩ = some (.int .i64 (l[k] 0)) ∧ V.cell? ⟨g, o + k * 2 + 1, none⟩ = some (.int .i64 (l[k] 1))) := Lib.hid (fun V hV => ⟨cell_later hV (hc 0 (by omega)).1, cell_later hV (hc 1 (by omega)).1⟩)
      have HFt : Hid (tfit ⟨l[k] 0, l[k] 1, (k : Int) + 1⟩) := Lib.hid (by unfold tfit; exact ⟨(hc 0 (by omega)).2, (hc 1 (by omega)).2, by simp; omega⟩)
      obtain ⟨x0, hx0⟩ : ∃ x, x = l[k] 0 := ⟨_, rfl⟩
      obtain ⟨x1, hx1⟩ : ∃ x, x = l[k] 1 := ⟨_, rfl⟩
      rw [← hx0, ← hx1] at HAt HFt
      clear hc hx0 hx1 hh hg
      have c0 := (HAt.out _ HB.out).1
      have c1 := (HAt.out _ HB.out).2
      go_wp2_with fail
      refine wp_region_held_drew (S := (fun w' => w'.cell? ⟨g, o + k * 2, none⟩ = some (.int .i64 x0) ∧ w'.cell? ⟨g, o + k * 2 + 1, none⟩ = some (.int .i64 x1))) (by kernel_rfl) ⟨c0, c1⟩ (fun hHeld => ?_)
      refine wpAnyH_take (i := 0) (v := ?vv1) rfl (by kernel_rfl) (by kernel_rfl) (by kernel_rfl) (fun _ _ _ h => h) (Or.inl ⟨by rfl, ?hy1⟩) hHeld ?rr1
      case hy1 => (intro w' hSw; obtain ⟨g0, g1⟩ := hSw; go_simp; try with_reducible rfl)
      try simp only [Act.put, List.setIfInBounds_toArray, List.set_cons_zero, List.set_cons_succ, List.getElem_toArray, List.getElem_cons_succ, List.getElem_cons_zero]
      refine wpAnyH_take (i := 1) (v := ?vv2) rfl (by kernel_rfl) (by kernel_rfl) (by kernel_rfl) (fun _ _ _ h => h) (Or.inl ⟨by rfl, ?hy2⟩) hHeld ?rr2
      case hy2 => (intro w' hSw; obtain ⟨g0, g1⟩ := hSw; go_simp; try with_reducible rfl)
      try simp only [Act.put, List.setIfInBounds_toArray, List.set_cons_zero, List.set_cons_succ, List.getElem_toArray, List.getElem_cons_succ, List.getElem_cons_zero]
      refine wpAnyH_take (i := 2) (v := ?vv3) rfl (by kernel_rfl) (by kernel_rfl) (by kernel_rfl) (fun _ _ _ h => h) (Or.inl ⟨by rfl, ?hy3⟩) hHeld ?rr3
      case hy3 => (intro w' hSw; obtain ⟨g0, g1⟩ := hSw; go_simp; try with_reducible rfl)
      try simp only [Act.put, List.setIfInBounds_toArray, List.set_cons_zero, List.set_cons_succ, List.getElem_toArray, List.getElem_cons_succ, List.getElem_cons_zero]
      refine wpAnyH_take (i := 3) (v := ?vv4) rfl (by kernel_rfl) (by kernel_rfl) (by kernel_rfl) (fun _ _ _ h => h) (Or.inl ⟨by rfl, ?hy4⟩) hHeld ?rr4
      case hy4 => (intro w' hSw; obtain ⟨g0, g1⟩ := hSw; go_simp; try with_reducible rfl)
      try simp only [Act.put, List.setIfInBounds_toArray, List.set_cons_zero, List.set_cons_succ, List.getElem_toArray, List.getElem_cons_succ, List.getElem_cons_zero]
      refine wpAnyH_take (i := 4) (v := ?vv5) rfl (by kernel_rfl) (by kernel_rfl) (by kernel_rfl) (fun _ _ _ h => h) (Or.inl ⟨by rfl, ?hy5⟩) hHeld ?rr5
      case hy5 => (intro w' hSw; obtain ⟨g0, g1⟩ := hSw; go_simp; try with_reducible rfl)
      try simp only [Act.put, List.setIfInBounds_toArray, List.set_cons_zero, List.set_cons_succ, List.getElem_toArray, List.getElem_cons_succ, List.getElem_cons_zero]
      refine wpAnyH_take (i := 5) (v := ?vv6) rfl (by kernel_rfl) (by kernel_rfl) (by kernel_rfl) (fun _ _ _ h => h) (Or.inl ⟨by rfl, ?hy6⟩) hHeld ?rr6
      case hy6 => (intro w' hSw; obtain ⟨g0, g1⟩ := hSw; go_simp; try with_reducible rfl)
      try simp only [Act.put, List.setIfInBounds_toArray, List.set_cons_zero, List.set_cons_succ, List.getElem_toArray, List.getElem_cons_succ, List.getElem_cons_zero]
      refine wpAnyH_take (i := 6) (v := ?vv7) rfl (by kernel_rfl) (by kernel_rfl) (by kernel_rfl) (fun _ _ _ h => h) (Or.inl ⟨by rfl, ?hy7⟩) hHeld ?rr7
      case hy7 => (intro w' hSw; obtain ⟨g0, g1⟩ := hSw; go_simp; try with_reducible rfl)
      try simp only [Act.put, List.setIfInBounds_toArray, List.set_cons_zero, List.set_cons_succ, List.getElem_toArray, List.getElem_cons_succ, List.getElem_cons_zero]
      refine wpAnyH_take (i := 7) (v := ?vv8) rfl (by kernel_rfl) (by kernel_rfl) (by kernel_rfl) (fun _ _ _ h => h) (Or.inl ⟨by rfl, ?hy8⟩) hHeld ?rr8
      case hy8 => (intro w' hSw; obtain ⟨g0, g1⟩ := hSw; go_simp; try with_reducible rfl)
      try simp only [Act.put, List.setIfInBounds_toArray, List.set_cons_zero, List.set_cons_succ, List.getElem_toArray, List.getElem_cons_succ, List.getElem_cons_zero]
      refine wpAnyH_take (i := 8) (v := ?vv9) rfl (by kernel_rfl) (by kernel_rfl) (by kernel_rfl) (fun _ _ _ h => h) (Or.inl ⟨by rfl, ?hy9⟩) hHeld ?rr9
      case hy9 => (intro w' hSw; obtain ⟨g0, g1⟩ := hSw; go_simp; try with_reducible rfl)
      try simp only [Act.put, List.setIfInBounds_toArray, List.set_cons_zero, List.set_cons_succ, List.getElem_toArray, List.getElem_cons_succ, List.getElem_cons_zero]
      refine wpAnyH_take (i := 9) (v := ?vv10) rfl (by kernel_rfl) (by kernel_rfl) (by kernel_rfl) (fun _ _ _ h => h) (Or.inl ⟨by rfl, ?hy10⟩) hHeld ?rr10
      case hy10 => (intro w' hSw; obtain ⟨g0, g1⟩ := hSw; go_simp; try with_reducible rfl)
      try simp only [Act.put, List.setIfInBounds_toArray, List.set_cons_zero, List.set_cons_succ, List.getElem_toArray, List.getElem_cons_succ, List.getElem_cons_zero]
      refine wpAnyH_take (i := 10) (v := ?vv11) rfl (by kernel_rfl) (by kernel_rfl) (by kernel_rfl) (fun _ _ _ h => h) (Or.inl ⟨by rfl, ?hy11⟩) hHeld ?rr11
      case hy11 => (intro w' hSw; obtain ⟨g0, g1⟩ := hSw; go_simp; try with_reducible rfl)
      try simp only [Act.put, List.setIfInBounds_toArray, List.set_cons_zero, List.set_cons_succ, List.getElem_toArray, List.getElem_cons_succ, List.getElem_cons_zero]
      refine wpAnyH_ready (rs := [11]) (by kernel_rfl) (by simp) ?_
      refine AllReadyH.cons rfl (fun K hK => ?_) AllReadyH.nil
      try rw [if_pos (by rfl)]
      go_simp
      go_at_call 9
      refine Calls.mono (show Calls _ _ _ wr.drew _ from setL_any (HX.out.later (Below.refl wr.heap.size wr).drew) (id := x1) (at_ := x0) HFt.out (by omega) hkz) ?_
      rintro en w5 ⟨S5, m5, rfl, hq5, hb5, hm5, hs5⟩
      have HP : Hid (∃ S' m', QL w.heap.size w5 q S' m' ((k : Int) + 1) ∧ Below w.heap.size wr w5 ∧ m' ≤ m + 1 ∧ True) := Lib.hid ⟨S5, m5, hq5, (Below.refl _ _).drew.trans hb5, hm5, trivial⟩
      clear hq5 hb5 hm5 hs5
      go_wp2_with fail
      refine hK.out _ _ (HAt.out _ (HB.out.trans HP.out.choose_spec.choose_spec.2.1)) (fun hHeld2 => ?_)
      clear hK K hHeld
      have hHeld := hHeld2
      clear hHeld2
      try simp only [Act.put, List.setIfInBounds_toArray, List.set_cons_zero, List.set_cons_succ, List.getElem_toArray, List.getElem_cons_succ, List.getElem_cons_zero]
      refine wpAnyH_done (by kernel_rfl) ?_ _
      clear hHeld
      go_wp2
      obtain ⟨S', m', hq', hb', hm'', _⟩ := HP.out
      go_roundw
      case rel => exact ⟨k + 1, S', m', by omega, by omega, by omega, by go_num, Lib.hid hq', Lib.hid (HB.out.trans hb')⟩
      case measure => simp [intOf]; omega
    · have hend : Hid (¬ (k < n ∧ k < 100)) := Lib.hid hk
      obtain ⟨u, hu⟩ : ∃ u : Bool, u = decide ((k : Int) < (n : Int)) := ⟨_, rfl⟩
      have HS1 := Lib.hid (setL_any HX.out (id := id) (at_ := a) (by unfold tfit; exact ⟨HAa.out, HId.out, by simp; omega⟩) (by omega) hkz)
      have HS2 : Hid (∀ V S' m', QL w.heap.size V q S' m' (k + 1) → m' ≤ 101 → S' ⟨a, id, (k : Int) + 1⟩ → Calls Try.prog 9 #[.pointer (some ⟨q, 0, none⟩), .int .i64 id, .int .i64 b] V (OpL w.heap.size q (fun t => t = ⟨b, id, (k : Int) + 1 + 1⟩ ∨ (S' t ∧ t.id ≠ id)) m' ((k : Int) + 1 + 1) (.int .i64 0) V)) := Lib.hid (fun V S' m' hq hm hS =>
        setL_hit hq (t0 := ⟨a, id, (k : Int) + 1⟩) hS (by unfold tfit; exact ⟨HBb.out, HId.out, by simp; omega⟩) (by omega))
      by_cases hk1 : k < n
      all_goals
        first | (have hk1' : (k : Int) < (n : Int) := by omega) | (have hk1' : ¬ (k : Int) < (n : Int) := by omega)
        first | (have hk2' : ¬ (k : Int) < 100 := by have := hend.out; omega) | skip
        clear hu
        go_wp2_with (first
          | (have tok1 := HS1; go_at_call 9; refine Calls.mono (by with_reducible exact HS1.out) ?_; rintro en w3 ⟨S3, m3, rfl, hq3, hb3, hm3, hs3⟩; have HQ3 := Lib.hid hq3; have HB3 := Lib.hid (HB.out.trans hb3); have HM3 := Lib.hid hm3; have HS3 := Lib.hid hs3; have HL3 := Lib.hid (lenL hq3); have HSx := Lib.hid (HS2.out _ _ _ hq3 (by omega) hs3); have hm3p := hq3.pos hs3; have hm3b : (m3 : Int) ≤ 200 := (by omega); clear hq3 hb3 hm3 hs3 HS1 tok1)
          | (have tok2 := HL3; go_at_call 20; refine Calls.mono (by with_reducible exact HL3.out) ?_; rintro en w4 ⟨rfl, rfl⟩; clear HL3 tok2)
          | (have tok3 := HSx; go_at_call 9; refine Calls.mono (by with_reducible exact HSx.out) ?_; rintro en w5 ⟨rfl, hq5, hb5⟩; have HQ5 := Lib.hid hq5; have HB5 := Lib.hid (HB3.out.trans hb5); have HL5 := Lib.hid (lenL hq5); have HW5 := Lib.hid (whenL_hit hq5 (t0 := ⟨b, id, (k : Int) + 1 + 1⟩) (.inl rfl)); have HD5 := Lib.hid (dropped_any hq5 (t0 := ⟨b, id, (k : Int) + 1 + 1⟩) (.inl rfl) id rfl); clear hq5 hb5 HSx tok3)
          | (have tok4 := HW5; go_at_call 15; refine Calls.mono (by with_reducible exact HW5.out) ?_; rintro en w6 ⟨rfl, rfl⟩; clear HW5 tok4)
          | (have tok5 := HL5; go_at_call 20; refine Calls.mono (by with_reducible exact HL5.out) ?_; rintro en w7 ⟨rfl, rfl⟩; clear HL5 tok5)
          | (have tok6 := HD5; go_at_call 11; refine Calls.mono (by with_reducible exact HD5.out) ?_; rintro en w8 ⟨S8, m8, rfl, hq8, hb8, hm8, hn8⟩; have HB8 := Lib.hid (HB5.out.trans hb8); have HD8 := Lib.hid (dropL_miss hq8 HId.out.1 HId.out.2 hn8); have HL8 := Lib.hid (lenL_is hq8 _ hm8); have HW8 := Lib.hid (whenL_miss hq8 HId.out.1 HId.out.2 hn8); clear hq8 hb8 hm8 hn8 HD5 tok6)
          | (have tok7 := HD8; go_at_call 11; refine Calls.mono (by with_reducible exact HD8.out) ?_; rintro en w9 ⟨rfl, rfl⟩; clear HD8 tok7)
          | (have tok8 := HL8; go_at_call 20; refine Calls.mono (by with_reducible exact HL8.out) ?_; rintro en w10 ⟨rfl, rfl⟩; clear HL8 tok8)
          | (have tok9 := HW8; go_at_call 15; refine Calls.mono (by with_reducible exact HW8.out) ?_; rintro en w11 ⟨rfl, rfl⟩; clear HW8 tok9))
        go_ret
        exact ⟨rfl, HB8.out⟩
end Go.Proofs.Ytllkallodgbpmaa
