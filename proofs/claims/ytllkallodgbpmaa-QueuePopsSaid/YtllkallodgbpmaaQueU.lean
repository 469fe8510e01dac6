/- The law QueuePops. -/
import Derived.Test.YtllkallodgbpmaaQueS
set_option linter.unusedSimpArgs false
set_option linter.unusedVariables false
namespace Go.Proofs.Ytllkallodgbpmaa
open Go.ChangeShapes Go.WideShapes Go.ChangeAt Go.RowKit Go.Base Go.Que

section
variable {B q n m : Nat} {w w' : World} {S : Tm → Prop} {turns : Int}
def PopYes (B q : Nat) (S : Tm → Prop) (m : Nat) (turns now : Int) (w : World) (e : Ending) (w' : World) : Prop :=
  ∃ t, e = .returned (.tuple #[.agg #[.int .i64 t.at_, .int .i64 t.id], .bool true]) ∧ QL B w' q (fun u => S u ∧ u.id ≠ t.id) m turns ∧ Below B w w' ∧ S t ∧ (∀ u, S u → t.at_ ≤ u.at_) ∧ t.at_ ≤ now
theorem popL_yes (h : QL B w q S (m + 1) turns) {now : Int} (hd : ∃ u, S u ∧ u.at_ ≤ now) :
    Calls Try.prog 13 #[.pointer (some ⟨q, 0, none⟩), .int .i64 now] w (PopYes B q S m turns now w) := by
  obtain ⟨⟨f, hq, hh, hs⟩, hB⟩ := h
  have hmin : ∀ u, S u → (f 0).at_ ≤ u.at_ := fun u hu => by
    obtain ⟨k, hk, rfl⟩ := (hs u).2 hu
    have := heap_first hh k hk
    unfold lt at this
    omega
  obtain ⟨u, hu, hun⟩ := hd
  have hd : 0 < m + 1 ∧ (f 0).at_ ≤ now := ⟨by omega, by have := hmin u hu; omega⟩
  refine (qpop_any hq hh now).mono fun e w' ⟨he, h1, _, hm⟩ => ?_
  obtain ⟨m', g, e2, hg, hgh, hsh⟩ := h1 hd
  obtain rfl : m = m' := by omega
  refine ⟨f 0, by rw [he]; unfold dueV; rw [if_pos hd], ⟨⟨g, hg, hgh, fun u => ?_⟩, Nat.le_trans hB hm.size⟩, hm.below (fun k _ h => h) hB, (hs _).1 ⟨0, hd.1, rfl⟩, hmin, hd.2⟩
  rw [gone_ql hs hq.once hd.1 hsh u]
theorem nextL_yes (h : QL B w q S (m + 1) turns) :
    Calls Try.prog 19 #[.pointer (some ⟨q, 0, none⟩)] w fun e w' => ∃ t, e = .returned (.tuple #[.agg #[.int .i64 t.at_, .int .i64 t.id], .bool true]) ∧ Below w.heap.size w w' ∧ S t := by
  obtain ⟨⟨f, hq, hh, hs⟩, hB⟩ := h
  have h0 : 0 < m + 1 := by omega
  have hf2 := hq.fits h0
  refine (qnext_any hq).mono fun e w' ⟨he, hb⟩ => ⟨f 0, ?_, hb, (hs _).1 ⟨0, h0, rfl⟩⟩
  rw [he]; unfold dueV; rw [if_pos ⟨h0, hf2.1.2⟩]
end
set_option maxHeartbeats 8000000 in
set_option maxRecDepth 20000 in
theorem law_pops (A : Option Addr) (l : List (Nat → Int)) (n c : Nat) (now : Int) (w : World) (hl : IRows w A 2 l) (hn : l.length = n) (hm : n ≤ maxLen) (hnow : -9223372036854775808 ≤ now ∧ now ≤ 9223372036854775807) :
    Calls Try.prog 4 #[.slice A n c, .int .i64 now] w fun e w' => e = .returned (.bool true) ∧ Below w.heap.size w w' := by
  have HLi := Lib.hid (fun V => qlives_any V)
  have HN := Lib.hid (newL w w.heap.size (Nat.le_refl _))
  unfold maxLen at hm
  have hm' : (n : Int) ≤ 9223372036854775807 := by omega
  have HL := Lib.hid hl
  have HLn := Lib.hid hn
  have HNow := Lib.hid hnow
  clear hl hn hnow
  go_enter Try.func4, Try.ntmps4
  go_upto_block 0 with (first
    | (go_at_call 7; refine Calls.mono (by with_reducible exact HN.out) ?_; rintro e w1 ⟨q, rfl, hx, hb⟩; have HX1 := Lib.hid hx; have HB1 := Lib.hid hb; clear hx hb)
    | (go_at_call 8; refine Calls.mono (by with_reducible exact HLi.out _) ?_; rintro e w2 ⟨rfl, hb⟩; have HX2 := Lib.hid (HX1.out.later hb); have HB2 := Lib.hid (HB1.out.trans (hb.mono HB1.out.size)); clear hb HX1))
  go_cut [5, 6] from 25 to 61 (fun qv nv wx => ∃ (q : Nat) (S : Tm → Prop) (m k : Nat), qv = .pointer (some ⟨q, 0, none⟩) ∧ nv = .int .i64 (m : Int) ∧ m ≤ 200 ∧ Hid (QL w.heap.size wx q S m (k : Int)) ∧ Hid (Below w.heap.size w wx))
  case first =>
    go_wp2_with fail
    go_loopw [6, 7] (fun nv iv wr => ∃ (k : Nat) (S : Tm → Prop) (m : Nat), k ≤ n ∧ k ≤ 200 ∧ m ≤ k ∧ iv = .int .i64 (k : Int) ∧ nv = .int .i64 (m : Int) ∧ Hid (QL w.heap.size wr q S m (k : Int)) ∧ Hid (Below w.heap.size w wr)) (fun _ iv _ => n - (intOf iv).toNat)
    case atStart => exact ⟨0, _, 0, by omega, by omega, by omega, rfl, rfl, HX2, HB2⟩
    case round =>
      clear HX2 HB2
      obtain ⟨k, S, m, hkn, hk200, hmk, rfl, rfl, HX, HB⟩ := hrel
      have hkz : (0 : Int) ≤ (k : Int) := by omega
      by_cases hk1 : k < n
      · have hk1' : (k : Int) < (n : Int) := by omega
        by_cases hk2 : k < 200
        · have hk2' : (k : Int) < 200 := by omega
          have hh : k < l.length := by rw [HLn.out]; exact hk1
          obtain ⟨g, o, rfl, hc⟩ := HL.out k hh
          have HAt : Hid (∀ V, Below w.heap.size w V → V.cell? ⟨g, o + k * 2, none⟩ = some (.int .i64 (l[k] 0)) ∧ V.cell? ⟨g, o + k * 2 + 1, none⟩ = some (.int .i64 (l[k] 1))) := Lib.hid (fun V hV => ⟨cell_later hV (hc 0 (by omega)).1, cell_later hV (hc 1 (by omega)).1⟩)
          have HFt : Hid (tfit ⟨l[k] 0, l[k] 1, (k : Int) + 1⟩) := Lib.hid (by unfold tfit; exact ⟨(hc 0 (by omega)).2, (hc 1 (by omega)).2, by simp; omega⟩)
          obtain ⟨x0, hx0⟩ : ∃ x, x = l[k] 0 := ⟨_, rfl⟩
          obtain ⟨x1, hx1⟩ : ∃ x, x = l[k] 1 := ⟨_, rfl⟩
          rw [← hx0, ← hx1] at HAt HFt
          clear hc hx0 hx1 hh
          have c0 := (HAt.out _ HB.out).1
          have c1 := (HAt.out _ HB.out).2
          by_cases hx : ∃ t, S t ∧ t.id = x1
          · obtain ⟨t, hS, rfl⟩ := hx
            have HW := Lib.hid (whenL_hit HX.out hS)
            have HSe := Lib.hid (fun V (hV : QL w.heap.size V q S m (k : Int)) => setL_hit hV hS HFt.out hkz)
            clear hS
            go_wp2_with (go_at_call 15; refine Calls.mono (by with_reducible exact HW.out) ?_; rintro en w4 ⟨rfl, rfl⟩)
            refine wp_region_held_drew (S := (fun w' => w'.cell? ⟨g, o + k * 2, none⟩ = some (.int .i64 x0) ∧ w'.cell? ⟨g, o + k * 2 + 1, none⟩ = some (.int .i64 t.id))) (by kernel_rfl) ⟨c0, c1⟩ (fun hHeld => ?_)
            refine wpAnyH_take (i := 0) (v := ?vv1) rfl (by kernel_rfl) (by kernel_rfl) (by kernel_rfl) (fun _ _ _ h => h) (Or.inl ⟨by rfl, ?hy1⟩) hHeld ?rr1
            case hy1 => (intro w' hSw; obtain ⟨g0, g1⟩ := hSw; go_simp; try with_reducible rfl)
            try simp only [Act.put, List.setIfInBounds_toArray, List.set_cons_zero, List.set_cons_succ, List.getElem_toArray, List.getElem_cons_succ, List.getElem_cons_zero]
            refine wpAnyH_take (i := 1) (v := ?vv2) rfl (by kernel_rfl) (by kernel_rfl) (by kernel_rfl) (fun _ _ _ h => h) (Or.inl ⟨by rfl, ?hy2⟩) hHeld ?rr2
            case hy2 => (intro w' hSw; obtain ⟨g0, g1⟩ := hSw; go_simp; try with_reducible rfl)
            try simp only [Act.put, List.setIfInBounds_toArray, List.set_cons_zero, List.set_cons_succ, List.getElem_toArray, List.getElem_cons_succ, List.getElem_cons_zero]
            refine wpAnyH_take (i := 2) (v := ?vv3) rfl (by kernel_rfl) (by kernel_rfl) (by kernel_rfl) (fun _ _ _ h => h) (Or.inl ⟨by rfl, ?hy3⟩) hHeld ?rr3
            case hy3 => (intro w' hSw; obtain ⟨g0, g1⟩ := hSw; go_simp; try with_reducible rfl)
            try simp only [Act.put, List.setIfInBounds_toArray, List.set_cons_zero, List.set_cons_succ, List.getElem_toArray, List.getElem_cons_succ, List.getElem_cons_zero]
            refine wpAnyH_take (i := 3) (v := ?vv4) rfl (by kernel_rfl) (by kernel_rfl) (by kernel_rfl) (fun _ _ _ h => h) (Or.inl ⟨by rfl, ?hy4⟩) hHeld ?rr4
            case hy4 => (intro w' hSw; obtain ⟨g0, g1⟩ := hSw; go_simp; try with_reducible rfl)
            try simp only [Act.put, List.setIfInBounds_toArray, List.set_cons_zero, List.set_cons_succ, List.getElem_toArray, List.getElem_cons_succ, List.getElem_cons_zero]
            refine wpAnyH_take (i := 4) (v := ?vv5) rfl (by kernel_rfl) (by kernel_rfl) (by kernel_rfl) (fun _ _ _ h => h) (Or.inl ⟨by rfl, ?hy5⟩) hHeld ?rr5
            case hy5 => (intro w' hSw; obtain ⟨g0, g1⟩ := hSw; go_simp; try with_reducible rfl)
            try simp only [Act.put, List.setIfInBounds_toArray, List.set_cons_zero, List.set_cons_succ, List.getElem_toArray, List.getElem_cons_succ, List.getElem_cons_zero]
            refine wpAnyH_take (i := 5) (v := ?vv6) rfl (by kernel_rfl) (by kernel_rfl) (by kernel_rfl) (fun _ _ _ h => h) (Or.inl ⟨by rfl, ?hy6⟩) hHeld ?rr6
            case hy6 => (intro w' hSw; obtain ⟨g0, g1⟩ := hSw; go_simp; try with_reducible rfl)
            try simp only [Act.put, List.setIfInBounds_toArray, List.set_cons_zero, List.set_cons_succ, List.getElem_toArray, List.getElem_cons_succ, List.getElem_cons_zero]
            refine wpAnyH_take (i := 6) (v := ?vv7) rfl (by kernel_rfl) (by kernel_rfl) (by kernel_rfl) (fun _ _ _ h => h) (Or.inl ⟨by rfl, ?hy7⟩) hHeld ?rr7
            case hy7 => (intro w' hSw; obtain ⟨g0, g1⟩ := hSw; go_simp; try with_reducible rfl)
            try simp only [Act.put, List.setIfInBounds_toArray, List.set_cons_zero, List.set_cons_succ, List.getElem_toArray, List.getElem_cons_succ, List.getElem_cons_zero]
            refine wpAnyH_take (i := 7) (v := ?vv8) rfl (by kernel_rfl) (by kernel_rfl) (by kernel_rfl) (fun _ _ _ h => h) (Or.inl ⟨by rfl, ?hy8⟩) hHeld ?rr8
            case hy8 => (intro w' hSw; obtain ⟨g0, g1⟩ := hSw; go_simp; try with_reducible rfl)
            try simp only [Act.put, List.setIfInBounds_toArray, List.set_cons_zero, List.set_cons_succ, List.getElem_toArray, List.getElem_cons_succ, List.getElem_cons_zero]
            refine wpAnyH_take (i := 8) (v := ?vv9) rfl (by kernel_rfl) (by kernel_rfl) (by kernel_rfl) (fun _ _ _ h => h) (Or.inl ⟨by rfl, ?hy9⟩) hHeld ?rr9
            case hy9 => (intro w' hSw; obtain ⟨g0, g1⟩ := hSw; go_simp; try with_reducible rfl)
            try simp only [Act.put, List.setIfInBounds_toArray, List.set_cons_zero, List.set_cons_succ, List.getElem_toArray, List.getElem_cons_succ, List.getElem_cons_zero]
            refine wpAnyH_take (i := 9) (v := ?vv10) rfl (by kernel_rfl) (by kernel_rfl) (by kernel_rfl) (fun _ _ _ h => h) (Or.inl ⟨by rfl, ?hy10⟩) hHeld ?rr10
            case hy10 => (intro w' hSw; obtain ⟨g0, g1⟩ := hSw; go_simp; try with_reducible rfl)
            try simp only [Act.put, List.setIfInBounds_toArray, List.set_cons_zero, List.set_cons_succ, List.getElem_toArray, List.getElem_cons_succ, List.getElem_cons_zero]
            refine wpAnyH_take (i := 10) (v := ?vv11) rfl (by kernel_rfl) (by kernel_rfl) (by kernel_rfl) (fun _ _ _ h => h) (Or.inl ⟨by rfl, ?hy11⟩) hHeld ?rr11
            case hy11 => (intro w' hSw; obtain ⟨g0, g1⟩ := hSw; go_simp; try with_reducible rfl)
            try simp only [Act.put, List.setIfInBounds_toArray, List.set_cons_zero, List.set_cons_succ, List.getElem_toArray, List.getElem_cons_succ, List.getElem_cons_zero]
            refine wpAnyH_ready (rs := [11]) (by kernel_rfl) (by simp) ?_
            refine AllReadyH.cons rfl (fun K hK => ?_) AllReadyH.nil
            try rw [if_pos (by rfl)]
            go_simp
            go_at_call 9
            refine Calls.mono (HSe.out _ (HX.out.later (Below.refl wr.heap.size wr).drew)) ?_
            rintro en w5 ⟨rfl, hq5, hb5⟩
            have HQ5 := Lib.hid hq5
            have HB5 : Hid (Below w.heap.size wr w5) := Lib.hid ((Below.refl _ _).drew.trans hb5)
            clear hq5 hb5
            go_wp2_with fail
            refine hK.out _ _ (HAt.out _ (HB.out.trans HB5.out)) (fun hHeld2 => ?_)
            clear hK K hHeld
            have hHeld := hHeld2
            clear hHeld2
            try simp only [Act.put, List.setIfInBounds_toArray, List.set_cons_zero, List.set_cons_succ, List.getElem_toArray, List.getElem_cons_succ, List.getElem_cons_zero]
            refine wpAnyH_take (i := 12) (v := ?vv12) rfl (by kernel_rfl) (by kernel_rfl) (by kernel_rfl) (fun _ _ _ h => h) (Or.inl ⟨by rfl, ?hy12⟩) hHeld ?rr12
            case hy12 => (intro w' hSw; obtain ⟨g0, g1⟩ := hSw; go_simp; try with_reducible rfl)
            try simp only [Act.put, List.setIfInBounds_toArray, List.set_cons_zero, List.set_cons_succ, List.getElem_toArray, List.getElem_cons_succ, List.getElem_cons_zero]
            refine wpAnyH_done (by kernel_rfl) ?_ _
            clear hHeld
            go_wp2
            go_roundw
            case rel => exact ⟨k + 1, _, m, by omega, by omega, by omega, by go_num, rfl, HQ5, Lib.hid (HB.out.trans HB5.out)⟩
            case measure => simp [intOf]; omega
          · have hno : ∀ t, S t → t.id ≠ x1 := fun t hS e => hx ⟨t, hS, e⟩
            have HW := Lib.hid (whenL_miss HX.out HFt.out.2.1.1 HFt.out.2.1.2 hno)
            have HSe := Lib.hid (fun V (hV : QL w.heap.size V q S m (k : Int)) => setL_miss hV HFt.out hno (by omega) hkz)
            clear hx hno
            go_wp2_with (go_at_call 15; refine Calls.mono (by with_reducible exact HW.out) ?_; rintro en w4 ⟨rfl, rfl⟩)
            refine wp_region_held_drew (S := (fun w' => w'.cell? ⟨g, o + k * 2, none⟩ = some (.int .i64 x0) ∧ w'.cell? ⟨g, o + k * 2 + 1, none⟩ = some (.int .i64 x1))) (by kernel_rfl) ⟨c0, c1⟩ (fun hHeld => ?_)
            refine wpAnyH_take (i := 0) (v := ?vv13) rfl (by kernel_rfl) (by kernel_rfl) (by kernel_rfl) (fun _ _ _ h => h) (Or.inl ⟨by rfl, ?hy13⟩) hHeld ?rr13
            case hy13 => (intro w' hSw; obtain ⟨g0, g1⟩ := hSw; go_simp; try with_reducible rfl)
            try simp only [Act.put, List.setIfInBounds_toArray, List.set_cons_zero, List.set_cons_succ, List.getElem_toArray, List.getElem_cons_succ, List.getElem_cons_zero]
            refine wpAnyH_take (i := 1) (v := ?vv14) rfl (by kernel_rfl) (by kernel_rfl) (by kernel_rfl) (fun _ _ _ h => h) (Or.inl ⟨by rfl, ?hy14⟩) hHeld ?rr14
            case hy14 => (intro w' hSw; obtain ⟨g0, g1⟩ := hSw; go_simp; try with_reducible rfl)
            try simp only [Act.put, List.setIfInBounds_toArray, List.set_cons_zero, List.set_cons_succ, List.getElem_toArray, List.getElem_cons_succ, List.getElem_cons_zero]
            refine wpAnyH_take (i := 2) (v := ?vv15) rfl (by kernel_rfl) (by kernel_rfl) (by kernel_rfl) (fun _ _ _ h => h) (Or.inl ⟨by rfl, ?hy15⟩) hHeld ?rr15
            case hy15 => (intro w' hSw; obtain ⟨g0, g1⟩ := hSw; go_simp; try with_reducible rfl)
            try simp only [Act.put, List.setIfInBounds_toArray, List.set_cons_zero, List.set_cons_succ, List.getElem_toArray, List.getElem_cons_succ, List.getElem_cons_zero]
            refine wpAnyH_take (i := 3) (v := ?vv16) rfl (by kernel_rfl) (by kernel_rfl) (by kernel_rfl) (fun _ _ _ h => h) (Or.inl ⟨by rfl, ?hy16⟩) hHeld ?rr16
            case hy16 => (intro w' hSw; obtain ⟨g0, g1⟩ := hSw; go_simp; try with_reducible rfl)
            try simp only [Act.put, List.setIfInBounds_toArray, List.set_cons_zero, List.set_cons_succ, List.getElem_toArray, List.getElem_cons_succ, List.getElem_cons_zero]
            refine wpAnyH_take (i := 4) (v := ?vv17) rfl (by kernel_rfl) (by kernel_rfl) (by kernel_rfl) (fun _ _ _ h => h) (Or.inl ⟨by rfl, ?hy17⟩) hHeld ?rr17
            case hy17 => (intro w' hSw; obtain ⟨g0, g1⟩ := hSw; go_simp; try with_reducible rfl)
            try simp only [Act.put, List.setIfInBounds_toArray, List.set_cons_zero, List.set_cons_succ, List.getElem_toArray, List.getElem_cons_succ, List.getElem_cons_zero]
            refine wpAnyH_take (i := 5) (v := ?vv18) rfl (by kernel_rfl) (by kernel_rfl) (by kernel_rfl) (fun _ _ _ h => h) (Or.inl ⟨by rfl, ?hy18⟩) hHeld ?rr18
            case hy18 => (intro w' hSw; obtain ⟨g0, g1⟩ := hSw; go_simp; try with_reducible rfl)
            try simp only [Act.put, List.setIfInBounds_toArray, List.set_cons_zero, List.set_cons_succ, List.getElem_toArray, List.getElem_cons_succ, List.getElem_cons_zero]
            refine wpAnyH_take (i := 6) (v := ?vv19) rfl (by kernel_rfl) (by kernel_rfl) (by kernel_rfl) (fun _ _ _ h => h) (Or.inl ⟨by rfl, ?hy19⟩) hHeld ?rr19
            case hy19 => (intro w' hSw; obtain ⟨g0, g1⟩ := hSw; go_simp; try with_reducible rfl)
            try simp only [Act.put, List.setIfInBounds_toArray, List.set_cons_zero, List.set_cons_succ, List.getElem_toArray, List.getElem_cons_succ, List.getElem_cons_zero]
            refine wpAnyH_take (i := 7) (v := ?vv20) rfl (by kernel_rfl) (by kernel_rfl) (by kernel_rfl) (fun _ _ _ h => h) (Or.inl ⟨by rfl, ?hy20⟩) hHeld ?rr20
            case hy20 => (intro w' hSw; obtain ⟨g0, g1⟩ := hSw; go_simp; try with_reducible rfl)
            try simp only [Act.put, List.setIfInBounds_toArray, List.set_cons_zero, List.set_cons_succ, List.getElem_toArray, List.getElem_cons_succ, List.getElem_cons_zero]
            refine wpAnyH_take (i := 8) (v := ?vv21) rfl (by kernel_rfl) (by kernel_rfl) (by kernel_rfl) (fun _ _ _ h => h) (Or.inl ⟨by rfl, ?hy21⟩) hHeld ?rr21
            case hy21 => (intro w' hSw; obtain ⟨g0, g1⟩ := hSw; go_simp; try with_reducible rfl)
            try simp only [Act.put, List.setIfInBounds_toArray, List.set_cons_zero, List.set_cons_succ, List.getElem_toArray, List.getElem_cons_succ, List.getElem_cons_zero]
            refine wpAnyH_take (i := 9) (v := ?vv22) rfl (by kernel_rfl) (by kernel_rfl) (by kernel_rfl) (fun _ _ _ h => h) (Or.inl ⟨by rfl, ?hy22⟩) hHeld ?rr22
            case hy22 => (intro w' hSw; obtain ⟨g0, g1⟩ := hSw; go_simp; try with_reducible rfl)
            try simp only [Act.put, List.setIfInBounds_toArray, List.set_cons_zero, List.set_cons_succ, List.getElem_toArray, List.getElem_cons_succ, List.getElem_cons_zero]
            refine wpAnyH_take (i := 10) (v := ?vv23) rfl (by kernel_rfl) (by kernel_rfl) (by kernel_rfl) (fun _ _ _ h => h) (Or.inl ⟨by rfl, ?hy23⟩) hHeld ?rr23
            case hy23 => (intro w' hSw; obtain ⟨g0, g1⟩ := hSw; go_simp; try with_reducible rfl)
            try simp only [Act.put, List.setIfInBounds_toArray, List.set_cons_zero, List.set_cons_succ, List.getElem_toArray, List.getElem_cons_succ, List.getElem_cons_zero]
            refine wpAnyH_ready (rs := [11]) (by kernel_rfl) (by simp) ?_
            refine AllReadyH.cons rfl (fun K hK => ?_) AllReadyH.nil
            try rw [if_pos (by rfl)]
            go_simp
            go_at_call 9
            refine Calls.mono (HSe.out _ (HX.out.later (Below.refl wr.heap.size wr).drew)) ?_
            rintro en w5 ⟨rfl, hq5, hb5⟩
            have HQ5 := Lib.hid hq5
            have HB5 : Hid (Below w.heap.size wr w5) := Lib.hid ((Below.refl _ _).drew.trans hb5)
            clear hq5 hb5
            go_wp2_with fail
            refine hK.out _ _ (HAt.out _ (HB.out.trans HB5.out)) (fun hHeld2 => ?_)
            clear hK K hHeld
            have hHeld := hHeld2
            clear hHeld2
            try simp only [Act.put, List.setIfInBounds_toArray, List.set_cons_zero, List.set_cons_succ, List.getElem_toArray, List.getElem_cons_succ, List.getElem_cons_zero]
            refine wpAnyH_take (i := 12) (v := ?vv24) rfl (by kernel_rfl) (by kernel_rfl) (by kernel_rfl) (fun _ _ _ h => h) (Or.inl ⟨by rfl, ?hy24⟩) hHeld ?rr24
            case hy24 => (intro w' hSw; obtain ⟨g0, g1⟩ := hSw; go_simp; try with_reducible rfl)
            try simp only [Act.put, List.setIfInBounds_toArray, List.set_cons_zero, List.set_cons_succ, List.getElem_toArray, List.getElem_cons_succ, List.getElem_cons_zero]
            refine wpAnyH_done (by kernel_rfl) ?_ _
            clear hHeld
            go_wp2
            go_roundw
            case rel => exact ⟨k + 1, _, m + 1, by omega, by omega, by omega, by go_num, by go_num, HQ5, Lib.hid (HB.out.trans HB5.out)⟩
            case measure => simp [intOf]; omega
        · have hk2' : ¬ (k : Int) < 200 := by omega
          go_wp2
          go_meet
          exact ⟨q, S, m, k, rfl, rfl, by omega, HX, HB⟩
      · have hk1' : ¬ (k : Int) < (n : Int) := by omega
        go_wp2
        go_meet
        exact ⟨q, S, m, k, rfl, rfl, by omega, HX, HB⟩
  case rest =>
    obtain ⟨q, S, m, k, rfl, rfl, hm200, HX, HB⟩ := hcut
    clear HL HLn HLi HN HX2 HB2 hm'
    go_wp2_with fail
    go_loopw [10, 11] (fun lv ov wr => ∃ (j : Nat) (S' : Tm → Prop) (last : Int), j ≤ m ∧ ov = .int .i64 (j : Int) ∧ lv = .int .i64 last ∧ Hid (QL w.heap.size wr q S' (m - j) (k : Int)) ∧ Hid (∀ u, S' u → last ≤ u.at_) ∧ Hid (Below w.heap.size w wr)) (fun _ ov _ => m - (intOf ov).toNat)
    case atStart => exact ⟨0, S, _, by omega, rfl, rfl, HX, Lib.hid (fun u hu => (HX.out.fit hu).1.1), HB⟩
    case round =>
      clear HX HB
      obtain ⟨j, S', last, hjm, rfl, rfl, HX, HM, HB⟩ := hrel
      have hjz : (0 : Int) ≤ (j : Int) := by omega
      have hjm' : (j : Int) ≤ (m : Int) := by omega
      by_cases hd : ∃ u, S' u ∧ u.at_ ≤ now
      · obtain ⟨d, hdm⟩ : ∃ d, m - j = d + 1 := by
          obtain ⟨u, hu, _⟩ := hd
          have := HX.out.pos hu
          exact ⟨m - j - 1, by omega⟩
        rw [hdm] at HX
        have HP := Lib.hid (popL_yes HX.out hd)
        have HD := Lib.hid hdm
        clear hd hdm
        go_wp2_with (first
          | (go_at_call 13; refine Calls.mono (by with_reducible exact HP.out) ?_; rintro en w3 ⟨t, rfl, hq3, hb3, hSt, hmin, htn⟩; have HB3 := Lib.hid ((HB.out.trans hb3).alloc (HB.out.trans hb3).size (.cells #[.int .i64 t.at_, .int .i64 t.id] 36)); have HQ3 := Lib.hid (hq3.later (below_alloc w3 (.cells #[.int .i64 t.at_, .int .i64 t.id] 36))); have hlast : decide (t.at_ < last) = false := (by rw [decide_eq_false_iff_not]; have := HM.out t hSt; omega); have hnw : decide (now < t.at_) = false := (by rw [decide_eq_false_iff_not]; omega); have HFt := Lib.hid (HX.out.fit hSt); have HMin : Hid (∀ u, S' u → t.at_ ≤ u.at_) := Lib.hid hmin; have HWh := Lib.hid (whenL_miss HQ3.out HFt.out.2.1.1 HFt.out.2.1.2 (fun u hu => hu.2)); clear hq3 hb3 hSt hmin htn HP)
          | (go_at_call 15; refine Calls.mono (by with_reducible exact HWh.out) ?_; rintro en w4 ⟨rfl, rfl⟩))
        go_roundw
        case rel => exact ⟨j + 1, (fun u => S' u ∧ u.id ≠ t.id), t.at_, by have := HD.out; omega, by go_num, rfl, Lib.hid (by rw [show m - (j + 1) = d by have := HD.out; omega]; exact HQ3.out), Lib.hid (fun u hu => HMin.out u hu.1), HB3⟩
        case measure => have := HD.out; simp [intOf]; omega
      · have hno : ∀ u, S' u → now < u.at_ := fun u hu => by
          have : ¬ u.at_ ≤ now := fun h => hd ⟨u, hu, h⟩
          omega
        have HNo := Lib.hid hno
        have HP := Lib.hid (popL_not HX.out hno)
        clear hd hno
        by_cases hz : m - j = 0
        · obtain rfl : j = m := by omega
          rw [Nat.sub_self] at HX HP
          clear hz
          go_wp2_with (first
            | (go_at_call 13; refine Calls.mono (by with_reducible exact HP.out) ?_; rintro en w3 ⟨rfl, hq3, hb3⟩; have HB3 := Lib.hid ((HB.out.trans hb3).alloc (HB.out.trans hb3).size (.cells #[.int .i64 0, .int .i64 0] 36)); have HQ3 := Lib.hid (hq3.later (below_alloc w3 (.cells #[.int .i64 0, .int .i64 0] 36))); have HNx := Lib.hid (nextL_none HQ3.out); clear hq3 hb3 HP)
            | (go_at_call 19; refine Calls.mono (by with_reducible exact HNx.out) ?_; rintro en w4 ⟨rfl, hb4⟩; have HB4 := Lib.hid (HB3.out.trans (hb4.mono HB3.out.size) |>.alloc (HB3.out.trans (hb4.mono HB3.out.size)).size (.cells #[.int .i64 0, .int .i64 0] 36)); have HLe := Lib.hid (lenL_is ((HQ3.out.later hb4).later (below_alloc w4 (.cells #[.int .i64 0, .int .i64 0] 36))) 0 rfl); clear hb4)
            | (go_at_call 20; refine Calls.mono (by with_reducible exact HLe.out) ?_; rintro en w5 ⟨rfl, rfl⟩))
          go_ret
          exact ⟨rfl, HB4.out⟩
        · obtain ⟨d, hdm⟩ : ∃ d, m - j = d + 1 := ⟨m - j - 1, by omega⟩
          have hjl : (j : Int) < (m : Int) := by omega
          rw [hdm] at HX HP
          have HD : Hid (((d + 1 : Nat) : Int) = (m : Int) - (j : Int)) := Lib.hid (by omega)
          clear hz hdm
          go_wp2_with (first
            | (go_at_call 13; refine Calls.mono (by with_reducible exact HP.out) ?_; rintro en w3 ⟨rfl, hq3, hb3⟩; have HB3 := Lib.hid ((HB.out.trans hb3).alloc (HB.out.trans hb3).size (.cells #[.int .i64 0, .int .i64 0] 36)); have HQ3 := Lib.hid (hq3.later (below_alloc w3 (.cells #[.int .i64 0, .int .i64 0] 36))); have HNx := Lib.hid (nextL_yes HQ3.out); clear hq3 hb3 HP)
            | (go_at_call 19; refine Calls.mono (by with_reducible exact HNx.out) ?_; rintro en w4 ⟨t, rfl, hb4, hSt⟩; have HB4 := Lib.hid (HB3.out.trans (hb4.mono HB3.out.size) |>.alloc (HB3.out.trans (hb4.mono HB3.out.size)).size (.cells #[.int .i64 t.at_, .int .i64 t.id] 36)); have HLe := Lib.hid (lenL_is ((HQ3.out.later hb4).later (below_alloc w4 (.cells #[.int .i64 t.at_, .int .i64 t.id] 36))) _ HD.out); have hnw : now < t.at_ := HNo.out t hSt; clear hb4 hSt)
            | (go_at_call 20; refine Calls.mono (by with_reducible exact HLe.out) ?_; rintro en w5 ⟨rfl, rfl⟩))
          go_ret
          exact ⟨rfl, HB4.out⟩
end Go.Proofs.Ytllkallodgbpmaa
