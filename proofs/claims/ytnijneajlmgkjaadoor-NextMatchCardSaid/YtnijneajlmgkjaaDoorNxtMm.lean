/- The law NextMatch. -/
import Derived.Test.YtnijneajlmgkjaaDoorNxtK
import Derived.Test.YtnijneajlmgkjaaDoorNxtL
set_option linter.unusedSimpArgs false
set_option linter.unusedVariables false
namespace Go.Proofs.YtnijneajlmgkjaaDoor
open Go.ChangeShapes Go.WideShapes Go.ChangeAt Go.RowKit Go.Base Go.Civ Go.Nxt Go.Cro

set_option maxHeartbeats 4000000 in
theorem match_out (s : Sp) (t : Int) (t0 : -9223372036854775808 ≤ t ∧ t ≤ 9223372036854775807) (w : World) (hv : Vars w) (h : t ≤ -62135596800 ∨ 253402300799 ≤ t ∨ ¬ t % 60 = 0 ∨ mayB s = false) :
    Calls Tryd.prog 7 #[spV s, .int .i64 t] w fun e w' => e = .returned (.bool true) ∧ Below w.heap.size w w' := by
  have HV := Lib.hid (fun (w' : World) (hb : Below w.heap.size w w') => hv.later hb)
  have HLi := Lib.hid (fun V hV => lives_any V hV)
  have HMy := Lib.hid (fun V hV => may_any s V hV)
  clear hv
  have hh : t ≤ -62135596800 ∨ (-62135596800 < t ∧ 253402300799 ≤ t) ∨ (-62135596800 < t ∧ t < 253402300799 ∧ ¬ Int.tmod t 60 = 0) ∨ (-62135596800 < t ∧ t < 253402300799 ∧ Int.tmod t 60 = 0 ∧ mayB s = false) := by
    by_cases h1 : t ≤ -62135596800
    · exact .inl h1
    · by_cases h2 : 253402300799 ≤ t
      · exact .inr (.inl ⟨by omega, h2⟩)
      · by_cases h3 : t % 60 = 0
        · rcases h with h | h | h | h
          · omega
          · omega
          · exact absurd h3 h
          · exact .inr (.inr (.inr ⟨by omega, by omega, tm_zero h3, h⟩))
        · exact .inr (.inr (.inl ⟨by omega, by omega, tm_not h3⟩))
  clear h
  generalize mayB s = my at *
  obtain ⟨smi, sho, sda, smo, swe, ad, aw⟩ := s
  simp only [spV] at HMy ⊢
  have HBx := Lib.hid (below_alloc w (.cells (specC smi sho sda smo swe ad aw) 24 (0, 0)))
  rcases hh with h1 | ⟨h1, h2⟩ | ⟨h1, h2, h3⟩ | ⟨h1, h2, h3, h4⟩
  case inr.inr.inr =>
    rw [h4] at HMy
    clear h4
    go_enter Tryd.func7, Tryd.ntmps7
    go_wp2_with (first
      | (go_at_call 17; refine (HMy.out _ (HV.out _ HBx.out).sc).mono ?_; rintro e w1 ⟨rfl, hb1⟩; have HB1 := Lib.hid (HBx.out.trans (hb1.mono HBx.out.size)); clear hb1)
      | (go_at_call 10; refine (HLi.out _ (HV.out _ HB1.out)).mono ?_; rintro e w2 ⟨rfl, hb2⟩; have HB2 := Lib.hid (HB1.out.trans (hb2.mono HB1.out.size)); clear hb2))
    go_ret
    exact ⟨rfl, HB2.out⟩
  all_goals
    go_enter Tryd.func7, Tryd.ntmps7
    go_wp2_with (go_at_call 10; refine (HLi.out _ (HV.out _ HBx.out)).mono ?_; rintro e w1 ⟨rfl, hb1⟩; have HB1 := Lib.hid (HBx.out.trans (hb1.mono HBx.out.size)); clear hb1)
    go_ret
    exact ⟨rfl, HB1.out⟩

set_option maxHeartbeats 8000000 in
theorem match_in (s : Sp) (t a e b f c : Int) (mb : Bool) (t1 : -62135596800 < t) (t2 : t < 253402300799) (t3 : Int.tmod t 60 = 0) (hm : mayB s = true) (w : World) (hv : Vars w)
    (hB : ∀ V, Vars V → Calls Tryd.prog 18 #[spV s, .int .i64 (t + 1)] V fun x w' => x = .returned (.tuple #[.int .i64 a, .int .i64 e]) ∧ Below V.heap.size V w')
    (hA : ∀ V, Vars V → Calls Tryd.prog 9 #[spV s, .int .i64 (t - 1)] V fun x w' => x = .returned (.tuple #[.int .i64 b, .int .i64 f]) ∧ Below V.heap.size V w')
    (hG : ∀ V, Vars V → Calls Tryd.prog 11 #[spV s, .int .i64 t] V fun x w' => x = .returned (.bool mb) ∧ Below V.heap.size V w')
    (hC : ∀ V, Vars V → Calls Tryd.prog 12 #[spV s, .int .i64 t, .int .i64 (t + 1)] V fun x w' => x = .returned (.int .i64 c) ∧ Below V.heap.size V w')
    (h : (mb = true ∧ a = t ∧ e = 0 ∧ b = t ∧ f = 0 ∧ c = 1) ∨ (mb = false ∧ (e = 4 ∨ (e = 0 ∧ a ≠ t)) ∧ (f = 4 ∨ (f = 0 ∧ b ≠ t)) ∧ c = 0)) :
    Calls Tryd.prog 7 #[spV s, .int .i64 t] w fun e w' => e = .returned (.bool true) ∧ Below w.heap.size w w' := by
  have HV := Lib.hid (fun (w' : World) (hb : Below w.heap.size w w') => hv.later hb)
  have HLi := Lib.hid (fun V hV => lives_any V hV)
  have HMy := Lib.hid (fun V hV => may_any s V hV)
  rw [hm] at HMy
  have HBe := Lib.hid hB
  have HA := Lib.hid hA
  have HG := Lib.hid hG
  have HC := Lib.hid hC
  clear hv hA hG hC hB hm
  obtain ⟨smi, sho, sda, smo, swe, ad, aw⟩ := s
  simp only [spV] at HMy HBe HA HG HC ⊢
  have HBx := Lib.hid (below_alloc w (.cells (specC smi sho sda smo swe ad aw) 24 (0, 0)))
  rcases h with ⟨rfl, rfl, rfl, rfl, rfl, rfl⟩ | ⟨rfl, (rfl | ⟨rfl, ha⟩), (rfl | ⟨rfl, hb⟩), rfl⟩
  all_goals
    go_enter Tryd.func7, Tryd.ntmps7
    go_wp2_with (first
      | (go_at_call 17; refine (HMy.out _ (HV.out _ HBx.out).sc).mono ?_; rintro e w1 ⟨rfl, hb1⟩; have HB1 := Lib.hid hb1; clear hb1; obtain ⟨g0, g1, g2, g3, g4, g5, g6⟩ := sp_cells HB1.out)
      | (go_at_call 18; refine (HBe.out _ (HV.out _ (HBx.out.trans (HB1.out.mono HBx.out.size)))).mono ?_; rintro e w2 ⟨rfl, hb2⟩; have HB2 := Lib.hid (HB1.out.trans (hb2.mono HB1.out.size)); clear hb2 g0 g1 g2 g3 g4 g5 g6; obtain ⟨g0, g1, g2, g3, g4, g5, g6⟩ := sp_cells HB2.out)
      | (go_at_call 9; refine (HA.out _ (HV.out _ (HBx.out.trans (HB2.out.mono HBx.out.size)))).mono ?_; rintro e w3 ⟨rfl, hb3⟩; have HB3 := Lib.hid (HB2.out.trans (hb3.mono HB2.out.size)); clear hb3)
      | (go_at_call 10; refine (HLi.out _ (HV.out _ (HBx.out.trans (HB3.out.mono HBx.out.size)))).mono ?_; rintro e w4 ⟨rfl, hb4⟩; have HB4 := Lib.hid (HB3.out.trans (hb4.mono HB3.out.size)); clear hb4 g0 g1 g2 g3 g4 g5 g6; obtain ⟨g0, g1, g2, g3, g4, g5, g6⟩ := sp_cells HB4.out)
      | (go_at_call 11; refine (HG.out _ (HV.out _ (HBx.out.trans (HB4.out.mono HBx.out.size)))).mono ?_; rintro e w5 ⟨rfl, hb5⟩; have HB5 := Lib.hid (HB4.out.trans (hb5.mono HB4.out.size)); clear hb5 g0 g1 g2 g3 g4 g5 g6; obtain ⟨g0, g1, g2, g3, g4, g5, g6⟩ := sp_cells HB5.out)
      | (go_at_call 12; refine (HC.out _ (HV.out _ (HBx.out.trans (HB5.out.mono HBx.out.size)))).mono ?_; rintro e w6 ⟨rfl, hb6⟩; have HB6 := Lib.hid (HB5.out.trans (hb6.mono HB5.out.size)); clear hb6))
    go_ret
    first
      | exact ⟨rfl, HBx.out.trans (HB6.out.mono HBx.out.size)⟩
      | (refine ⟨?_, HBx.out.trans (HB6.out.mono HBx.out.size)⟩; go_simp; done)
      | (refine ⟨?_, HBx.out.trans (HB6.out.mono HBx.out.size)⟩; go_simp; simp_all; done)

theorem bndB_id {t : Int} (h1 : -62135596800 ≤ t) (h2 : t ≤ 253402300799) : bndB t = t := by
  unfold bndB
  split
  · omega
  · split <;> omega
/-- The first of a run that holds, or does not hold, the place asked for. -/
theorem run_first {d : Bool} {s : Sp} {H M : Nat} {t : Int} {L : List Int} (h : Run d s H M t L) (hm : Mt s H M t) : ∃ r, L = t :: r := by
  have hin : t ∈ L := (h.2 t).2 ⟨hm, by split <;> exact Int.le_refl _⟩
  cases L with
  | nil => cases hin
  | cons x r =>
    rcases List.mem_cons.1 hin with e | e
    · exact ⟨r, by rw [e]⟩
    · exfalso
      have h1 := (List.pairwise_cons.1 h.1).1 _ e
      have h2 := ((h.2 x).1 List.mem_cons_self).2
      cases d <;> simp [ltd] at h1 h2 <;> omega
theorem law_match (s : Sp) (hs : SpOk s) (t : Int) (t0 : -9223372036854775808 ≤ t ∧ t ≤ 9223372036854775807) (w : World) (hv : Vars w) :
    Calls Tryd.prog 7 #[spV s, .int .i64 t] w fun e w' => e = .returned (.bool true) ∧ Below w.heap.size w w' := by
  by_cases hin : -62135596800 < t ∧ t < 253402300799 ∧ t % 60 = 0 ∧ mayB s = true
  · obtain ⟨t1, t2, t3, hm⟩ := hin
    obtain ⟨H, hH⟩ : ∃ H : Nat, s.ho = H := ⟨s.ho.toNat, by have := hs.ho.1; omega⟩
    obtain ⟨M, hM⟩ : ∃ M : Nat, s.mi = M := ⟨s.mi.toNat, by have := hs.mi.1; omega⟩
    obtain ⟨uH, uM⟩ := may_under hs hm hM hH
    obtain ⟨g, hG, hg⟩ := matches_all s hs H M hM hH uH uM
    obtain ⟨L1, r1, c1⟩ := after_any s hs H M hM hH uH uM hm (t - 1) (by omega) (by omega)
    obtain ⟨L2, r2, c2⟩ := before_any s hs H M hM hH uH uM hm (t + 1) (by omega) (by omega)
    obtain ⟨C, IC, hC⟩ := count_any s hs hm H M hM hH uH uM t (t + 1)
    rw [bndB_id (by omega) (by omega), bndB_id (by omega) (by omega)] at IC
    have e1 : fl (t - 1) 60 + 60 = t := by unfold fl; omega
    have e2 : fl (t + 1 - 1) 60 = t := by unfold fl; omega
    rw [e1] at r1
    rw [e2] at r2
    have e3 : t - t % 60 = t := by omega
    have hgt := hg t
    rw [e3] at hgt
    by_cases hmt : Mt s H M t
    · obtain ⟨x1, rfl⟩ := run_first r1 hmt
      obtain ⟨x2, rfl⟩ := run_first r2 hmt
      have hC1 : C = [t] := IC.unique (L' := [t]) ⟨List.pairwise_singleton _ _, fun x => ⟨fun h => by simp at h; subst h; exact ⟨hmt, by omega, by omega⟩, fun h => by simp; omega⟩⟩
      rw [hC1] at hC
      exact match_in s t t 0 t 0 1 true t1 t2 (tm_zero t3) hm w hv c2 c1 (fun V hV => by have h9 := hG t V hV; rw [hgt.2 hmt] at h9; exact h9) hC (.inl ⟨rfl, rfl, rfl, rfl, rfl, rfl⟩)
    · have hgf : g t = false := by cases h9 : g t; rfl; exact absurd (hgt.1 h9) hmt
      have hC0 : C = [] := IC.unique (L' := []) (IV.empty (fun x hx h1 h2 => hmt (by have h9 : x = t := (by omega); rw [← h9]; exact hx)))
      rw [hC0] at hC
      have first : ∀ (d : Bool) (L : List Int), Run d s H M t L → ∃ a e, fstV L = .tuple #[.int .i64 a, .int .i64 e] ∧ (e = 4 ∨ (e = 0 ∧ a ≠ t)) := fun d L h => by
        cases L with
        | nil => exact ⟨0, 4, rfl, .inl rfl⟩
        | cons x r => exact ⟨x, 0, rfl, .inr ⟨rfl, fun h9 => hmt (by rw [← h9]; exact ((h.2 x).1 List.mem_cons_self).1)⟩⟩
      obtain ⟨b, f, q1, k1⟩ := first true L1 r1
      obtain ⟨a, e, q2, k2⟩ := first false L2 r2
      rw [q1] at c1
      rw [q2] at c2
      exact match_in s t a e b f 0 false t1 t2 (tm_zero t3) hm w hv c2 c1 (fun V hV => by have h9 := hG t V hV; rw [hgf] at h9; exact h9) hC (.inr ⟨rfl, k2, k1, rfl⟩)
  · refine match_out s t t0 w hv ?_
    by_cases h1 : t ≤ -62135596800
    · exact .inl h1
    · by_cases h2 : 253402300799 ≤ t
      · exact .inr (.inl h2)
      · by_cases h3 : t % 60 = 0
        · refine .inr (.inr (.inr ?_))
          cases h9 : mayB s with
          | false => rfl
          | true => exact absurd ⟨by omega, by omega, h3, h9⟩ hin
        · exact .inr (.inr (.inl h3))
end Go.Proofs.YtnijneajlmgkjaaDoor
