/- The law NextLeast. -/
import Derived.Test.YtnijneajlmgkjaaDoorNxtK
set_option linter.unusedSimpArgs false
set_option linter.unusedVariables false
namespace Go.Proofs.YtnijneajlmgkjaaDoor
open Go.ChangeShapes Go.WideShapes Go.ChangeAt Go.RowKit Go.Base Go.Civ Go.Nxt Go.Cro

set_option maxHeartbeats 2000000 in
theorem least_no (s : Sp) (t x q : Int) (hq : q = 1 ∨ q = 4) (w : World) (hv : Vars w) (hA : ∀ V, Vars V → Calls Tryd.prog 9 #[spV s, .int .i64 t] V fun e w' => e = .returned (.tuple #[.int .i64 0, .int .i64 q]) ∧ Below V.heap.size V w') :
    Calls Tryd.prog 3 #[spV s, .int .i64 t, .int .i64 x] w fun e w' => e = .returned (.bool true) ∧ Below w.heap.size w w' := by
  have HV := Lib.hid (fun (w' : World) (hb : Below w.heap.size w w') => hv.later hb)
  have HLi := Lib.hid (fun V hV => lives_any V hV)
  have HA := Lib.hid hA
  clear hv hA
  obtain ⟨smi, sho, sda, smo, swe, ad, aw⟩ := s
  simp only [spV] at HA ⊢
  have HBx := Lib.hid (below_alloc w (.cells (specC smi sho sda smo swe ad aw) 24 (0, 0)))
  rcases hq with rfl | rfl
  all_goals
   go_enter Tryd.func3, Tryd.ntmps3
   go_wp2_with (first
     | (go_at_call 9; refine (HA.out _ (HV.out _ HBx.out)).mono ?_; rintro e w1 ⟨rfl, hb1⟩; have HB1 := Lib.hid (HBx.out.trans (hb1.mono HBx.out.size)); clear hb1)
     | (go_at_call 10; refine (HLi.out _ (HV.out _ HB1.out)).mono ?_; rintro e w2 ⟨rfl, hb2⟩; have HB2 := Lib.hid (HB1.out.trans (hb2.mono HB1.out.size)); clear hb2))
   go_ret
   exact ⟨rfl, HB2.out⟩

set_option maxHeartbeats 4000000 in
theorem least_yes (s : Sp) (t x a : Int) (t0 : -9223372036854775808 ≤ t ∧ t ≤ 9223372036854775807) (x0 : -9223372036854775808 ≤ x ∧ x ≤ 9223372036854775807) (w : World) (hv : Vars w)
    (hA : ∀ V, Vars V → Calls Tryd.prog 9 #[spV s, .int .i64 t] V fun e w' => e = .returned (.tuple #[.int .i64 a, .int .i64 0]) ∧ Below V.heap.size V w')
    (g : Int → Bool) (hG : ∀ z V, Vars V → Calls Tryd.prog 11 #[spV s, .int .i64 z] V fun e w' => e = .returned (.bool (g z)) ∧ Below V.heap.size V w')
    (hlt : t < a) (ha : a % 60 = 0) (hga : g a = true) (tlo : -62135596800 ≤ t) (ahi : a ≤ 253402300740) (hfree : t < x → x < a → g (x - x % 60) = true → x - x % 60 ≤ t) :
    Calls Tryd.prog 3 #[spV s, .int .i64 t, .int .i64 x] w fun e w' => e = .returned (.bool true) ∧ Below w.heap.size w w' := by
  have HV := Lib.hid (fun (w' : World) (hb : Below w.heap.size w w') => hv.later hb)
  have HLi := Lib.hid (fun V hV => lives_any V hV)
  have HA := Lib.hid hA
  have HG := Lib.hid (hG a)
  have HG2 := Lib.hid (hG (x - x % 60))
  rw [hga] at HG
  have HFr := Lib.hid hfree
  have htm := tm_zero ha
  have hb3 := tm_bd x
  have h60 := tm60 x
  have hw60 : IntKind.i64.wrap (Int.tmod x 60 + 60) = Int.tmod x 60 + 60 := IntWalk.i64_in _ ⟨by omega, by omega⟩
  clear hv hA hG hga hfree
  obtain ⟨smi, sho, sda, smo, swe, ad, aw⟩ := s
  simp only [spV] at HA HG HG2 ⊢
  have HBx := Lib.hid (below_alloc w (.cells (specC smi sho sda smo swe ad aw) 24 (0, 0)))
  by_cases hout : x ≤ t ∨ a ≤ x
  · rcases (show x ≤ t ∨ (t < x ∧ a ≤ x) by omega) with hx | ⟨hx, hx2⟩
    all_goals
        go_enter Tryd.func3, Tryd.ntmps3
        go_wp2_with (first
          | (go_at_call 9; refine (HA.out _ (HV.out _ HBx.out)).mono ?_; rintro e w1 ⟨rfl, hb1⟩; have HB1 := Lib.hid hb1; clear hb1)
          | (go_at_call 10; refine (HLi.out _ (HV.out _ (HBx.out.trans (HB1.out.mono HBx.out.size)))).mono ?_; rintro e w2 ⟨rfl, hb2⟩; have HB2 := Lib.hid (HB1.out.trans (hb2.mono HB1.out.size)); clear hb2; obtain ⟨g0, g1, g2, g3, g4, g5, g6⟩ := sp_cells HB2.out)
          | (go_at_call 11; refine (HG.out _ (HV.out _ (HBx.out.trans (HB2.out.mono HBx.out.size)))).mono ?_; rintro e w3 ⟨rfl, hb3⟩; have HB3 := Lib.hid (HB2.out.trans (hb3.mono HB2.out.size)); clear hb3 g0 g1 g2 g3 g4 g5 g6; obtain ⟨g0, g1, g2, g3, g4, g5, g6⟩ := sp_cells HB3.out))
        go_ret
        exact ⟨rfl, HBx.out.trans (HB3.out.mono HBx.out.size)⟩
  · have hx1 : t < x := by omega
    have hx2 : x < a := by omega
    clear hout
    have tA : True := trivial
    generalize hgx : g (x - x % 60) = b at *
    have hws : IntKind.i64.wrap (x - x % 60) = x - x % 60 := IntWalk.i64_in _ ⟨by omega, by omega⟩
    have hb : b = false ∨ (b = true ∧ x - x % 60 ≤ t) := by cases b; exact .inl rfl; exact .inr ⟨rfl, HFr.out hx1 hx2 rfl⟩
    clear HFr
    rcases hb with rfl | ⟨rfl, hle⟩
    all_goals
        go_enter Tryd.func3, Tryd.ntmps3
        go_wp2_with (first
          | (go_at_call 9; refine (HA.out _ (HV.out _ HBx.out)).mono ?_; rintro e w1 ⟨rfl, hb1⟩; have HB1 := Lib.hid hb1; clear hb1)
          | (go_at_call 10; refine (HLi.out _ (HV.out _ (HBx.out.trans (HB1.out.mono HBx.out.size)))).mono ?_; rintro e w2 ⟨rfl, hb2⟩; have HB2 := Lib.hid (HB1.out.trans (hb2.mono HB1.out.size)); clear hb2; obtain ⟨g0, g1, g2, g3, g4, g5, g6⟩ := sp_cells HB2.out)
          | (clear tA; go_at_call 11; refine (HG.out _ (HV.out _ (HBx.out.trans (HB2.out.mono HBx.out.size)))).mono ?_; rintro e w3 ⟨rfl, hb3⟩; have HB3 := Lib.hid (HB2.out.trans (hb3.mono HB2.out.size)); clear hb3 g0 g1 g2 g3 g4 g5 g6; obtain ⟨g0, g1, g2, g3, g4, g5, g6⟩ := sp_cells HB3.out)
          | (go_at_call 11; (try rw [hw60, h60, hws]); refine (HG2.out _ (HV.out _ (HBx.out.trans (HB3.out.mono HBx.out.size)))).mono ?_; rintro e w4 ⟨rfl, hb4⟩; have HB4 := Lib.hid (HB3.out.trans (hb4.mono HB3.out.size)); clear hb4))
        go_ret
        exact ⟨rfl, HBx.out.trans (HB4.out.mono HBx.out.size)⟩

theorem tmB_in {t : Int} (h : tmB t = true) : -62135596800 ≤ t ∧ t ≤ 253402300799 := by
  unfold tmB bndB at h
  have h := eq_of_beq h
  split at h
  · omega
  · split at h <;> omega
theorem law_least (s : Sp) (hs : SpOk s) (t x : Int) (t0 : -9223372036854775808 ≤ t ∧ t ≤ 9223372036854775807) (x0 : -9223372036854775808 ≤ x ∧ x ≤ 9223372036854775807) (w : World) (hv : Vars w) :
    Calls Tryd.prog 3 #[spV s, .int .i64 t, .int .i64 x] w fun e w' => e = .returned (.bool true) ∧ Below w.heap.size w w' := by
  cases hm : (mayB s && tmB t) with
  | false => exact least_no s t x 1 (.inl rfl) w hv (fun V hV => after_no s t hm V hV)
  | true =>
    obtain ⟨hm1, hm2⟩ := Bool.and_eq_true_iff.1 hm
    obtain ⟨H, hH⟩ : ∃ H : Nat, s.ho = H := ⟨s.ho.toNat, by have := hs.ho.1; omega⟩
    obtain ⟨M, hM⟩ : ∃ M : Nat, s.mi = M := ⟨s.mi.toNat, by have := hs.mi.1; omega⟩
    obtain ⟨uH, uM⟩ := may_under hs hm1 hM hH
    obtain ⟨g, hG, hg⟩ := matches_all s hs H M hM hH uH uM
    have ht := tmB_in hm2
    obtain ⟨L, hr, hc⟩ := after_any s hs H M hM hH uH uM hm1 t ht.1 ht.2
    cases L with
    | nil => exact least_no s t x 4 (.inr rfl) w hv hc
    | cons a r =>
      have ha := (hr.2 a).1 List.mem_cons_self
      have hb := mt_bd uH uM ha.1
      have hge : fl t 60 + 60 ≤ a := ha.2
      have hfl : fl t 60 = t - t % 60 := by unfold fl; omega
      have e0 : a - a % 60 = a := by omega
      refine least_yes s t x a t0 x0 w hv hc g hG (by omega) hb.2.2 ((hg a).2 (by rw [e0]; exact ha.1)) ht.1 hb.2.1 (fun h1 h2 h3 => ?_)
      by_cases hle : x - x % 60 ≤ t
      · exact hle
      · exfalso
        have hmt := (hg _).1 h3
        have e1 : (x - x % 60) - (x - x % 60) % 60 = x - x % 60 := by omega
        rw [e1] at hmt
        have hin : x - x % 60 ∈ a :: r := (hr.2 _).2 ⟨hmt, by show fl t 60 + 60 ≤ x - x % 60; omega⟩
        rcases List.mem_cons.1 hin with h | h
        · omega
        · have := (List.pairwise_cons.1 hr.1).1 _ h
          simp only [ltd] at this
          simp at this
          omega
end Go.Proofs.YtnijneajlmgkjaaDoor
