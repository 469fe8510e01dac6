/- The law QueueDoes, upon the contract of 'looks'. -/
import Derived.Test.YtllkallodgbpmaaQrH
import Derived.Test.YtllkallodgbpmaaQueS
set_option linter.unusedSimpArgs false
set_option linter.unusedVariables false
namespace Go.Proofs.Ytllkallodgbpmaa
open Go.ChangeShapes Go.WideShapes Go.ChangeAt Go.RowKit Go.Base Go.Que

/-- What 'looks' answers. -/
def LooksTrue : Prop := ∀ (w : World) (P : Nat → Prop) (q x : Nat) (k : Int) (V : World), Both w P q x k V → Calls Try.prog 18 #[.pointer (some ⟨q, 0, none⟩), .pointer (some ⟨x, 0, none⟩)] V fun e V' => e = .returned (.bool true) ∧ Below V.heap.size V V'
set_option maxHeartbeats 8000000 in
set_option maxRecDepth 20000 in
theorem law_does_of (HK : LooksTrue) (A : Option Addr) (l : List (Nat → Int)) (n c : Nat) (w : World) (hl : IRows w A 3 l) (hn : l.length = n) (hm : n ≤ maxLen) :
    Calls Try.prog 3 #[.slice A n c] w fun e w' => e = .returned (.bool true) ∧ Below w.heap.size w w' := by
  have HLi := Lib.hid (fun V => qlives_any V)
  have HN := Lib.hid (both_start w)
  unfold maxLen at hm
  have hm' : (n : Int) ≤ 9223372036854775807 := by omega
  have HL := Lib.hid hl
  have HLn := Lib.hid hn
  have HLk := Lib.hid HK
  clear hl hn HK
  go_enter Try.func3, Try.ntmps3
  go_wp2_with (first
    | (go_at_call 7; refine Calls.mono (by with_reducible exact HN.out) ?_; rintro e w1 ⟨q, rfl, hx⟩; have HX1 := Lib.hid hx; clear hx)
    | (go_at_call 8; refine Calls.mono (by with_reducible exact HLi.out _) ?_; rintro e w2 ⟨rfl, hb⟩; have HX2 := Lib.hid ((HX1.out.later hb).less (P' := fun _ => False) (fun _ h => h.elim)); clear hb HX1))
  obtain ⟨x, hx⟩ : ∃ x, x = w1.heap.size := ⟨_, rfl⟩
  rw [← hx] at HX2 ⊢
  clear hx
  go_loopw [3, 5] (fun qv iv wr => ∃ (k q : Nat), k ≤ n ∧ qv = .pointer (some ⟨q, 0, none⟩) ∧ iv = .int .i64 (k : Int) ∧ Hid (Both w (fun _ => False) q x (k : Int) wr)) (fun _ iv _ => n - (intOf iv).toNat)
  case atStart => exact ⟨0, q, by omega, rfl, rfl, HX2⟩
  case round =>
    clear HX2
    obtain ⟨k, q, hkn, rfl, rfl, HX⟩ := hrel
    have hkz : (0 : Int) ≤ (k : Int) := by omega
    by_cases hk1 : k < n
    · have hk1' : (k : Int) < (n : Int) := by omega
      have hh : k < l.length := by rw [HLn.out]; exact hk1
      obtain ⟨g, o, rfl, hc⟩ := HL.out k hh
      have HAt : Hid (∀ V, Below w.heap.size w V → V.cell? ⟨g, o + k * 3, none⟩ = some (.int .i64 (l[k] 0)) ∧ V.cell? ⟨g, o + k * 3 + 1, none⟩ = some (.int .i64 (l[k] 1)) ∧ V.cell? ⟨g, o + k * 3 + 2, none⟩ = some (.int .i64 (l[k] 2))) := Lib.hid (fun V hV => ⟨cell_later hV (hc 0 (by omega)).1, cell_later hV (hc 1 (by omega)).1, cell_later hV (hc 2 (by omega)).1⟩)
      have HF1 : Hid (fits (l[k] 1)) := Lib.hid (hc 1 (by omega)).2
      have HF2 : Hid (fits (l[k] 2)) := Lib.hid (hc 2 (by omega)).2
      obtain ⟨x0, hx0⟩ : ∃ x, x = l[k] 0 := ⟨_, rfl⟩
      obtain ⟨x1, hx1⟩ : ∃ x, x = l[k] 1 := ⟨_, rfl⟩
      obtain ⟨x2, hx2⟩ : ∃ x, x = l[k] 2 := ⟨_, rfl⟩
      rw [← hx0, ← hx1, ← hx2] at HAt
      rw [← hx1] at HF1
      rw [← hx2] at HF2
      clear hc hx0 hx1 hx2 hh
      obtain ⟨c0, c1, c2⟩ := HAt.out _ HX.out.below
      have HB0 : Hid (Both w (fun j => j = wr.heap.size) q x (k : Int) (wr.alloc (.cells #[.int .i64 x0, .int .i64 x1, .int .i64 x2] 31))) := Lib.hid ((HX.out.later (below_alloc wr (.cells #[.int .i64 x0, .int .i64 x1, .int .i64 x2] 31))).less (fun j hj => .inr (by simp; omega)))
      have HP0 : Hid (∀ j, j = wr.heap.size → j < (wr.alloc (.cells #[.int .i64 x0, .int .i64 x1, .int .i64 x2] 31)).heap.size) := Lib.hid (fun j hj => by simp; omega)
      have HO0 : Hid ((wr.alloc (.cells #[.int .i64 x0, .int .i64 x1, .int .i64 x2] 31)).heap[wr.heap.size]? = some (.cells #[.int .i64 x0, .int .i64 x1, .int .i64 x2] 31 (0, 0))) := Lib.hid (heap_new wr _)
      by_cases h1 : x0 = 1
      · subst h1
        have HBd : Hid (Both w (fun j => j = wr.heap.size) q x (k : Int) (wr.alloc (.cells #[.int .i64 1, .int .i64 x1, .int .i64 x2] 31)).drew) := Lib.hid ((HB0.out.later ((Below.refl _ _).drew)).less (fun j hj => .inl hj))
        have HOd : Hid ((wr.alloc (.cells #[.int .i64 1, .int .i64 x1, .int .i64 x2] 31)).drew.heap[wr.heap.size]? = some (.cells #[.int .i64 1, .int .i64 x1, .int .i64 x2] 31 (0, 0))) := HO0
        obtain ⟨r, hp⟩ := pair_set HBd.out HP0.out HF1.out HF2.out (by omega)
        have HPr := Lib.hid hp
        clear hp
        go_wp2_with fail
        refine wp_region_held_drew (S := (fun w' => w'.cell? ⟨wr.heap.size, 1, none⟩ = some (.int .i64 x1) ∧ w'.cell? ⟨wr.heap.size, 2, none⟩ = some (.int .i64 x2))) (by kernel_rfl) ⟨cell_of_row _ _ 1 _ _ _ HOd.out, cell_of_row _ _ 2 _ _ _ HOd.out⟩ (fun hHeld => ?_)
        refine wpAnyH_take (i := 0) (v := ?vv1) rfl (by kernel_rfl) (by kernel_rfl) (by kernel_rfl) (fun _ _ _ h => h) (Or.inl ⟨by rfl, ?hy1⟩) hHeld ?rr1
        case hy1 => (intro w' hSw; obtain ⟨g1, g2⟩ := hSw; go_simp; try with_reducible rfl)
        try simp only [Act.put, List.setIfInBounds_toArray, List.set_cons_zero, List.set_cons_succ, List.getElem_toArray, List.getElem_cons_succ, List.getElem_cons_zero]
        refine wpAnyH_take (i := 1) (v := ?vv2) rfl (by kernel_rfl) (by kernel_rfl) (by kernel_rfl) (fun _ _ _ h => h) (Or.inl ⟨by rfl, ?hy2⟩) hHeld ?rr2
        case hy2 => (intro w' hSw; obtain ⟨g1, g2⟩ := hSw; go_simp; try with_reducible rfl)
        try simp only [Act.put, List.setIfInBounds_toArray, List.set_cons_zero, List.set_cons_succ, List.getElem_toArray, List.getElem_cons_succ, List.getElem_cons_zero]
        refine wpAnyH_take (i := 2) (v := ?vv3) rfl (by kernel_rfl) (by kernel_rfl) (by kernel_rfl) (fun _ _ _ h => h) (Or.inl ⟨by rfl, ?hy3⟩) hHeld ?rr3
        case hy3 => (intro w' hSw; obtain ⟨g1, g2⟩ := hSw; go_simp; try with_reducible rfl)
        try simp only [Act.put, List.setIfInBounds_toArray, List.set_cons_zero, List.set_cons_succ, List.getElem_toArray, List.getElem_cons_succ, List.getElem_cons_zero]
        refine wpAnyH_take (i := 3) (v := ?vv4) rfl (by kernel_rfl) (by kernel_rfl) (by kernel_rfl) (fun _ _ _ h => h) (Or.inl ⟨by rfl, ?hy4⟩) hHeld ?rr4
        case hy4 => (intro w' hSw; obtain ⟨g1, g2⟩ := hSw; go_simp; try with_reducible rfl)
        try simp only [Act.put, List.setIfInBounds_toArray, List.set_cons_zero, List.set_cons_succ, List.getElem_toArray, List.getElem_cons_succ, List.getElem_cons_zero]
        refine wpAnyH_take (i := 4) (v := ?vv5) rfl (by kernel_rfl) (by kernel_rfl) (by kernel_rfl) (fun _ _ _ h => h) (Or.inl ⟨by rfl, ?hy5⟩) hHeld ?rr5
        case hy5 => (intro w' hSw; obtain ⟨g1, g2⟩ := hSw; go_simp; try with_reducible rfl)
        try simp only [Act.put, List.setIfInBounds_toArray, List.set_cons_zero, List.set_cons_succ, List.getElem_toArray, List.getElem_cons_succ, List.getElem_cons_zero]
        refine wpAnyH_take (i := 6) (v := ?vv6) rfl (by kernel_rfl) (by kernel_rfl) (by kernel_rfl) (fun _ _ _ h => h) (Or.inl ⟨by rfl, ?hy6⟩) hHeld ?rr6
        case hy6 => (intro w' hSw; obtain ⟨g1, g2⟩ := hSw; go_simp; try with_reducible rfl)
        try simp only [Act.put, List.setIfInBounds_toArray, List.set_cons_zero, List.set_cons_succ, List.getElem_toArray, List.getElem_cons_succ, List.getElem_cons_zero]
        refine wpAnyH_take (i := 7) (v := ?vv7) rfl (by kernel_rfl) (by kernel_rfl) (by kernel_rfl) (fun _ _ _ h => h) (Or.inl ⟨by rfl, ?hy7⟩) hHeld ?rr7
        case hy7 => (intro w' hSw; obtain ⟨g1, g2⟩ := hSw; go_simp; try with_reducible rfl)
        try simp only [Act.put, List.setIfInBounds_toArray, List.set_cons_zero, List.set_cons_succ, List.getElem_toArray, List.getElem_cons_succ, List.getElem_cons_zero]
        refine wpAnyH_take (i := 8) (v := ?vv8) rfl (by kernel_rfl) (by kernel_rfl) (by kernel_rfl) (fun _ _ _ h => h) (Or.inl ⟨by rfl, ?hy8⟩) hHeld ?rr8
        case hy8 => (intro w' hSw; obtain ⟨g1, g2⟩ := hSw; go_simp; try with_reducible rfl)
        try simp only [Act.put, List.setIfInBounds_toArray, List.set_cons_zero, List.set_cons_succ, List.getElem_toArray, List.getElem_cons_succ, List.getElem_cons_zero]
        refine wpAnyH_take (i := 9) (v := ?vv9) rfl (by kernel_rfl) (by kernel_rfl) (by kernel_rfl) (fun _ _ _ h => h) (Or.inl ⟨by rfl, ?hy9⟩) hHeld ?rr9
        case hy9 => (intro w' hSw; obtain ⟨g1, g2⟩ := hSw; go_simp; try with_reducible rfl)
        try simp only [Act.put, List.setIfInBounds_toArray, List.set_cons_zero, List.set_cons_succ, List.getElem_toArray, List.getElem_cons_succ, List.getElem_cons_zero]
        refine wpAnyH_take (i := 10) (v := ?vv10) rfl (by kernel_rfl) (by kernel_rfl) (by kernel_rfl) (fun _ _ _ h => h) (Or.inl ⟨by rfl, ?hy10⟩) hHeld ?rr10
        case hy10 => (intro w' hSw; obtain ⟨g1, g2⟩ := hSw; go_simp; try with_reducible rfl)
        try simp only [Act.put, List.setIfInBounds_toArray, List.set_cons_zero, List.set_cons_succ, List.getElem_toArray, List.getElem_cons_succ, List.getElem_cons_zero]
        refine wpAnyH_ready (rs := [5]) (by kernel_rfl) (by simp) ?_
        refine AllReadyH.cons rfl (fun K hK => ?_) AllReadyH.nil
        try rw [if_pos (by rfl)]
        go_simp
        go_at_call 9
        refine Calls.mono (HPr.out) ?_
        rintro e w3 ⟨rfl, ha3, hc3⟩
        have HC3 := Lib.hid hc3
        have k3 := ha3.heap HOd.out (fun h => h.1 rfl)
        have HO3 := Lib.hid k3
        clear ha3 hc3 k3
        go_wp2_with fail
        refine hK.out _ _ ⟨cell_of_row _ _ 1 _ _ _ HO3.out, cell_of_row _ _ 2 _ _ _ HO3.out⟩ (fun hHeld2 => ?_)
        clear hK K hHeld
        have hHeld := hHeld2
        clear hHeld2
        try simp only [Act.put, List.setIfInBounds_toArray, List.set_cons_zero, List.set_cons_succ, List.getElem_toArray, List.getElem_cons_succ, List.getElem_cons_zero]
        refine wpAnyH_ready (rs := [11]) (by kernel_rfl) (by simp) ?_
        refine AllReadyH.cons rfl (fun K hK => ?_) AllReadyH.nil
        try rw [if_pos (by rfl)]
        go_simp
        go_at_call 10
        refine Calls.mono (HC3.out _ (Below.refl _ _)) ?_
        rintro e w4 ⟨rfl, ha4, hb4⟩
        have HBL := Lib.hid hb4
        have k4 := ha4.heap HO3.out (fun h => h.1 (.inl rfl))
        have HO4 := Lib.hid k4
        clear ha4 hb4 k4
        go_wp2_with fail
        refine hK.out _ _ ⟨cell_of_row _ _ 1 _ _ _ HO4.out, cell_of_row _ _ 2 _ _ _ HO4.out⟩ (fun hHeld2 => ?_)
        clear hK K hHeld
        have hHeld := hHeld2
        clear hHeld2
        try simp only [Act.put, List.setIfInBounds_toArray, List.set_cons_zero, List.set_cons_succ, List.getElem_toArray, List.getElem_cons_succ, List.getElem_cons_zero]
        refine wpAnyH_take (i := 12) (v := (.bool true)) rfl (by kernel_rfl) (by kernel_rfl) (by kernel_rfl) (fun _ _ _ h => h) (Or.inl ⟨by rfl, ?hy11⟩) hHeld ?rr11
        case hy11 => (intro w' hSw; obtain ⟨g1, g2⟩ := hSw; go_simp; try with_reducible rfl)
        try simp only [Act.put, List.setIfInBounds_toArray, List.set_cons_zero, List.set_cons_succ, List.getElem_toArray, List.getElem_cons_succ, List.getElem_cons_zero]
        refine wpAnyH_take (i := 13) (v := ?vv12) rfl (by kernel_rfl) (by kernel_rfl) (by kernel_rfl) (fun _ _ _ h => h) (Or.inl ⟨by rfl, ?hy12⟩) hHeld ?rr12
        case hy12 => (intro w' hSw; obtain ⟨g1, g2⟩ := hSw; go_simp; try with_reducible rfl)
        try simp only [Act.put, List.setIfInBounds_toArray, List.set_cons_zero, List.set_cons_succ, List.getElem_toArray, List.getElem_cons_succ, List.getElem_cons_zero]
        refine wpAnyH_done (by kernel_rfl) ?_ _
        clear hHeld
        go_wp2_with (go_at_call 18; refine Calls.mono (HLk.out _ _ _ _ _ _ HBL.out) ?_; rintro e w9 ⟨rfl, hb9⟩; have HE := Lib.hid ((HBL.out.later hb9).less (P' := fun _ => False) (fun _ h => h.elim)); clear hb9)
        go_roundw
        case rel => exact ⟨k + 1, q, by omega, rfl, by go_num, Lib.hid HE.out⟩
        case measure => simp [intOf]; omega
      by_cases h2 : x0 = 2
      · subst h2
        have HBd : Hid (Both w (fun j => j = wr.heap.size) q x (k : Int) (wr.alloc (.cells #[.int .i64 2, .int .i64 x1, .int .i64 x2] 31)).drew) := Lib.hid ((HB0.out.later ((Below.refl _ _).drew)).less (fun j hj => .inl hj))
        have HOd : Hid ((wr.alloc (.cells #[.int .i64 2, .int .i64 x1, .int .i64 x2] 31)).drew.heap[wr.heap.size]? = some (.cells #[.int .i64 2, .int .i64 x1, .int .i64 x2] 31 (0, 0))) := HO0
        obtain ⟨r, hp⟩ := pair_drop HBd.out HP0.out HF1.out
        have HPr := Lib.hid hp
        clear hp
        go_wp2_with fail
        refine wp_region_held_drew (S := (fun w' => w'.cell? ⟨wr.heap.size, 1, none⟩ = some (.int .i64 x1) ∧ w'.cell? ⟨wr.heap.size, 2, none⟩ = some (.int .i64 x2))) (by kernel_rfl) ⟨cell_of_row _ _ 1 _ _ _ HOd.out, cell_of_row _ _ 2 _ _ _ HOd.out⟩ (fun hHeld => ?_)
        refine wpAnyH_take (i := 0) (v := ?vv13) rfl (by kernel_rfl) (by kernel_rfl) (by kernel_rfl) (fun _ _ _ h => h) (Or.inl ⟨by rfl, ?hy13⟩) hHeld ?rr13
        case hy13 => (intro w' hSw; obtain ⟨g1, g2⟩ := hSw; go_simp; try with_reducible rfl)
        try simp only [Act.put, List.setIfInBounds_toArray, List.set_cons_zero, List.set_cons_succ, List.getElem_toArray, List.getElem_cons_succ, List.getElem_cons_zero]
        refine wpAnyH_take (i := 1) (v := ?vv14) rfl (by kernel_rfl) (by kernel_rfl) (by kernel_rfl) (fun _ _ _ h => h) (Or.inl ⟨by rfl, ?hy14⟩) hHeld ?rr14
        case hy14 => (intro w' hSw; obtain ⟨g1, g2⟩ := hSw; go_simp; try with_reducible rfl)
        try simp only [Act.put, List.setIfInBounds_toArray, List.set_cons_zero, List.set_cons_succ, List.getElem_toArray, List.getElem_cons_succ, List.getElem_cons_zero]
        refine wpAnyH_take (i := 2) (v := ?vv15) rfl (by kernel_rfl) (by kernel_rfl) (by kernel_rfl) (fun _ _ _ h => h) (Or.inl ⟨by rfl, ?hy15⟩) hHeld ?rr15
        case hy15 => (intro w' hSw; obtain ⟨g1, g2⟩ := hSw; go_simp; try with_reducible rfl)
        try simp only [Act.put, List.setIfInBounds_toArray, List.set_cons_zero, List.set_cons_succ, List.getElem_toArray, List.getElem_cons_succ, List.getElem_cons_zero]
        refine wpAnyH_take (i := 4) (v := ?vv16) rfl (by kernel_rfl) (by kernel_rfl) (by kernel_rfl) (fun _ _ _ h => h) (Or.inl ⟨by rfl, ?hy16⟩) hHeld ?rr16
        case hy16 => (intro w' hSw; obtain ⟨g1, g2⟩ := hSw; go_simp; try with_reducible rfl)
        try simp only [Act.put, List.setIfInBounds_toArray, List.set_cons_zero, List.set_cons_succ, List.getElem_toArray, List.getElem_cons_succ, List.getElem_cons_zero]
        refine wpAnyH_take (i := 5) (v := ?vv17) rfl (by kernel_rfl) (by kernel_rfl) (by kernel_rfl) (fun _ _ _ h => h) (Or.inl ⟨by rfl, ?hy17⟩) hHeld ?rr17
        case hy17 => (intro w' hSw; obtain ⟨g1, g2⟩ := hSw; go_simp; try with_reducible rfl)
        try simp only [Act.put, List.setIfInBounds_toArray, List.set_cons_zero, List.set_cons_succ, List.getElem_toArray, List.getElem_cons_succ, List.getElem_cons_zero]
        refine wpAnyH_take (i := 6) (v := ?vv18) rfl (by kernel_rfl) (by kernel_rfl) (by kernel_rfl) (fun _ _ _ h => h) (Or.inl ⟨by rfl, ?hy18⟩) hHeld ?rr18
        case hy18 => (intro w' hSw; obtain ⟨g1, g2⟩ := hSw; go_simp; try with_reducible rfl)
        try simp only [Act.put, List.setIfInBounds_toArray, List.set_cons_zero, List.set_cons_succ, List.getElem_toArray, List.getElem_cons_succ, List.getElem_cons_zero]
        refine wpAnyH_ready (rs := [3]) (by kernel_rfl) (by simp) ?_
        refine AllReadyH.cons rfl (fun K hK => ?_) AllReadyH.nil
        try rw [if_pos (by rfl)]
        go_simp
        go_at_call 11
        refine Calls.mono (HPr.out) ?_
        rintro e w3 ⟨rfl, ha3, hc3⟩
        have HC3 := Lib.hid hc3
        have k3 := ha3.heap HOd.out (fun h => h.1 rfl)
        have HO3 := Lib.hid k3
        clear ha3 hc3 k3
        go_wp2_with fail
        refine hK.out _ _ ⟨cell_of_row _ _ 1 _ _ _ HO3.out, cell_of_row _ _ 2 _ _ _ HO3.out⟩ (fun hHeld2 => ?_)
        clear hK K hHeld
        have hHeld := hHeld2
        clear hHeld2
        try simp only [Act.put, List.setIfInBounds_toArray, List.set_cons_zero, List.set_cons_succ, List.getElem_toArray, List.getElem_cons_succ, List.getElem_cons_zero]
        refine wpAnyH_ready (rs := [7]) (by kernel_rfl) (by simp) ?_
        refine AllReadyH.cons rfl (fun K hK => ?_) AllReadyH.nil
        try rw [if_pos (by rfl)]
        go_simp
        go_at_call 12
        refine Calls.mono (HC3.out _ (Below.refl _ _)) ?_
        rintro e w4 ⟨rfl, ha4, hb4⟩
        have HBL := Lib.hid hb4
        have k4 := ha4.heap HO3.out (fun h => h.1 (.inl rfl))
        have HO4 := Lib.hid k4
        clear ha4 hb4 k4
        go_wp2_with fail
        refine hK.out _ _ ⟨cell_of_row _ _ 1 _ _ _ HO4.out, cell_of_row _ _ 2 _ _ _ HO4.out⟩ (fun hHeld2 => ?_)
        clear hK K hHeld
        have hHeld := hHeld2
        clear hHeld2
        try simp only [Act.put, List.setIfInBounds_toArray, List.set_cons_zero, List.set_cons_succ, List.getElem_toArray, List.getElem_cons_succ, List.getElem_cons_zero]
        refine wpAnyH_take (i := 8) (v := (.bool true)) rfl (by kernel_rfl) (by kernel_rfl) (by kernel_rfl) (fun _ _ _ h => h) (Or.inl ⟨by rfl, ?hy19⟩) hHeld ?rr19
        case hy19 => (intro w' hSw; obtain ⟨g1, g2⟩ := hSw; go_simp; try with_reducible rfl)
        try simp only [Act.put, List.setIfInBounds_toArray, List.set_cons_zero, List.set_cons_succ, List.getElem_toArray, List.getElem_cons_succ, List.getElem_cons_zero]
        refine wpAnyH_take (i := 9) (v := ?vv20) rfl (by kernel_rfl) (by kernel_rfl) (by kernel_rfl) (fun _ _ _ h => h) (Or.inl ⟨by rfl, ?hy20⟩) hHeld ?rr20
        case hy20 => (intro w' hSw; obtain ⟨g1, g2⟩ := hSw; go_simp; try with_reducible rfl)
        try simp only [Act.put, List.setIfInBounds_toArray, List.set_cons_zero, List.set_cons_succ, List.getElem_toArray, List.getElem_cons_succ, List.getElem_cons_zero]
        refine wpAnyH_done (by kernel_rfl) ?_ _
        clear hHeld
        go_wp2_with (go_at_call 18; refine Calls.mono (HLk.out _ _ _ _ _ _ HBL.out) ?_; rintro e w9 ⟨rfl, hb9⟩; have HE := Lib.hid ((HBL.out.later hb9).less (P' := fun _ => False) (fun _ h => h.elim)); clear hb9)
        go_roundw
        case rel => exact ⟨k + 1, q, by omega, rfl, by go_num, Lib.hid (HE.out.more (by omega))⟩
        case measure => simp [intOf]; omega
      by_cases h3 : x0 = 3
      · obtain ⟨ra, rb, rc, hp⟩ := pair_pop HB0.out HP0.out x2
        have HPr := Lib.hid hp
        clear hp
        subst h3
        go_wp2_with (first
          | (go_at_call 13; refine Calls.mono HPr.out ?_; rintro e w3 ⟨rfl, ha3, hc3⟩; have HC3 := Lib.hid hc3; have k3 := ha3.heap HO0.out (fun h => h.1 rfl); obtain ⟨u3, f3⟩ := cells_of_heap (heap_old (.cells #[.int .i64 ra, .int .i64 rb] 36) (heap_lt k3) k3); have e2 := u3 2; clear ha3 hc3)
          | (go_at_call 14; refine Calls.mono (HC3.out _ (below_alloc w3 (.cells #[.int .i64 ra, .int .i64 rb] 36))) ?_; rintro e w4 ⟨rfl, ha4, hb4⟩; have k4 := ha4.heap (heap_new w3 (.cells #[.int .i64 ra, .int .i64 rb] 36)) (fun h => h.1 (.inr ⟨Nat.le_refl _, by simp⟩)); obtain ⟨u4, f4⟩ := cells_of_heap (heap_old (.cells #[.int .i64 ra, .int .i64 rb] 36) (heap_lt k4) k4); have e40 := u4 0; have e41 := u4 1; have HBL := Lib.hid (hb4.later (below_alloc w4 (.cells #[.int .i64 ra, .int .i64 rb] 36))); clear ha4 hb4)
          | (go_at_call 18; refine Calls.mono (HLk.out _ _ _ _ _ _ HBL.out) ?_; rintro e w9 ⟨rfl, hb9⟩; have HE := Lib.hid ((HBL.out.later hb9).less (P' := fun _ => False) (fun _ h => h.elim)); clear hb9))
        go_roundw
        case rel => exact ⟨k + 1, q, by omega, rfl, by go_num, Lib.hid (HE.out.more (by omega))⟩
        case measure => simp [intOf]; omega
      by_cases h4 : x0 = 4
      · obtain ⟨ra, rb, hp⟩ := pair_when HB0.out HP0.out HF1.out
        have HPr := Lib.hid hp
        clear hp
        subst h4
        go_wp2_with (first
          | (go_at_call 15; refine Calls.mono HPr.out ?_; rintro e w3 ⟨rfl, ha3, hc3⟩; have HC3 := Lib.hid hc3; have k3 := ha3.heap HO0.out (fun h => h.1 rfl); obtain ⟨u3, f3⟩ := cells_of_heap k3; have e1 := u3 1; have e2 := u3 2; have HO3 := Lib.hid k3; clear ha3 hc3 k3)
          | (go_at_call 16; refine Calls.mono (HC3.out _ (Below.refl _ _)) ?_; rintro e w4 ⟨rfl, ha4, hb4⟩; have HBL := Lib.hid hb4; clear ha4 hb4)
          | (go_at_call 18; refine Calls.mono (HLk.out _ _ _ _ _ _ HBL.out) ?_; rintro e w9 ⟨rfl, hb9⟩; have HE := Lib.hid ((HBL.out.later hb9).less (P' := fun _ => False) (fun _ h => h.elim)); clear hb9))
        go_roundw
        case rel => exact ⟨k + 1, q, by omega, rfl, by go_num, Lib.hid (HE.out.more (by omega))⟩
        case measure => simp [intOf]; omega
      by_cases h5 : x0 = 5
      · have HFk := Lib.hid (fork_of HB0.out HP0.out HF1.out HF2.out (by omega))
        subst h5
        go_wp2_with (first
          | (go_at_call 17; refine Calls.mono HFk.out ?_; rintro e w3 ⟨q', rfl, hb3, hc3⟩; have HC3 := Lib.hid hc3; have k3 := (hb3.block _ (heap_lt HO0.out)).trans HO0.out; obtain ⟨u3, f3⟩ := cells_of_heap k3; have e1 := u3 1; have e2 := u3 2; have HO3 := Lib.hid k3; clear hb3 hc3 k3)
          | (go_at_call 9; refine Calls.mono HC3.out ?_; rintro e w4 ⟨⟨v4, rfl⟩, ha4, hc4⟩; have HC4 := Lib.hid hc4; have k4 := ha4.heap HO3.out (fun h => h.1 rfl); obtain ⟨u4, f4⟩ := cells_of_heap k4; have e42 := u4 2; clear ha4 hc4 k4)
          | (go_at_call 13; refine Calls.mono HC4.out ?_; rintro e w5 ⟨⟨v5, rfl⟩, ha5, hb5⟩; have HBL := Lib.hid hb5; clear ha5 hb5)
          | (go_at_call 18; refine Calls.mono (HLk.out _ _ _ _ _ _ HBL.out) ?_; rintro e w9 ⟨rfl, hb9⟩; have HE := Lib.hid ((HBL.out.later hb9).less (P' := fun _ => False) (fun _ h => h.elim)); clear hb9))
        go_roundw
        case rel => exact ⟨k + 1, _, by omega, rfl, by go_num, Lib.hid (HE.out.more (by omega))⟩
        case measure => simp [intOf]; omega
      · have HBL := HB0
        have e1 : (x0 == 1) = false := by simpa using h1
        have e2 : (x0 == 2) = false := by simpa using h2
        have e3 : (x0 == 3) = false := by simpa using h3
        have e4 : (x0 == 4) = false := by simpa using h4
        have e5 : (x0 == 5) = false := by simpa using h5
        go_wp2_with (go_at_call 18; refine Calls.mono (HLk.out _ _ _ _ _ _ HBL.out) ?_; rintro e w9 ⟨rfl, hb9⟩; have HE := Lib.hid ((HBL.out.later hb9).less (P' := fun _ => False) (fun _ h => h.elim)); clear hb9)
        go_roundw
        case rel => exact ⟨k + 1, q, by omega, rfl, by go_num, Lib.hid (HE.out.more (by omega))⟩
        case measure => simp [intOf]; omega
    · have hk1' : ¬ (k : Int) < (n : Int) := by omega
      go_wp2
      go_ret
      exact ⟨rfl, HX.out.below⟩
end Go.Proofs.Ytllkallodgbpmaa
