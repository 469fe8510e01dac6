/- Package queue: which one of a row is ahead. -/
import Derived.Test.YtkdfkhebjhnbmaaQueB
import Derived.Deep.CutBlock
set_option linter.unusedSimpArgs false
set_option linter.unusedVariables false
namespace Go.Proofs.Ytkdfkhebjhnbmaa
open Go.ChangeShapes Go.WideShapes Go.ChangeAt Go.RowKit Go.Base Go.Que

section
variable {w w' : World} {b : Nat} {R : Rest} {A : Option Addr} {n c : Nat} {f : Nat → Tm}
def orI (x y : Int) : Int := if x = 0 then y else x
theorem or_new (V : World) (x y : Int) (m cc : Nat) (hm : m = V.heap.size) : Calls Try.prog 63 #[.slice (some ⟨m, 0, none⟩) 2 cc] (V.alloc (.cells #[.int .i64 x, .int .i64 y] 3)).drew fun e w' => e = .returned (.int .i64 (orI x y)) ∧ (V.alloc (.cells #[.int .i64 x, .int .i64 y] 3)).drew = w' := by
  subst hm
  exact or_two _ x y cc _ (cell_new V _ _ _ 0) (cell_new V _ _ _ 1)
theorem less_eq (a d : Tm) : decide (orI (cmpI a.at_ d.at_) (cmpI a.turn d.turn) < 0) = ltB a d := by
  unfold ltB orI
  rw [decide_eq_decide]
  unfold lt cmpI
  by_cases h1 : a.at_ < d.at_
  · simp [h1]
  · by_cases h2 : d.at_ < a.at_
    · simp [h1, h2]; omega
    · by_cases h3 : a.turn < d.turn
      · simp [h1, h2, h3]; omega
      · by_cases h4 : d.turn < a.turn
        · simp [h1, h2, h3, h4]
        · simp [h1, h2, h3, h4]
set_option maxHeartbeats 2000000 in
set_option maxRecDepth 20000 in
theorem less_any (h : RowX w b R A n c f) {i j : Nat} (hi : i < n) (hj : j < n) : Calls Try.prog 58 #[.pointer (some ⟨b, 0, none⟩), .int .i64 (i : Int), .int .i64 (j : Int)] w fun e w' => e = .returned (.bool (ltB (f i) (f j))) ∧ Below w.heap.size w w' := by
  have h1 := h.cell
  obtain ⟨g, rfl, i0, i1, i2⟩ := h.at_ hi
  obtain ⟨g', e, j0, j1, j2⟩ := h.at_ hj
  injection e with e; injection e with e; subst e
  have hn := h.few
  have hb : b < w.heap.size := World.block_lt_of_cell? w _ h1
  have hg : g < w.heap.size := World.block_lt_of_cell? w _ i0
  obtain ⟨a, ha⟩ : ∃ a, a = f i := ⟨_, rfl⟩
  obtain ⟨d, hd⟩ : ∃ d, d = f j := ⟨_, rfl⟩
  rw [← ha] at i0 i1 i2 ⊢
  rw [← hd] at j0 j1 j2 ⊢
  clear ha hd h
  go_enter Try.func58, Try.ntmps58
  go_wp2
  go_cut [7, 8] from 9 to 20 (fun x y V => ∃ p q : Nat, x = .pointer (some ⟨p, 0, none⟩) ∧ y = .pointer (some ⟨q, 0, none⟩) ∧ Hid (V.cell? ⟨p, 0, none⟩ = some (.int .i64 a.at_) ∧ V.cell? ⟨p, 2, none⟩ = some (.int .i64 a.turn) ∧ V.cell? ⟨q, 0, none⟩ = some (.int .i64 d.at_) ∧ V.cell? ⟨q, 2, none⟩ = some (.int .i64 d.turn)) ∧ Hid (Below w.heap.size w V))
  case first =>
    go_region
    all_goals
      go_wp2
      go_meet
      refine ⟨_, _, rfl, rfl, Lib.hid ?_, Lib.hid (((Below.refl _ _).alloc (Nat.le_refl _) _).alloc (by simp) _).drew⟩
      refine ⟨?_, ?_, ?_, ?_⟩ <;> go_simp
  case rest =>
    obtain ⟨p, q, rfl, rfl, HC, HB⟩ := hcut
    have HS0 := Lib.hid (fun V (hV : Below wc.heap.size wc V) => And.intro (cell_later hV HC.out.1) (And.intro (cell_later hV HC.out.2.1) (And.intro (cell_later hV HC.out.2.2.1) (cell_later hV HC.out.2.2.2))))
    go_wp2
    refine wp_region_held_drew (S := (fun w' => w'.cell? ⟨p, 0, none⟩ = some (.int .i64 a.at_) ∧ w'.cell? ⟨p, 2, none⟩ = some (.int .i64 a.turn) ∧ w'.cell? ⟨q, 0, none⟩ = some (.int .i64 d.at_) ∧ w'.cell? ⟨q, 2, none⟩ = some (.int .i64 d.turn))) (by kernel_rfl) (HS0.out _ (Below.refl _ _).drew) (fun hHeld => ?_)
    refine wpAnyH_take (i := 0) (v := ?vv1) rfl (by kernel_rfl) (by kernel_rfl) (by kernel_rfl) (fun _ _ _ h => h) (Or.inl ⟨by rfl, ?hy1⟩) hHeld ?rr1
    case hy1 => (intro w' hSw; obtain ⟨g1, g2, g3, g4⟩ := hSw; go_simp; try with_reducible rfl)
    try simp only [Act.put, List.setIfInBounds_toArray, List.set_cons_zero, List.set_cons_succ, List.getElem_toArray, List.getElem_cons_succ, List.getElem_cons_zero]
    refine wpAnyH_take (i := 1) (v := ?vv2) rfl (by kernel_rfl) (by kernel_rfl) (by kernel_rfl) (fun _ _ _ h => h) (Or.inl ⟨by rfl, ?hy2⟩) hHeld ?rr2
    case hy2 => (intro w' hSw; obtain ⟨g1, g2, g3, g4⟩ := hSw; go_simp; try with_reducible rfl)
    try simp only [Act.put, List.setIfInBounds_toArray, List.set_cons_zero, List.set_cons_succ, List.getElem_toArray, List.getElem_cons_succ, List.getElem_cons_zero]
    refine wpAnyH_take (i := 2) (v := ?vv3) rfl (by kernel_rfl) (by kernel_rfl) (by kernel_rfl) (fun _ _ _ h => h) (Or.inl ⟨by rfl, ?hy3⟩) hHeld ?rr3
    case hy3 => (intro w' hSw; obtain ⟨g1, g2, g3, g4⟩ := hSw; go_simp; try with_reducible rfl)
    try simp only [Act.put, List.setIfInBounds_toArray, List.set_cons_zero, List.set_cons_succ, List.getElem_toArray, List.getElem_cons_succ, List.getElem_cons_zero]
    refine wpAnyH_take (i := 3) (v := ?vv4) rfl (by kernel_rfl) (by kernel_rfl) (by kernel_rfl) (fun _ _ _ h => h) (Or.inl ⟨by rfl, ?hy4⟩) hHeld ?rr4
    case hy4 => (intro w' hSw; obtain ⟨g1, g2, g3, g4⟩ := hSw; go_simp; try with_reducible rfl)
    try simp only [Act.put, List.setIfInBounds_toArray, List.set_cons_zero, List.set_cons_succ, List.getElem_toArray, List.getElem_cons_succ, List.getElem_cons_zero]
    refine wpAnyH_take (i := 4) (v := ?vv5) rfl (by kernel_rfl) (by kernel_rfl) (by kernel_rfl) (fun _ _ _ h => h) (Or.inl ⟨by rfl, ?hy5⟩) hHeld ?rr5
    case hy5 => (intro w' hSw; obtain ⟨g1, g2, g3, g4⟩ := hSw; go_simp; try with_reducible rfl)
    try simp only [Act.put, List.setIfInBounds_toArray, List.set_cons_zero, List.set_cons_succ, List.getElem_toArray, List.getElem_cons_succ, List.getElem_cons_zero]
    refine wpAnyH_take (i := 5) (v := ?vv6) rfl (by kernel_rfl) (by kernel_rfl) (by kernel_rfl) (fun _ _ _ h => h) (Or.inl ⟨by rfl, ?hy6⟩) hHeld ?rr6
    case hy6 => (intro w' hSw; obtain ⟨g1, g2, g3, g4⟩ := hSw; go_simp; try with_reducible rfl)
    try simp only [Act.put, List.setIfInBounds_toArray, List.set_cons_zero, List.set_cons_succ, List.getElem_toArray, List.getElem_cons_succ, List.getElem_cons_zero]
    refine wpAnyH_take (i := 7) (v := ?vv7) rfl (by kernel_rfl) (by kernel_rfl) (by kernel_rfl) (fun _ _ _ h => h) (Or.inl ⟨by rfl, ?hy7⟩) hHeld ?rr7
    case hy7 => (intro w' hSw; obtain ⟨g1, g2, g3, g4⟩ := hSw; go_simp; try with_reducible rfl)
    try simp only [Act.put, List.setIfInBounds_toArray, List.set_cons_zero, List.set_cons_succ, List.getElem_toArray, List.getElem_cons_succ, List.getElem_cons_zero]
    refine wpAnyH_take (i := 8) (v := ?vv8) rfl (by kernel_rfl) (by kernel_rfl) (by kernel_rfl) (fun _ _ _ h => h) (Or.inl ⟨by rfl, ?hy8⟩) hHeld ?rr8
    case hy8 => (intro w' hSw; obtain ⟨g1, g2, g3, g4⟩ := hSw; go_simp; try with_reducible rfl)
    try simp only [Act.put, List.setIfInBounds_toArray, List.set_cons_zero, List.set_cons_succ, List.getElem_toArray, List.getElem_cons_succ, List.getElem_cons_zero]
    refine wpAnyH_take (i := 9) (v := ?vv9) rfl (by kernel_rfl) (by kernel_rfl) (by kernel_rfl) (fun _ _ _ h => h) (Or.inl ⟨by rfl, ?hy9⟩) hHeld ?rr9
    case hy9 => (intro w' hSw; obtain ⟨g1, g2, g3, g4⟩ := hSw; go_simp; try with_reducible rfl)
    try simp only [Act.put, List.setIfInBounds_toArray, List.set_cons_zero, List.set_cons_succ, List.getElem_toArray, List.getElem_cons_succ, List.getElem_cons_zero]
    refine wpAnyH_take (i := 10) (v := ?vv10) rfl (by kernel_rfl) (by kernel_rfl) (by kernel_rfl) (fun _ _ _ h => h) (Or.inl ⟨by rfl, ?hy10⟩) hHeld ?rr10
    case hy10 => (intro w' hSw; obtain ⟨g1, g2, g3, g4⟩ := hSw; go_simp; try with_reducible rfl)
    try simp only [Act.put, List.setIfInBounds_toArray, List.set_cons_zero, List.set_cons_succ, List.getElem_toArray, List.getElem_cons_succ, List.getElem_cons_zero]
    refine wpAnyH_ready (rs := [6]) (by kernel_rfl) (by simp) ?_
    refine AllReadyH.cons rfl (fun K hK => ?_) AllReadyH.nil
    try rw [if_pos (by rfl)]
    go_simp
    go_at_call 64
    refine Calls.mono (compare_any _ _ _) ?_
    rintro en w5 ⟨rfl, rfl⟩
    go_wp2_with fail
    refine hK.out _ _ (HS0.out _ (Below.refl _ _).drew) (fun hHeld2 => ?_)
    clear hK K hHeld
    have hHeld := hHeld2
    clear hHeld2
    try simp only [Act.put, List.setIfInBounds_toArray, List.set_cons_zero, List.set_cons_succ, List.getElem_toArray, List.getElem_cons_succ, List.getElem_cons_zero]
    refine wpAnyH_ready (rs := [11]) (by kernel_rfl) (by simp) ?_
    refine AllReadyH.cons rfl (fun K hK => ?_) AllReadyH.nil
    try rw [if_pos (by rfl)]
    go_simp
    go_at_call 64
    refine Calls.mono (compare_any _ _ _) ?_
    rintro en w6 ⟨rfl, rfl⟩
    go_wp2_with fail
    refine hK.out _ _ (HS0.out _ (Below.refl _ _).drew) (fun hHeld2 => ?_)
    clear hK K hHeld
    have hHeld := hHeld2
    clear hHeld2
    try simp only [Act.put, List.setIfInBounds_toArray, List.set_cons_zero, List.set_cons_succ, List.getElem_toArray, List.getElem_cons_succ, List.getElem_cons_zero]
    refine wpAnyH_ready (rs := [12]) (by kernel_rfl) (by simp) ?_
    refine AllReadyH.cons rfl (fun K hK => ?_) AllReadyH.nil
    try rw [if_pos (by rfl)]
    go_simp
    refine hK.out _ _ (HS0.out _ ((Below.refl _ _).drew.alloc (by simp) _)) (fun hHeld2 => ?_)
    clear hK K hHeld
    have hHeld := hHeld2
    clear hHeld2
    try simp only [Act.put, List.setIfInBounds_toArray, List.set_cons_zero, List.set_cons_succ, List.getElem_toArray, List.getElem_cons_succ, List.getElem_cons_zero]
    refine wpAnyH_ready (rs := [13]) (by kernel_rfl) (by simp) ?_
    refine AllReadyH.cons rfl (fun K hK => ?_) AllReadyH.nil
    try rw [if_pos (by rfl)]
    go_simp
    go_at_call 63
    refine Calls.mono (or_new _ _ _ _ _ rfl) ?_
    rintro en w7 ⟨rfl, rfl⟩
    go_wp2_with fail
    refine hK.out _ _ (HS0.out _ ((Below.refl _ _).drew.alloc (by simp) _)) (fun hHeld2 => ?_)
    clear hK K hHeld
    have hHeld := hHeld2
    clear hHeld2
    try simp only [Act.put, List.setIfInBounds_toArray, List.set_cons_zero, List.set_cons_succ, List.getElem_toArray, List.getElem_cons_succ, List.getElem_cons_zero]
    refine wpAnyH_take (i := 14) (v := ?vv11) rfl (by kernel_rfl) (by kernel_rfl) (by kernel_rfl) (fun _ _ _ h => h) (Or.inl ⟨by rfl, ?hy11⟩) hHeld ?rr11
    case hy11 => (intro w' hSw; obtain ⟨g1, g2, g3, g4⟩ := hSw; go_simp; try with_reducible rfl)
    try simp only [Act.put, List.setIfInBounds_toArray, List.set_cons_zero, List.set_cons_succ, List.getElem_toArray, List.getElem_cons_succ, List.getElem_cons_zero]
    refine wpAnyH_take (i := 15) (v := ?vv12) rfl (by kernel_rfl) (by kernel_rfl) (by kernel_rfl) (fun _ _ _ h => h) (Or.inl ⟨by rfl, ?hy12⟩) hHeld ?rr12
    case hy12 => (intro w' hSw; obtain ⟨g1, g2, g3, g4⟩ := hSw; go_simp; try with_reducible rfl)
    try simp only [Act.put, List.setIfInBounds_toArray, List.set_cons_zero, List.set_cons_succ, List.getElem_toArray, List.getElem_cons_succ, List.getElem_cons_zero]
    refine wpAnyH_done (by kernel_rfl) ?_ _
    clear hHeld
    go_wp2
    go_ret
    rw [less_eq]
    exact ⟨rfl, HB.out.trans ((((Below.refl _ _).drew).alloc (by simp) _).mono (HB.out.size))⟩
end
end Go.Proofs.Ytkdfkhebjhnbmaa
