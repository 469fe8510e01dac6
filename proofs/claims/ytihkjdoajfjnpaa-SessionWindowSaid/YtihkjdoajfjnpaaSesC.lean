/- Package session: what is asked of a session; New; the paces. -/
import Derived.Test.YtihkjdoajfjnpaaSesB
set_option linter.unusedSimpArgs false
set_option linter.unusedVariables false
namespace Go.Proofs.Ytihkjdoajfjnpaa
open Go.ChangeShapes Go.WideShapes Go.ChangeAt Go.RowKit Go.Base Go.Ses

section
variable {F G : Nat → Prop} {w w1 w' : World} {p : Nat} {s s2 : Ss} {A : Option Addr} {c : Nat} {vs : List SlV} {bm : Nat} {D : DataW Value} {q : Nat → Prop}
theorem closed_nil (w : World) : Calls Try.prog 19 #[.pointer none] w fun e w' => e = .returned (.bool true) ∧ w = w' := by
  go_enter Try.func19, Try.ntmps19
  go_wp2
  go_ret
  exact ⟨rfl, rfl⟩
theorem closed_any (h : SesX w F p s A c vs bm D) : Calls Try.prog 19 #[.pointer (some ⟨p, 0, none⟩)] w fun e w' => e = .returned (.bool false) ∧ w = w' := by
  have c0 := h.c0
  have h0 := h.ok.mine
  have hne : (s.mine == 0) = false := by simp; omega
  clear h
  go_enter Try.func19, Try.ntmps19
  go_wp2
  go_ret
  exact ⟨rfl, rfl⟩
theorem ready_any (h : SesX w F p s A c vs bm D) : Calls Try.prog 13 #[.pointer (some ⟨p, 0, none⟩)] w fun e w' => e = .returned (.bool s.l.knows) ∧ w = w' := by
  have HC := Lib.hid (closed_any h)
  have c2 := h.c2
  clear h
  go_enter Try.func13, Try.ntmps13
  go_wp2_with (go_at_call 19; refine Calls.mono HC.out ?_; rintro e w1 ⟨rfl, rfl⟩)
  go_ret
  exact ⟨rfl, rfl⟩
theorem yours_any (h : SesX w F p s A c vs bm D) : Calls Try.prog 14 #[.pointer (some ⟨p, 0, none⟩)] w fun e w' => e = .returned (.int .i64 s.l.yours) ∧ w = w' := by
  have HC := Lib.hid (closed_any h)
  have c1 := h.c1
  clear h
  go_enter Try.func14, Try.ntmps14
  go_wp2_with (go_at_call 19; refine Calls.mono HC.out ?_; rintro e w1 ⟨rfl, rfl⟩)
  go_ret
  exact ⟨rfl, rfl⟩
theorem pending_any (h : SesX w F p s A c vs bm D) : Calls Try.prog 15 #[.pointer (some ⟨p, 0, none⟩)] w fun e w' => e = .returned (.int .i64 (s.l.out.length : Int)) ∧ w = w' := by
  have HC := Lib.hid (closed_any h)
  have c6 := h.c6
  rw [← h.len]
  clear h
  go_enter Try.func15, Try.ntmps15
  go_wp2_with (go_at_call 19; refine Calls.mono HC.out ?_; rintro e w1 ⟨rfl, rfl⟩)
  go_ret
  exact ⟨rfl, rfl⟩
theorem next_any (h : SesX w F p s A c vs bm D) : Calls Try.prog 24 #[.pointer (some ⟨p, 1, none⟩)] w fun e w' => e = .returned (.int .i64 s.l.next) ∧ Below w.heap.size w w' := by
  have c5 := h.c5
  have c6 := h.c6
  have hg := h.ok.gone
  have hl := h.len
  have HN : Hid (s.l.next = s.l.gone + (vs.length : Int) + 1) := Lib.hid (by unfold Link.next; rw [hl])
  rw [← hl] at hg
  clear h hl
  generalize vs.length = n at *
  generalize s.l.gone = g at *
  have k1 : IntKind.i64.wrap (g + (n : Int)) = g + n := by rw [IntKind.wrap_i64]; omega
  have k2 : IntKind.i64.wrap (g + (n : Int) + 1) = g + n + 1 := by rw [IntKind.wrap_i64]; omega
  go_enter Try.func24, Try.ntmps24
  go_wp2
  go_quiet (fail)
  go_wp2
  go_ret
  exact ⟨ret_int (by rw [HN.out]), below_drewN (Below.refl _ _) _⟩
theorem pace_any (w : World) : Calls Try.prog 29 #[] w fun e w' => e = .returned (.agg #[.int .i64 minI, .int .i64 1]) ∧ Below w.heap.size w w' := by
  have kz := cell_new w #[.int .i64 minI, .int .i64 1] 56 (0, 0)
  go_enter Try.func29, Try.ntmps29
  go_wp2
  exact bodyPost_ret (v := .agg #[.int .i64 minI, .int .i64 1]) (by simp [results, Try.results29, go_sem, minI]) rfl ⟨rfl, below_alloc _ _⟩
theorem over_any {k : Nat} (a g : Int) (now : Int) (w : World) (h : w.cell? ⟨p, k, none⟩ = some (.int .i64 a)) : Calls Try.prog 33 #[.pointer (some ⟨p, k, none⟩), .int .i64 now] w fun e w' => e = .returned (.bool (decide (a ≤ now))) ∧ w = w' := by
  go_enter Try.func33, Try.ntmps33
  go_wp2
  go_ret
  exact ⟨ret_bool rfl, rfl⟩
/-- What 'use' makes of a pace. -/
theorem use_any {k : Nat} {cs : Array Value} {T : TypeId} (a g : Int) (now : Int) (w : World) (h : w.heap[p]? = some (.cells cs T (0, 0))) (h0 : cs[k]? = some (.int .i64 a)) (h1 : cs[k + 1]? = some (.int .i64 g)) (hg : 1 ≤ g ∧ g ≤ 16) (hn : -9223372036854775808 ≤ now ∧ now ≤ 9223372036854775807) :
    Calls Try.prog 34 #[.pointer (some ⟨p, k, none⟩), .int .i64 now] w fun e w' => e = .returned (.tuple #[]) ∧ w'.heap[p]? = some (.cells ((cs.setIfInBounds k (.int .i64 (useAt now g))).setIfInBounds (k + 1) (.int .i64 (min (2 * g) 16))) T (0, 0)) ∧ Moved (fun j => j = p) w w' := by
  have c0 : w.cell? ⟨p, k, none⟩ = some (.int .i64 a) := (cell_of_row _ _ k _ _ _ h).trans h0
  have c1 : w.cell? ⟨p, k + 1, none⟩ = some (.int .i64 g) := (cell_of_row _ _ (k + 1) _ _ _ h).trans h1
  have f0 := (cells_of_heap h).2 k
  have f1 := (cells_of_heap h).2 (k + 1)
  have hk : k < cs.size := by
    rcases Nat.lt_or_ge k cs.size with h | h
    · exact h
    · rw [Array.getElem?_eq_none h] at h0; cases h0
  have HE : Hid (((w.setCell ⟨p, k, none⟩ (.int .i64 (useAt now g))).setCell ⟨p, k + 1, none⟩ (.int .i64 (min (2 * g) 16))).heap[p]? = some (.cells ((cs.setIfInBounds k (.int .i64 (useAt now g))).setIfInBounds (k + 1) (.int .i64 (min (2 * g) 16))) T (0, 0))) := Lib.hid (heap_set (heap_set h k _) (k + 1) _)
  have HM : Hid (Moved (fun j => j = p) w ((w.setCell ⟨p, k, none⟩ (.int .i64 (useAt now g))).setCell ⟨p, k + 1, none⟩ (.int .i64 (min (2 * g) 16)))) := Lib.hid (((Moved.refl (fun j => j = p) w).setCell (.inr rfl) _).setCell (.inr rfl) _)
  have HG := Lib.hid hg
  have HM2 : Hid (min (2 * g) 16 = if 16 < 2 * g then 16 else 2 * g) := Lib.hid (by split <;> omega)
  have k1 : IntKind.i64.wrap (9223372036854775807 - g) = 9223372036854775807 - g := by rw [IntKind.wrap_i64]; omega
  have k3 : IntKind.i64.wrap (2 * g) = 2 * g := by rw [IntKind.wrap_i64]; omega
  by_cases hc : 9223372036854775807 - g < now
  · have HU : Hid (useAt now g = 9223372036854775807) := Lib.hid (by unfold useAt maxI; omega)
    have k2 : IntKind.i64.wrap (9223372036854775807 - g + g) = 9223372036854775807 := by rw [IntKind.wrap_i64]; omega
    rw [HU.out] at HE HM
    clear h h0 h1 hn
    by_cases hd : 16 < 2 * g
    · rw [HM2.out, if_pos hd] at HE HM ⊢
      rw [HU.out]
      clear hg
      go_enter Try.func34, Try.ntmps34
      go_wp2
      go_region
      go_wp2
      go_end0
      exact ⟨rfl, HE.out, HM.out.drew⟩
    · rw [HM2.out, if_neg hd] at HE HM ⊢
      rw [HU.out]
      clear hg
      go_enter Try.func34, Try.ntmps34
      go_wp2
      go_region
      go_wp2
      go_end0
      exact ⟨rfl, HE.out, HM.out.drew⟩
  · have HU : Hid (useAt now g = now + g) := Lib.hid (by unfold useAt maxI; omega)
    have k2 : IntKind.i64.wrap (now + g) = now + g := by rw [IntKind.wrap_i64]; omega
    rw [HU.out] at HE HM
    clear h h0 h1 hn
    by_cases hd : 16 < 2 * g
    · rw [HM2.out, if_pos hd] at HE HM ⊢
      rw [HU.out]
      clear hg
      go_enter Try.func34, Try.ntmps34
      go_wp2
      go_region
      go_wp2
      go_end0
      exact ⟨rfl, HE.out, HM.out.drew⟩
    · rw [HM2.out, if_neg hd] at HE HM ⊢
      rw [HU.out]
      clear hg
      go_enter Try.func34, Try.ntmps34
      go_wp2
      go_region
      go_wp2
      go_end0
      exact ⟨rfl, HE.out, HM.out.drew⟩
end
end Go.Proofs.Ytihkjdoajfjnpaa
