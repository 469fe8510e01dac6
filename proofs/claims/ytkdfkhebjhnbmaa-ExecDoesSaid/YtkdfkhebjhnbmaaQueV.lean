/- Package queue: Fork. -/
import Derived.Test.YtkdfkhebjhnbmaaQueQ
import Derived.Shelf.SlMaps.Clone
set_option linter.unusedSimpArgs false
set_option linter.unusedVariables false
namespace Go.Proofs.Ytkdfkhebjhnbmaa
open Go.ChangeShapes Go.WideShapes Go.ChangeAt Go.RowKit Go.Base Go.Que

section
variable {w w' : World} {F G : Nat → Prop} {q c mb n N m : Nat} {A : Option Addr} {D : DataW Unit} {f : Nat → Tm} {turns : Int}
def ClonePost (n : Nat) (xs : List Value) (w : World) (e : Ending) (w' : World) : Prop := ∃ A' c', e = .returned (.slice A' n c') ∧ w'.ownsRow w.heap.size 82 3 (.slice A' n c') n xs ∧ Below w.heap.size w w'
set_option maxHeartbeats 1000000 in
set_option maxRecDepth 20000 in
theorem rclone_any {b0 : Nat} {xs : List Value} (ho : w.ownsRow b0 82 3 (.slice A n c) n xs) (hf : Tms xs n f) (hn : n ≤ 65536) : Calls Try.prog 37 #[.slice A n c] w (ClonePost n xs w) := by
  have qT : ∀ (w : World) (a : Option Addr) (n c n' c' : Nat), (binOp .eql 74 (.slice a n c) (.slice none n' c')).run Try.prog w = .ok (.bool a.isNone) w := fun w a n c n' c' => Lib.run_eql_slice_nil w _ _ a n c n' c' Try.underlying74
  obtain ⟨i0, hinfo, hz0, hz1, hz2⟩ := info_parts (P := Try.prog) (e := 82) (z := .agg #[.int .i64 0, .int .i64 0, .int .i64 0]) (size := 3) (bytes := 24) (by kernel_rfl)
  rcases A with _ | ad
  · have h0 : n = 0 ∧ xs = [] := by
      have hl := ho.1
      rcases ho.2 with ⟨_, h0⟩ | ⟨g, cap, cur, h, _⟩
      · subst h0; exact ⟨rfl, List.eq_nil_of_length_eq_zero (by simpa using hl)⟩
      · cases h
    obtain ⟨rfl, rfl⟩ := h0
    clear ho hf
    go_enter Try.func37, Try.ntmps37
    go_wp2
    go_ret
    exact ⟨none, 0, rfl, World.ownsRow_nil _ _ _ _, Below.refl _ _⟩
  · have HO := Lib.hid ho
    have hlen : xs.length = n * 3 := ho.1
    have hone : ∀ u ∈ xs, u.oneCell' = true := fun u hu => by
      obtain ⟨j, hj, rfl⟩ := List.getElem_of_mem hu
      have hk : j / 3 < n := by omega
      obtain ⟨t0, t1, t2⟩ := hf (j / 3) hk
      have hj2 : xs[j]? = some xs[j] := List.getElem?_eq_getElem hj
      rcases (by omega : j = j / 3 * 3 ∨ j = j / 3 * 3 + 1 ∨ j = j / 3 * 3 + 2) with e | e | e
      · rw [← e, hj2] at t0; rw [Option.some.inj t0]; rfl
      · rw [← e, hj2] at t1; rw [Option.some.inj t1]; rfl
      · rw [← e, hj2] at t2; rw [Option.some.inj t2]; rfl
    have HOne := Lib.hid hone
    have HLen := Lib.hid hlen
    have HNews : Hid (∀ o, 0 < n → ∃ ad', (some ad) = some ad' ∧ ∀ j u, xs[j]? = some u → (w.alloc o).cell? (ad'.add j) = some u) := Lib.hid (fun o h0 => by
      refine ⟨ad, rfl, fun j u hu => ?_⟩
      have hj : j < n * 3 := by
        have := (List.getElem?_eq_some_iff.1 hu).1
        omega
      obtain ⟨g, e, hc⟩ := own_cell ho rfl j hj
      injection e with e; subst e
      have e2 : (⟨g, 0, none⟩ : Addr).add j = ⟨g, j, none⟩ := by unfold Addr.add; split <;> simp_all
      rw [e2]; exact cell_old o (hc.trans hu))
    clear ho hf hlen hone
    go_enter Try.func37, Try.ntmps37
    go_wp2_with (at_builtin; refine wpList_append_k _ (by rfl) (.tmp 5) (.tmp 6) 74 (by rfl) 82 i0 (.agg #[.int .i64 0, .int .i64 0, .int .i64 0]) 3 24 Try.underlying74 hinfo hz0 hz1 hz2 rfl (by decide) w.heap.size (.slice (some ⟨w.heap.size, 0, none⟩) 0 0) 0 [] (by rfl) (World.ownsRow_made w #[] 0 (Nat.le_refl _) (Nat.zero_le _) rfl) (some ad) n c xs (by rfl) HLen.out (HNews.out _) HOne.out (by unfold maxLen; omega) (by omega) (by simp) ?_; intro A1 c1 w1 hown hgrow _; have HO1 := Lib.hid hown; have HG1 := Lib.hid ((below_alloc w (.cells #[] 82)).grown hgrow (by simp) (fun k e => Nat.le_of_eq (Option.some.inj e))); clear hown hgrow)
    rw [Nat.zero_add] at HO1
    have ho1 := HO1.out
    go_ret
    exact ⟨A1, c1, rfl, by simpa using ho1, HG1.out⟩
def MClonePost (mb nn : Nat) (D : DataW Unit) (w : World) (e : Ending) (w' : World) : Prop := e = .returned (.map (some w.heap.size)) ∧ w'.ownsMap Try.prog 3 (plainElem Try.prog 3) w.heap.size nn D ∧ Below w.heap.size w w'
end
end Go.Proofs.Ytkdfkhebjhnbmaa
