/- Package queue: the library's heap, going up. -/
import Derived.Test.YtkdfkhebjhnbmaaQueI
set_option linter.unusedSimpArgs false
set_option linter.unusedVariables false
namespace Go.Proofs.Ytkdfkhebjhnbmaa
open Go.ChangeShapes Go.WideShapes Go.ChangeAt Go.RowKit Go.Base Go.Que

section
variable {w w' : World} {F G : Nat → Prop} {q c mb n N : Nat} {A : Option Addr} {D : DataW Unit} {f : Nat → Tm} {turns : Int}
theorem pless_any (h : Que w F q f N turns) {i j : Nat} (hi : i < N) (hj : j < N) (b : Bool) (hb : ltB (f i) (f j) = b) : Calls Try.prog 58 #[.pointer (some ⟨q, 0, none⟩), .int .i64 (i : Int), .int .i64 (j : Int)] w fun e w' => e = .returned (.bool b) ∧ Below w.heap.size w w' := by
  subst hb
  obtain ⟨A, c, mb, D, h⟩ := h
  exact less_any h.row hi hj
theorem plen_any (h : Que w F q f N turns) : Calls Try.prog 31 #[.pointer (some ⟨q, 0, none⟩)] w fun e w' => e = .returned (.int .i64 (N : Int)) ∧ w = w' := by
  obtain ⟨A, c, mb, D, h⟩ := h
  exact rlen_any h.row
theorem Que.few (h : Que w F q f N turns) : N ≤ 65536 := by
  obtain ⟨A, c, mb, D, h⟩ := h
  exact h.row.few
def UpPost (F : Nat → Prop) (q : Nat) (f : Nat → Tm) (n N : Nat) (turns : Int) (w : World) (e : Ending) (w' : World) : Prop :=
  ∃ g, e = .returned (.tuple #[]) ∧ Que w' F q g N turns ∧ Moved F w w' ∧ Shuf n f g ∧ Heap n g ∧ ∀ k, n ≤ k → g k = f k
set_option maxHeartbeats 2000000 in
set_option maxRecDepth 20000 in
theorem up_any (h : Que w F q f N turns) {j : Nat} (hj : j < n) (hn : n ≤ N) (hU : UpI n j f) : Calls Try.prog 38 #[.iface 80 (.pointer (some ⟨q, 0, none⟩)), .int .i64 (j : Int)] w (UpPost F q f n N turns w) := by
  have hN := h.few
  have H := Lib.hid h
  have HU := Lib.hid hU
  clear h hU
  go_enter Try.func38, Try.ntmps38
  go_wp2
  go_loopw [1] (fun jv wr => ∃ (j : Nat) (g : Nat → Tm), j < n ∧ jv = .int .i64 (j : Int) ∧ Hid (Que wr F q g N turns) ∧ Hid (Moved F w wr) ∧ Hid (Shuf n f g) ∧ Hid (UpI n j g) ∧ Hid (∀ k, n ≤ k → g k = f k)) (fun jv _ => (intOf jv).toNat)
  case atStart => exact ⟨j, f, hj, rfl, H, Lib.hid (Moved.refl _ _), Lib.hid (Shuf.refl _ _), HU, Lib.hid (fun _ _ => rfl)⟩
  case round =>
    clear H HU hj
    obtain ⟨j, g, hj, rfl, HQ, HM, HS, HU, HK⟩ := hrel
    by_cases h0 : j = 0
    · subst h0
      go_wp2
      go_end0
      exact ⟨g, rfl, HQ.out, HM.out, HS.out, up_stop HU.out (.inl rfl), HK.out⟩
    · obtain ⟨i, hi⟩ : ∃ i, i = par j := ⟨_, rfl⟩
      have hp : ((j : Int) - 1) / 2 = (i : Int) := by rw [hi]; unfold par; omega
      have hij : i < j := by rw [hi]; exact par_lt (by omega)
      have he : ((i : Int) == (j : Int)) = false := by rw [beq_eq_false_iff_ne]; omega
      have hj1 : (1 : Int) ≤ (j : Int) := by omega
      have HI := Lib.hid hi
      clear hi
      rcases hb : ltB (g j) (g i) with _ | _
      · have HL := Lib.hid (pless_any HQ.out (i := j) (j := i) (by omega) (by omega) false hb)
        have HLt := Lib.hid hb
        clear hb
        go_wp2_with (go_at_call 58; refine Calls.mono (by with_reducible exact HL.out) ?_; rintro en w1 ⟨rfl, hb1⟩; have HB1 := Lib.hid hb1; clear hb1)
        go_end0
        exact ⟨g, rfl, HQ.out.later HB1.out, HM.out.trans (q := fun _ => False) (Below.movedNew HB1.out) (fun _ _ h => h.elim), HS.out, up_stop HU.out (.inr (by rw [← HI.out]; exact of_decide_eq_false HLt.out)), HK.out⟩
      · have HL := Lib.hid (pless_any HQ.out (i := j) (j := i) (by omega) (by omega) true hb)
        have HLt := Lib.hid hb
        clear hb
        go_wp2_with (first
          | (go_at_call 58; refine Calls.mono (by with_reducible exact HL.out) ?_; rintro en w1 ⟨rfl, hb1⟩; have HB1 := Lib.hid hb1; have HSw := Lib.hid (pswap_any (HQ.out.later hb1) (i := i) (j := j) (by omega) (by omega)); clear hb1)
          | (go_at_call 61; refine Calls.mono (by with_reducible exact HSw.out) ?_; rintro en w2 ⟨rfl, hq2, hm2⟩; have HQ2 := Lib.hid hq2; have HM2 := Lib.hid hm2; clear hq2 hm2))
        go_roundw
        case rel =>
          refine ⟨i, swp g i j, by omega, rfl, HQ2, Lib.hid ((HM.out.trans (q := fun _ => False) (Below.movedNew HB1.out) (fun _ _ h => h.elim)).trans HM2.out (fun _ _ h => h)), Lib.hid (HS.out.trans (shuf_swp g (by omega) hj)), Lib.hid ?_, Lib.hid (fun k hk => by rw [swp_o g (by omega) (by omega)]; exact HK.out k hk)⟩
          have := up_step HU.out hj (by omega) (by rw [← HI.out]; exact of_decide_eq_true HLt.out)
          rw [← HI.out] at this; exact this
        case measure => simp [intOf]; omega
end
end Go.Proofs.Ytkdfkhebjhnbmaa
