/- Package queue: the laws' own lives. -/
import Derived.Test.YtllkallodgbpmaaQueQ
set_option linter.unusedSimpArgs false
set_option linter.unusedVariables false
namespace Go.Que
def tA : Tm := ⟨9, 1, 1⟩
def tB : Tm := ⟨5, 2, 2⟩
def tC : Tm := ⟨5, 3, 3⟩
def s1 (t : Tm) : Prop := t = tA
def s2 (t : Tm) : Prop := t = tB ∨ t = tA
def s3 (t : Tm) : Prop := t = tC ∨ t = tB ∨ t = tA
def s4 (t : Tm) : Prop := t = tC ∨ t = tA
end Go.Que
namespace Go.Proofs.Ytllkallodgbpmaa
open Go.ChangeShapes Go.WideShapes Go.ChangeAt Go.RowKit Go.Base Go.Que

theorem OpL.same {B q n : Nat} {S S' : Tm → Prop} {turns : Int} {v : Value} {w w' : World} {e : Ending} (h : OpL B q S n turns v w e w') (hs : ∀ t, S t ↔ S' t) : OpL B q S' n turns v w e w' := ⟨h.1, h.2.1.same hs, h.2.2⟩
theorem fit_small {a b c : Int} (h1 : 0 ≤ a ∧ a ≤ 100) (h2 : 0 ≤ b ∧ b ≤ 100) (h3 : 0 ≤ c ∧ c ≤ 100) : tfit ⟨a, b, c⟩ := by
  unfold tfit
  refine ⟨⟨?_, ?_⟩, ⟨?_, ?_⟩, ⟨?_, ?_⟩⟩ <;> simp <;> omega
def allV (a : Nat) : Value := .func (.func 31) #[] #[.pointer (some ⟨a, 0, none⟩)]
theorem all_any (p : Option Addr) (w : World) : Calls Try.prog 21 #[.pointer p] w fun e w' => e = .returned (allV w.heap.size) ∧ w' = w.alloc (.cells #[.pointer p] 23) := by
  go_enter Try.func21, Try.ntmps21
  go_wp2
  go_ret
  exact ⟨rfl, rfl⟩
theorem eql_func (fn : Fn) (x y : Array Value) (w : World) : (binOp .eql 47 (.func fn x y) .nilFunc).run Try.prog w = .ok (.bool false) w := by kernel_rfl
set_option maxHeartbeats 4000000 in
set_option maxRecDepth 20000 in
theorem qlives_any (w : World) : Calls Try.prog 8 #[] w fun e w' => e = .returned (.bool true) ∧ Below w.heap.size w w' := by
  have HN := Lib.hid (newL w w.heap.size (Nat.le_refl _))
  have H1 : Hid (∀ V q, QL w.heap.size V q (fun _ => False) 0 0 → Calls Try.prog 9 #[.pointer (some ⟨q, 0, none⟩), .int .i64 1, .int .i64 9] V (OpL w.heap.size q s1 1 1 (.int .i64 0) V)) := Lib.hid (fun V q h =>
    (setL_miss h (id := 1) (at_ := 9) (fit_small (by omega) (by omega) (by omega)) (fun t h => h.elim) (by omega) (by omega)).mono fun e w' h => h.same (fun t => by unfold s1 tA; simp))
  have H2 : Hid (∀ V q, QL w.heap.size V q s1 1 1 → Calls Try.prog 9 #[.pointer (some ⟨q, 0, none⟩), .int .i64 2, .int .i64 5] V (OpL w.heap.size q s2 2 2 (.int .i64 0) V)) := Lib.hid (fun V q h =>
    (setL_miss h (id := 2) (at_ := 5) (fit_small (by omega) (by omega) (by omega)) (fun t h => by rw [show t = tA from h]; decide) (by omega) (by omega)).mono fun e w' h => h.same (fun t => by
      unfold s2 s1
      constructor
      · rintro (e | ⟨e, _⟩)
        · exact .inl e
        · exact .inr e
      · rintro (e | e)
        · exact .inl e
        · exact .inr ⟨e, by rw [e]; decide⟩))
  have H3 : Hid (∀ V q, QL w.heap.size V q s2 2 2 → Calls Try.prog 9 #[.pointer (some ⟨q, 0, none⟩), .int .i64 3, .int .i64 5] V (OpL w.heap.size q s3 3 3 (.int .i64 0) V)) := Lib.hid (fun V q h =>
    (setL_miss h (id := 3) (at_ := 5) (fit_small (by omega) (by omega) (by omega)) (fun t h => by rcases h with h | h <;> (rw [h]; decide)) (by omega) (by omega)).mono fun e w' h => h.same (fun t => by
      unfold s3 s2
      constructor
      · rintro (e | ⟨e | e, _⟩)
        · exact .inl e
        · exact .inr (.inl e)
        · exact .inr (.inr e)
      · rintro (e | e | e)
        · exact .inl e
        · exact .inr ⟨.inl e, by rw [e]; decide⟩
        · exact .inr ⟨.inr e, by rw [e]; decide⟩))
  have H4 : Hid (∀ V q, QL w.heap.size V q s3 3 3 → Calls Try.prog 13 #[.pointer (some ⟨q, 0, none⟩), .int .i64 9] V (OpL w.heap.size q s4 2 3 (.tuple #[.agg #[.int .i64 5, .int .i64 2], .bool true]) V)) := Lib.hid (fun V q h =>
    (popL_due h (t := tB) (now := 9) (.inr (.inl rfl)) (fun u hu hne => by rcases hu with e | e | e <;> (subst e; first | exact absurd rfl hne | decide)) (by decide)).mono fun e w' h => h.same (fun t => by
      unfold s4 s3
      constructor
      · rintro ⟨e | e | e, hne⟩
        · exact .inl e
        · exact absurd (by rw [e]) hne
        · exact .inr e
      · rintro (e | e)
        · exact ⟨.inl e, by rw [e]; decide⟩
        · exact ⟨.inr (.inr e), by rw [e]; decide⟩))
  have H5 : Hid (∀ V q, QL w.heap.size V q s4 2 3 → Calls Try.prog 19 #[.pointer (some ⟨q, 0, none⟩)] V fun e w' => e = .returned (.tuple #[.agg #[.int .i64 5, .int .i64 3], .bool true]) ∧ Below V.heap.size V w') := Lib.hid (fun V q h =>
    nextL h (t := tC) (.inl rfl) (fun u hu hne => by rcases hu with e | e <;> (subst e; first | exact absurd rfl hne | decide)))
  have H6 : Hid (∀ V q, QL w.heap.size V q s4 2 3 → Calls Try.prog 20 #[.pointer (some ⟨q, 0, none⟩)] V fun e w' => e = .returned (.int .i64 2) ∧ V = w') := Lib.hid (fun V q h => lenL h)
  have hE := eql_func
  go_enter Try.func8, Try.ntmps8
  go_wp2_with (first
    | (go_at_call 7; refine Calls.mono (by with_reducible exact HN.out) ?_; rintro e w1 ⟨q, rfl, hq, hb⟩; have HQ1 := Lib.hid hq; have HB1 := Lib.hid hb; clear hq hb HN)
    | (go_at_call 21; refine Calls.mono (all_any _ _) ?_; rintro e w2 ⟨rfl, rfl⟩; simp only [allV]; have HQ2 := Lib.hid (HQ1.out.later (below_alloc _ (.cells #[.pointer (some ⟨q, 0, none⟩)] 23))); have HB2 := Lib.hid (HB1.out.alloc HB1.out.size (.cells #[.pointer (some ⟨q, 0, none⟩)] 23)); clear HQ1)
    | (have tok1 := HQ2; go_at_call 9; refine Calls.mono (H1.out _ _ HQ2.out) ?_; rintro e w3 ⟨rfl, hq, hb⟩; have HQ3 := Lib.hid hq; have HB3 := Lib.hid (HB2.out.trans hb); clear hq hb HQ2 tok1)
    | (have tok2 := HQ3; go_at_call 9; refine Calls.mono (H2.out _ _ HQ3.out) ?_; rintro e w4 ⟨rfl, hq, hb⟩; have HQ4 := Lib.hid hq; have HB4 := Lib.hid (HB3.out.trans hb); clear hq hb HQ3 tok2)
    | (have tok3 := HQ4; go_at_call 9; refine Calls.mono (H3.out _ _ HQ4.out) ?_; rintro e w5 ⟨rfl, hq, hb⟩; have HQ5 := Lib.hid hq; have HB5 := Lib.hid (HB4.out.trans hb); clear hq hb HQ4 tok3)
    | (go_at_call 13; refine Calls.mono (H4.out _ _ HQ5.out) ?_; rintro e w6 ⟨rfl, hq, hb⟩; have HQ6 := Lib.hid (hq.later (below_alloc w6 (.cells #[.int .i64 5, .int .i64 2] 36))); have HB6 := Lib.hid ((HB5.out.trans hb).alloc (HB5.out.trans hb).size (.cells #[.int .i64 5, .int .i64 2] 36)); clear hq hb HQ5)
    | (go_at_call 19; refine Calls.mono (H5.out _ _ HQ6.out) ?_; rintro e w7 ⟨rfl, hb⟩; have hk := kept_new hb; have HQ7 := Lib.hid ((HQ6.out.later hb).later (below_alloc w7 (.cells #[.int .i64 5, .int .i64 3] 36))); have HB7 := Lib.hid (((HB6.out.trans (hb.mono HB6.out.size))).alloc (HB6.out.trans (hb.mono HB6.out.size)).size (.cells #[.int .i64 5, .int .i64 3] 36)); have k0 := cell_of_row _ _ 0 _ _ _ (heap_old (.cells #[.int .i64 5, .int .i64 3] 36) (heap_lt hk) hk); have k1 := cell_of_row _ _ 1 _ _ _ (heap_old (.cells #[.int .i64 5, .int .i64 3] 36) (heap_lt hk) hk); clear hb hk HQ6)
    | (go_at_call 20; refine Calls.mono (H6.out _ _ HQ7.out) ?_; rintro e w8 ⟨rfl, rfl⟩))
  trace_state
  go_ret
  exact ⟨rfl, HB7.out⟩
end Go.Proofs.Ytllkallodgbpmaa
