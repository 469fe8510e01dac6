/- Regions that draw their order and whose calls lay blocks only: by one walk of the text's order (Derived/Deep/Quiet at the class 'below'). What Count answers, two ranges and one; the law NextSplits. -/
import Derived.Test.YtnijneajlmgkjaaDoorNxtW
import Derived.BigQuiet
set_option linter.unusedSimpArgs false
set_option linter.unusedVariables false
namespace Go
theorem wp_region_quietC {P : Program} {C : World → Prop} {id : Nat} {Q : Exit → Act → World → Prop} {a : Act} {w : World} {l : List Oper} (hm : P.follows .mixedOrders = true) (hB : Region.lexB .any l.toArray = true) (hC : C w.drew)
    (h : wpQuiet P l.toArray C (fun a' => ∀ w', C w' → Q .normal a' w') l a) : (Code.region id l.toArray true).wp P Q a w :=
  wp_region_quiet (C := C) hm hB hC (by simpa using h)
theorem quiet_by {P : Program} {C : World → Prop} {o : Oper} {a : Act} {K : Act → Prop} {v : Value} (h : ∀ w, C w → o.quietAt P a C w v) (hk : K (a.put o.dst v)) : o.quiet P a C K := ⟨v, h, hk⟩
end Go
/-- One operation: passed over; a move or arithmetic; a load or a call by the prover's tactic ('V', 'hV': the world). -/
macro "go_qc " "(" tac:tactic ")" : tactic => `(tactic| first
  | go_big_quiet_skip
  | (go_big_quiet_want; go_big_quiet_op; go_big_quiet_on)
  | (go_big_quiet_want
     apply Go.quiet_by
     · (intro $(Lean.mkIdent `V):ident $(Lean.mkIdent `hV):ident; $tac:tactic)
     simp only [Go.Act.put, List.setIfInBounds_toArray, List.set_cons_zero, List.set_cons_succ]
     go_big_quiet_on))
namespace Go.Proofs.YtnijneajlmgkjaaDoor
open Go.ChangeShapes Go.WideShapes Go.ChangeAt Go.RowKit Go.Base Go.Civ Go.Nxt Go.Cro

theorem called_in {P : Program} {f : FuncId} {args : Array Value} {V W : World} {v : Value} (hV : Below W.heap.size W V) (h : Calls P f args V fun e w' => e = .returned v ∧ Below V.heap.size V w') :
    Calls P f args V fun e w' => e = .returned v ∧ Below W.heap.size W w' := h.mono fun _ _ ⟨he, hb⟩ => ⟨he, hV.trans (hb.mono hV.size)⟩
theorem bndB_mono {a b : Int} (h : a ≤ b) : bndB a ≤ bndB b := by unfold bndB; split <;> (try split) <;> (try split) <;> (try split) <;> omega
theorem sorted_len {hi : Int} : ∀ (L : List Int) (lo : Int), lo ≤ hi → L.Pairwise (· < ·) → (∀ x ∈ L, lo ≤ x ∧ x < hi) → (L.length : Int) ≤ hi - lo
  | [], lo, h, _, _ => by simp; omega
  | x :: r, lo, h, hp, ha => by
    have hx := ha x List.mem_cons_self
    have h1 := List.pairwise_cons.1 hp
    have := sorted_len r (x + 1) (by omega) h1.2 (fun y hy => ⟨by have := h1.1 y hy; omega, (ha y (List.mem_cons_of_mem _ hy)).2⟩)
    simp only [List.length_cons]; omega
/-- What Count answers of any spec; ranges one behind the other. -/
theorem count_all (s : Sp) (hs : SpOk s) : ∃ f : Int → Int → Nat, (∀ a b w, Vars w → Calls Tryd.prog 12 #[spV s, .int .i64 a, .int .i64 b] w fun e w' => e = .returned (.int .i64 (f a b : Nat)) ∧ Below w.heap.size w w') ∧
    (∀ a b c, a ≤ b → b ≤ c → f a b + f b c = f a c) ∧ ∀ a b, (f a b : Int) < 4611686018427387904 := by
  cases hm : mayB s with
  | false => exact ⟨fun _ _ => 0, fun a b w hv => count_no s a b (.inl hm) w hv, fun _ _ _ _ _ => rfl, fun _ _ => (by decide : ((0 : Nat) : Int) < 4611686018427387904)⟩
  | true =>
    obtain ⟨H, hH⟩ : ∃ H : Nat, s.ho = H := ⟨s.ho.toNat, by have := hs.ho.1; omega⟩
    obtain ⟨M, hM⟩ : ∃ M : Nat, s.mi = M := ⟨s.mi.toNat, by have := hs.mi.1; omega⟩
    obtain ⟨uH, uM⟩ := may_under hs hm hM hH
    have h := fun a b => count_any s hs hm H M hM hH uH uM a b
    refine ⟨fun a b => ((h a b).choose).length, fun a b w hv => (h a b).choose_spec.2 w hv, fun a b c hab hbc => ?_, fun a b => ?_⟩
    · have e := ((h a b).choose_spec.1.append (h b c).choose_spec.1 (bndB_mono hab) (bndB_mono hbc)).unique (h a c).choose_spec.1
      rw [← List.length_append, e]
    · show ((h a b).choose.length : Int) < _
      have I := (h a b).choose_spec.1
      have bd : ∀ t, -62135596800 ≤ bndB t ∧ bndB t ≤ 253402300799 := fun t => by unfold bndB; split <;> (try split) <;> omega
      have b1 := bd a
      have b2 := bd b
      by_cases hl : bndB a ≤ bndB b
      · have := sorted_len _ _ hl I.1 (fun x hx => ((I.2 x).1 hx).2)
        omega
      · have := (h a b).choose_spec.1.2
        have e : (h a b).choose = [] := List.eq_nil_iff_forall_not_mem.2 (fun x hx => by have := ((I.2 x).1 hx).2; omega)
        rw [e]; decide

set_option maxHeartbeats 4000000 in
theorem law_splits (s : Sp) (hs : SpOk s) (f a b : Int) (f0 : -9223372036854775808 ≤ f ∧ f ≤ 9223372036854775807) (w : World) (hv : Vars w) :
    Calls Tryd.prog 8 #[spV s, .int .i64 f, .int .i64 a, .int .i64 b] w fun e w' => e = .returned (.bool true) ∧ Below w.heap.size w w' := by
  obtain ⟨F, hF, hsum, hbd⟩ := count_all s hs
  have HV := Lib.hid (fun (w' : World) (hb : Below w.heap.size w w') => hv.later hb)
  have HLi := Lib.hid (fun V hV => lives_any V hV)
  have HC := Lib.hid hF
  have HSm := Lib.hid hsum
  have HBd := Lib.hid hbd
  clear hv hF hsum hbd hs
  obtain ⟨smi, sho, sda, smo, swe, ad, aw⟩ := s
  simp only [spV] at HC ⊢
  have HBx := Lib.hid (below_alloc w (.cells (specC smi sho sda smo swe ad aw) 24 (0, 0)))
  by_cases hin : -62135596800 ≤ f ∧ f ≤ 253402300799 ∧ 0 ≤ a ∧ a ≤ 1099511627776 ∧ 0 ≤ b ∧ b ≤ 1099511627776
  · obtain ⟨i1, i2, i3, i4, i5, i6⟩ := hin
    go_enter Tryd.func8, Tryd.ntmps8
    go_wp2
    have e1 : IntKind.i64.wrap (f + a) = f + a := IntWalk.i64_in _ ⟨by omega, by omega⟩
    have e2 : IntKind.i64.wrap (f + a + b) = f + a + b := IntWalk.i64_in _ ⟨by omega, by omega⟩
    have b1 := HBd.out f (f + a)
    have b2 := HBd.out (f + a) (f + a + b)
    have hsm := HSm.out f (f + a) (f + a + b) (by omega) (by omega)
    have e3 : IntKind.i64.wrap ((F f (f + a) : Int) + (F (f + a) (f + a + b) : Int)) = (F f (f + a + b) : Int) := by rw [IntWalk.i64_in _ ⟨by omega, by omega⟩]; omega
    have hg0 := heap_new w (.cells (specC smi sho sda smo swe ad aw) 24 (0, 0))
    obtain ⟨q1, _⟩ := cells_of_heap hg0
    have c0 := q1 0
    have c1 := q1 1
    have c2 := q1 2
    have c3 := q1 3
    have c4 := q1 4
    have c5 := q1 5
    have c6 := q1 6
    clear q1 hg0
    generalize hW3 : w.alloc (.cells (specC smi sho sda smo swe ad aw) 24 (0, 0)) = W3 at *
    have HS : Hid (∀ V, Below W3.heap.size W3 V → V.cell? ⟨w.heap.size, 0, none⟩ = some (.int .u64 smi) ∧ V.cell? ⟨w.heap.size, 1, none⟩ = some (.int .u64 sho) ∧ V.cell? ⟨w.heap.size, 2, none⟩ = some (.int .u64 sda) ∧ V.cell? ⟨w.heap.size, 3, none⟩ = some (.int .u64 smo) ∧ V.cell? ⟨w.heap.size, 4, none⟩ = some (.int .u64 swe) ∧ V.cell? ⟨w.heap.size, 5, none⟩ = some (.bool ad) ∧ V.cell? ⟨w.heap.size, 6, none⟩ = some (.bool aw)) :=
      Lib.hid (fun V hV => ⟨cell_later hV c0, cell_later hV c1, cell_later hV c2, cell_later hV c3, cell_later hV c4, cell_later hV c5, cell_later hV c6⟩)
    have HL3 : Hid (∀ V, Below W3.heap.size W3 V → Calls Tryd.prog 10 #[] V fun e w' => e = .returned (.bool true) ∧ Below W3.heap.size W3 w') := Lib.hid (fun V hV => called_in hV (HLi.out V (HV.out _ (HBx.out.trans (hV.mono HBx.out.size)))))
    have HC3 : Hid (∀ a b V, Below W3.heap.size W3 V → Calls Tryd.prog 12 #[.agg #[.int .u64 smi, .int .u64 sho, .int .u64 sda, .int .u64 smo, .int .u64 swe, .bool ad, .bool aw], .int .i64 a, .int .i64 b] V fun e w' => e = .returned (.int .i64 (F a b : Nat)) ∧ Below W3.heap.size W3 w') := Lib.hid (fun a b V hV => called_in hV (HC.out a b V (HV.out _ (HBx.out.trans (hV.mono HBx.out.size)))))
    clear c0 c1 c2 c3 c4 c5 c6 hW3 HC HLi HSm HBd
    refine wp_region_quietC (C := fun V => Below W3.heap.size W3 V) (by kernel_rfl) (by kernel_rfl) (Below.refl _ _).drew ?_
    repeat (go_qc (first
      | (unfold Oper.quietAt; have gg := HS.out V hV; obtain ⟨g0, g1, g2, g3, g4, g5, g6⟩ := gg; go_simp; with_reducible rfl)
      | (unfold Oper.quietAt; go_simp; first | (with_reducible exact HL3.out V hV) | (with_reducible exact HC3.out _ _ V hV))))
    refine wpQuiet_nil ?_
    intro w5 hw5
    have HB5 := Lib.hid (HBx.out.trans (hw5.mono HBx.out.size))
    clear hw5
    go_wp2
    go_ret
    refine ⟨?_, HB5.out⟩
    go_simp
  · have hout : f < -62135596800 ∨ (-62135596800 ≤ f ∧ 253402300799 < f) ∨ (-62135596800 ≤ f ∧ f ≤ 253402300799 ∧ a < 0) ∨ (-62135596800 ≤ f ∧ f ≤ 253402300799 ∧ 0 ≤ a ∧ 1099511627776 < a) ∨ (-62135596800 ≤ f ∧ f ≤ 253402300799 ∧ 0 ≤ a ∧ a ≤ 1099511627776 ∧ b < 0) ∨ (-62135596800 ≤ f ∧ f ≤ 253402300799 ∧ 0 ≤ a ∧ a ≤ 1099511627776 ∧ 0 ≤ b ∧ 1099511627776 < b) := by omega
    clear hin
    rcases hout with h1 | ⟨h1, h2⟩ | ⟨h1, h2, h3⟩ | ⟨h1, h2, h3, h4⟩ | ⟨h1, h2, h3, h4, h5⟩ | ⟨h1, h2, h3, h4, h5, h6⟩
    all_goals
      go_enter Tryd.func8, Tryd.ntmps8
      go_wp2_with (go_at_call 10; refine (HLi.out _ (HV.out _ HBx.out)).mono ?_; rintro e w1 ⟨rfl, hb1⟩; have HB1 := Lib.hid (HBx.out.trans (hb1.mono HBx.out.size)); clear hb1)
      go_ret
      exact ⟨rfl, HB1.out⟩
end Go.Proofs.YtnijneajlmgkjaaDoor
