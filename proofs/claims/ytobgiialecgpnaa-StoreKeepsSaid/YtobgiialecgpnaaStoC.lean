/- Walks of package store: closed, Off, refuse, wear, nameByte, mayBe. -/
import Derived.Test.YtobgiialecgpnaaStoB
import Derived.Deep.LoopGhost
set_option linter.unusedSimpArgs false
set_option linter.unusedVariables false
namespace Go.Proofs.Ytobgiialecgpnaa
open Go.ChangeShapes Go.WideShapes Go.ChangeAt Go.RowKit Go.Base Go.Sto

theorem run_eql_map_nil {P : Program} (w : World) {t k e : TypeId} (q : Option Nat) (ht : P.underlying t = some (.map k e)) :
    (binOp .eql t (.map q) (.map none)).run P w = .ok (.bool q.isNone) w := by
  have h : ∀ d : Nat, (Op.equalIn (d + 1) t (.map q) (.map none)).run P w = .ok q.isNone w := fun d => by
    cases q <;> simp [Op.equalIn, run_underlying ht]
  simp only [binOp]
  simp [Op.equal, Op.maxDepth, h 9999]
section
variable {w : World} {F : Nat → Prop} {p bm : Nat} {D : DataW Unit} {es : List Ent} {room : Nat} {left : Int}
theorem closed_nil (w : World) : Calls Try.prog 22 #[.pointer none] w fun e w' => e = .returned (.bool true) ∧ w = w' := by
  go_enter Try.func22, Try.ntmps22
  go_wp2
  go_ret
  exact ⟨rfl, rfl⟩
theorem closed_any (h : StoX w F p bm D es room left) : Calls Try.prog 22 #[.pointer (some ⟨p, 0, none⟩)] w fun e w' => e = .returned (.bool false) ∧ w = w' := by
  obtain ⟨c0, c1, c2⟩ := h.cells
  clear h
  have hmn := fun (w : World) (q : Option Nat) => run_eql_map_nil (P := Try.prog) w q Try.underlying56
  go_enter Try.func22, Try.ntmps22
  go_wp2
  go_ret
  exact ⟨rfl, rfl⟩
theorem off_any (h : StoX w F p bm D es room left) : Calls Try.prog 50 #[.pointer (some ⟨p, 0, none⟩)] w fun e w' => e = .returned (.bool (left == 0)) ∧ w = w' := by
  have HC := Lib.hid (closed_any h)
  obtain ⟨c0, c1, c2⟩ := h.cells
  clear h
  go_enter Try.func50, Try.ntmps50
  go_wp2_with (go_at_call 22; refine Calls.mono (by with_reducible exact HC.out) ?_; rintro e w1 ⟨rfl, rfl⟩)
  go_ret
  exact ⟨rfl, rfl⟩
theorem refuse_any (h : StoX w F p bm D es room left) (ok : Bool) : Calls Try.prog 25 #[.pointer (some ⟨p, 0, none⟩), .bool ok] w fun e w' => e = .returned (.int .i64 ((if ok then (if left = 0 then 70 else 0) else 1 : Nat) : Int)) ∧ w = w' := by
  have HC := Lib.hid (closed_any h)
  have HO := Lib.hid (off_any h)
  clear h
  cases ok
  · go_enter Try.func25, Try.ntmps25
    go_wp2_with (go_at_call 22; refine Calls.mono (by with_reducible exact HC.out) ?_; rintro e w1 ⟨rfl, rfl⟩)
    go_ret
    exact ⟨rfl, rfl⟩
  · by_cases hl : left = 0
    · subst hl
      go_enter Try.func25, Try.ntmps25
      go_wp2_with (first
        | (go_at_call 22; refine Calls.mono (by with_reducible exact HC.out) ?_; rintro e w1 ⟨rfl, rfl⟩)
        | (go_at_call 50; refine Calls.mono (by with_reducible exact HO.out) ?_; rintro e w1 ⟨rfl, rfl⟩))
      go_ret
      exact ⟨rfl, rfl⟩
    · have hl' : (left == 0) = false := by rw [beq_eq_false_iff_ne]; exact hl
      rw [hl'] at HO
      go_enter Try.func25, Try.ntmps25
      go_wp2_with (first
        | (go_at_call 22; refine Calls.mono (by with_reducible exact HC.out) ?_; rintro e w1 ⟨rfl, rfl⟩)
        | (go_at_call 50; refine Calls.mono (by with_reducible exact HO.out) ?_; rintro e w1 ⟨rfl, rfl⟩))
      go_ret
      exact ⟨rfl, rfl⟩
def WearPost (F : Nat → Prop) (p bm : Nat) (D : DataW Unit) (es : List Ent) (room : Nat) (left : Int) (w : World) (e : Ending) (w' : World) : Prop :=
  e = .returned (.tuple #[]) ∧ StoX w' F p bm D es room (wear left) ∧ Moved (fun k => k = p) w w' ∧ w'.heap.size = w.heap.size
theorem wear_any (h : StoX w F p bm D es room left) : Calls Try.prog 27 #[.pointer (some ⟨p, 0, none⟩)] w (WearPost F p bm D es room left w) := by
  have H := Lib.hid h
  obtain ⟨c0, c1, c2⟩ := h.cells
  have hl := h.lefts
  have f2 : w.frozen? ⟨p, 2, none⟩ = false := (cells_of_heap h.self).2 2
  clear h
  by_cases hp : 0 < left
  · have hs : IntKind.i64.wrap (left - 1) = left - 1 := by rw [IntKind.wrap_i64]; omega
    have hw : wear left = left - 1 := by unfold wear; rw [if_pos hp]
    go_enter Try.func27, Try.ntmps27
    go_wp2
    go_returns
    refine ⟨rfl, ?_, Moved.setCell (p := fun k => k = p) (Moved.refl _ w) (.inr rfl) _, by simp⟩
    rw [hw]
    exact H.out.power _ (by omega)
  · have hw : wear left = left := by unfold wear; rw [if_neg hp]
    go_enter Try.func27, Try.ntmps27
    go_wp2
    go_returns
    refine ⟨rfl, ?_, Moved.refl _ w, rfl⟩
    rw [hw]; exact H.out
end
theorem nameByte_any (c : UInt8) (w : World) : Calls Try.prog 51 #[.int .u8 (c.toNat : Int)] w fun e w' => e = .returned (.bool (okByte c)) ∧ w = w' := by
  have e1 : (decide ((97 : Int) ≤ (c.toNat : Int))) = decide (97 ≤ c.toNat) := by simp only [decide_eq_decide]; omega
  have e2 : (decide ((c.toNat : Int) ≤ 122)) = decide (c.toNat ≤ 122) := by simp only [decide_eq_decide]; omega
  have e3 : (decide ((48 : Int) ≤ (c.toNat : Int))) = decide (48 ≤ c.toNat) := by simp only [decide_eq_decide]; omega
  have e4 : (decide ((c.toNat : Int) ≤ 57)) = decide (c.toNat ≤ 57) := by simp only [decide_eq_decide]; omega
  have e5 : ((c.toNat : Int) == 46) = (c.toNat == 46) := by rw [Bool.eq_iff_iff]; simp only [beq_iff_eq]; omega
  have e6 : ((c.toNat : Int) == 45) = (c.toNat == 45) := by rw [Bool.eq_iff_iff]; simp only [beq_iff_eq]; omega
  go_enter Try.func51, Try.ntmps51
  go_wp2
  all_goals
    clear e1 e2 e3 e4 e5 e6
    go_ret
    refine ⟨?_, rfl⟩
    show Ending.returned (Value.bool _) = _
    unfold okByte
    congr 2
    rw [Bool.eq_iff_iff]
    simp
    omega
end Go.Proofs.Ytobgiialecgpnaa
