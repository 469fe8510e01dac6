/- The reference's queue: how it lies; When, Next. -/
import Derived.Test.YtllkallodgbpmaaQueQ
set_option linter.unusedSimpArgs false
set_option linter.unusedVariables false
namespace Go.Que
/-- The reference's timers: times and Ids, the next one first. -/
def cellsT (l : List (Int × Int)) : List Value := l.flatMap (fun t => [.int .i64 t.1, .int .i64 t.2])
theorem cellsT_len : ∀ l : List (Int × Int), (cellsT l).length = l.length * 2
  | [] => rfl
  | t :: l => by
    have := cellsT_len l
    show (_ :: _ :: cellsT l).length = _
    simp [this]; omega
theorem cellsT_app (l m : List (Int × Int)) : cellsT (l ++ m) = cellsT l ++ cellsT m := by unfold cellsT; rw [List.flatMap_append]
theorem cellsT_at : ∀ (l : List (Int × Int)) (k : Nat) (h : k < l.length), (cellsT l)[k * 2]? = some (.int .i64 l[k].1) ∧ (cellsT l)[k * 2 + 1]? = some (.int .i64 l[k].2)
  | [], k, h => absurd h (Nat.not_lt_zero _)
  | t :: l, 0, h => ⟨rfl, rfl⟩
  | t :: l, k + 1, h => by
    have h' : k < l.length := by simpa using h
    have := cellsT_at l k h'
    have e1 : (k + 1) * 2 = (k * 2) + 1 + 1 := by omega
    rw [e1]
    exact this
theorem cellsT_one (l : List (Int × Int)) : ∀ u ∈ cellsT l, u.oneCell' = true := by
  intro u hu
  unfold cellsT at hu
  obtain ⟨t, _, h⟩ := List.mem_flatMap.1 hu
  simp at h
  rcases h with rfl | rfl <;> rfl
theorem cellsT_take (l : List (Int × Int)) (k : Nat) : cellsT (l.take k) = (cellsT l).take (k * 2) := by
  rcases Nat.lt_or_ge l.length k with h | h
  · rw [List.take_of_length_le (by omega), List.take_of_length_le (by rw [cellsT_len]; omega)]
  · have e := cellsT_app (l.take k) (l.drop k)
    rw [List.take_append_drop] at e
    have hl : (cellsT (l.take k)).length = k * 2 := by rw [cellsT_len, List.length_take, Nat.min_eq_left h]
    have : (cellsT l).take (k * 2) = cellsT (l.take k) := by rw [e, ← hl, List.take_left]
    exact this.symm
theorem cellsT_drop (l : List (Int × Int)) (k : Nat) : cellsT (l.drop k) = (cellsT l).drop (k * 2) := by
  rcases Nat.lt_or_ge l.length k with h | h
  · rw [List.drop_of_length_le (by omega), List.drop_of_length_le (by rw [cellsT_len]; omega)]; rfl
  · have e := cellsT_app (l.take k) (l.drop k)
    rw [List.take_append_drop] at e
    have hl : (cellsT (l.take k)).length = k * 2 := by rw [cellsT_len, List.length_take, Nat.min_eq_left h]
    rw [e, ← hl, List.drop_left]
end Go.Que
namespace Go.Proofs.Ytllkallodgbpmaa
open Go.ChangeShapes Go.WideShapes Go.ChangeAt Go.RowKit Go.Base Go.Que

/-- Block x is the reference's queue of the timers l; F holds of all its blocks. -/
def RefQ (w : World) (F : Nat → Prop) (x : Nat) (l : List (Int × Int)) : Prop :=
  ∃ A c, w.heap[x]? = some (.cells #[.slice A l.length c] 28 (0, 0)) ∧ w.ownsRow 0 36 2 (.slice A l.length c) l.length (cellsT l) ∧ F x ∧ (∀ k, (Value.slice A l.length c).ownBlock = some k → F k) ∧ l.length ≤ 65536
section
variable {w w' : World} {F G : Nat → Prop} {x : Nat} {l : List (Int × Int)}
theorem RefQ.kept {p : Nat → Prop} (h : RefQ w F x l) (hm : Moved p w w') (hn : ∀ k, F k → ¬ p k) : RefQ w' F x l := by
  obtain ⟨A, c, h1, h2, h3, h4, h5⟩ := h
  exact ⟨A, c, hm.heap h1 (hn _ h3), own_moved h2 hm (fun k hk => hn _ (h4 k hk)), h3, h4, h5⟩
theorem RefQ.later (h : RefQ w F x l) (hb : Below w.heap.size w w') : RefQ w' F x l := h.kept (p := fun _ => False) (Below.movedNew hb) (fun _ _ h => h)
theorem RefQ.wide (h : RefQ w F x l) (hG : ∀ k, F k → G k) : RefQ w G x l := by
  obtain ⟨A, c, h1, h2, h3, h4, h5⟩ := h
  exact ⟨A, c, h1, h2, hG _ h3, fun k hk => hG _ (h4 k hk), h5⟩
theorem RefQ.tight (h : RefQ w F x l) : ∃ F0 : Nat → Prop, RefQ w F0 x l ∧ (∀ k, F0 k → F k) ∧ ∀ k, F0 k → k < w.heap.size := by
  obtain ⟨A, c, h1, h2, h3, h4, h5⟩ := h
  refine ⟨fun k => k = x ∨ (Value.slice A l.length c).ownBlock = some k, ⟨A, c, h1, h2, .inl rfl, fun k hk => .inr hk, h5⟩, fun k hk => ?_, fun k hk => ?_⟩
  · rcases hk with e | e
    · rw [e]; exact h3
    · exact h4 k e
  · rcases hk with e | e
    · rw [e]; exact heap_lt h1
    · exact (h2.lt k e).2
theorem ref_at {A : Option Addr} {c : Nat} (h : w.ownsRow 0 36 2 (.slice A l.length c) l.length (cellsT l)) {k : Nat} (hk : k < l.length) : ∃ g, A = some ⟨g, 0, none⟩ ∧ w.cell? ⟨g, k * 2, none⟩ = some (.int .i64 l[k].1) ∧ w.cell? ⟨g, k * 2 + 1, none⟩ = some (.int .i64 l[k].2) := by
  obtain ⟨g, rfl, h0⟩ := own_cell h rfl (k * 2) (by omega)
  obtain ⟨g1, e1, h1⟩ := own_cell h rfl (k * 2 + 1) (by omega)
  injection e1 with e1; injection e1 with e1; subst e1
  obtain ⟨t0, t1⟩ := cellsT_at l k hk
  exact ⟨g, rfl, h0.trans t0, h1.trans t1⟩
def whenP (l : List (Int × Int)) (id : Int) : Option Int := (l.find? (fun t => t.2 == id)).map (·.1)
def whenX (l : List (Int × Int)) (id : Int) : Int := (whenP l id).getD 0
def whenB (l : List (Int × Int)) (id : Int) : Bool := (whenP l id).isSome
theorem find_none {l : List (Int × Int)} {id : Int} (h : ∀ t ∈ l, t.2 ≠ id) : whenP l id = none := by
  unfold whenP
  rw [List.find?_eq_none.2 (fun t ht => by simpa using h t ht)]; rfl
theorem find_at {l : List (Int × Int)} {id : Int} {k : Nat} (hk : k < l.length) (h : ∀ j (hj : j < k), (l[j]'(by omega)).2 ≠ id) (he : l[k].2 = id) : whenP l id = some l[k].1 := by
  unfold whenP
  have : l.find? (fun t => t.2 == id) = some l[k] := by
    rw [List.find?_eq_some_iff_getElem]
    refine ⟨by simpa using he, k, hk, rfl, fun j hj => by simpa using h j hj⟩
  rw [this]; rfl
set_option maxHeartbeats 1000000 in
theorem rwhen_any (h : RefQ w F x l) (id : Int) : Calls Try.prog 16 #[.pointer (some ⟨x, 0, none⟩), .int .i64 id] w fun e w' => e = .returned (.tuple #[.int .i64 (whenX l id), .bool (whenB l id)]) ∧ w = w' := by
  obtain ⟨A, c, h1, h2, h3, h4, h5⟩ := h
  have c0 : w.cell? ⟨x, 0, none⟩ = some (.slice A l.length c) := cell_of_row _ _ 0 _ _ _ h1
  have H2 := Lib.hid h2
  obtain ⟨n, hn⟩ : ∃ n, n = l.length := ⟨_, rfl⟩
  have HN := Lib.hid hn
  rw [← hn] at c0 h5
  clear h1 h2 h3 h4 hn
  go_enter Try.func16, Try.ntmps16
  go_wp2
  go_loop [6] (fun iv => ∃ k : Nat, k ≤ n ∧ iv = .int .i64 (k : Int) ∧ Hid (∀ j (hj : j < l.length), j < k → l[j].2 ≠ id)) (fun iv => n - (intOf iv).toNat)
  case atStart => exact ⟨0, Nat.zero_le _, rfl, Lib.hid (fun j hj h => by omega)⟩
  case round =>
    obtain ⟨k, hk, rfl, HK⟩ := hrel
    by_cases hlt : k < n
    · have hlt' : (k : Int) < (n : Int) := by omega
      have hkl : k < l.length := by rw [← HN.out]; exact hlt
      obtain ⟨g, rfl, e0, e1⟩ := ref_at H2.out hkl
      by_cases he : l[k].2 = id
      · have HW := Lib.hid (find_at hkl (fun j hj => HK.out j (by omega) hj) he)
        obtain ⟨y, hy⟩ : ∃ y, y = l[k].1 := ⟨_, rfl⟩
        rw [← hy] at e0 HW
        rw [he] at e1
        clear he hy hkl
        go_wp2
        go_ret2
        exact ⟨by unfold whenX whenB; rw [HW.out]; rfl, rfl⟩
      · obtain ⟨y, hy⟩ : ∃ y, y = l[k].2 := ⟨_, rfl⟩
        have HNx : Hid (∀ j (hj : j < l.length), j < k + 1 → l[j].2 ≠ id) := Lib.hid (fun j hj h => by
          by_cases e : j = k
          · subst e; exact he
          · exact HK.out j hj (by omega))
        rw [← hy] at e1 he
        have he' : (y == id) = false := by simpa using he
        clear e0 hy hkl he
        go_wp2
        go_round
        case rel => exact ⟨k + 1, by omega, by go_num, HNx⟩
        case measure => simp [intOf]; omega
    · obtain rfl : k = n := by omega
      have HW : Hid (whenP l id = none) := Lib.hid (find_none (fun t ht => by
        obtain ⟨j, hj, rfl⟩ := List.getElem_of_mem ht
        exact HK.out j hj (by rw [HN.out]; exact hj)))
      go_wp2
      go_ret2
      exact ⟨by unfold whenX whenB; rw [HW.out]; rfl, rfl⟩
end
end Go.Proofs.Ytllkallodgbpmaa
