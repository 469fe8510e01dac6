/- Package queue: two timers of a row exchanged. -/
import Derived.Test.YtkdfkhebjhnbmaaQueC
import Derived.Laws.OwnMore
set_option linter.unusedSimpArgs false
set_option linter.unusedVariables false
namespace Go.Que
def upd (f : Nat → Tm) (i : Nat) (t : Tm) : Nat → Tm := fun k => if k = i then t else f k
theorem upd_swp (f : Nat → Tm) (i j : Nat) : upd (upd f i (f j)) j (f i) = swp f i j := by
  funext k
  unfold upd swp
  by_cases h1 : k = i
  · by_cases h2 : k = j
    · subst h1; subst h2; simp
    · simp [h1, h2]; intro h; omega
  · by_cases h2 : k = j
    · simp [h2]; intro h; omega
    · simp [h1, h2]
end Go.Que
namespace Go.Proofs.Ytkdfkhebjhnbmaa
open Go.ChangeShapes Go.WideShapes Go.ChangeAt Go.RowKit Go.Base Go.Que

def set3 (xs : List Value) (i : Nat) (t : Tm) : List Value := ((xs.set (i * 3) (.int .i64 t.at_)).set (i * 3 + 1) (.int .i64 t.id)).set (i * 3 + 2) (.int .i64 t.turn)
theorem length_set3 (xs : List Value) (i : Nat) (t : Tm) : (set3 xs i t).length = xs.length := by unfold set3; simp
theorem tms_set {xs : List Value} {n : Nat} {f : Nat → Tm} (h : Tms xs n f) (hl : xs.length = n * 3) {i : Nat} (hi : i < n) (t : Tm) : Tms (set3 xs i t) n (upd f i t) := fun k hk => by
  unfold set3 upd
  simp only [List.getElem?_set, List.length_set]
  by_cases e : k = i
  · subst e
    simp only [if_true]
    refine ⟨?_, ?_, ?_⟩
    · rw [if_neg (by omega), if_neg (by omega), if_pos (by omega)]
    · rw [if_neg (by omega), if_pos (by omega)]
    · rw [if_pos (by omega)]
  · rw [if_neg e]
    obtain ⟨h0, h1, h2⟩ := h k hk
    refine ⟨?_, ?_, ?_⟩
    · rw [if_neg (by omega), if_neg (by omega), if_neg (by omega)]; exact h0
    · rw [if_neg (by omega), if_neg (by omega), if_neg (by omega)]; exact h1
    · rw [if_neg (by omega), if_neg (by omega), if_neg (by omega)]; exact h2
section
variable {w w' : World} {b : Nat} {R : Rest} {A : Option Addr} {n c : Nat} {f : Nat → Tm}
def put3 (w : World) (g i : Nat) (t : Tm) : World := ((w.setCell ⟨g, i * 3, none⟩ (.int .i64 t.at_)).setCell ⟨g, i * 3 + 1, none⟩ (.int .i64 t.id)).setCell ⟨g, i * 3 + 2, none⟩ (.int .i64 t.turn)
theorem own_put3 {g : Nat} {xs : List Value} (h : w.ownsRow 0 82 3 (.slice (some ⟨g, 0, none⟩) n c) n xs) (i : Nat) (t : Tm) : (put3 w g i t).ownsRow 0 82 3 (.slice (some ⟨g, 0, none⟩) n c) n (set3 xs i t) :=
  (((h.stored (i * 3) _).1.stored (i * 3 + 1) _).1.stored (i * 3 + 2) _).1
theorem moved_put3 (w : World) (g i : Nat) (t : Tm) : Moved (fun k => k = g) w (put3 w g i t) :=
  ((((Moved.refl (fun k => k = g) w).setCell (.inr rfl) _).setCell (.inr rfl) _).setCell (.inr rfl) _)
theorem other_ne {g : Nat} {xs : List Value} (h : ∃ cs t z, w.heap[b]? = some (.cells cs t z) ∧ t ≠ 82) (ho : w.ownsRow 0 82 3 (.slice (some ⟨g, 0, none⟩) n c) n xs) : b ≠ g := by
  obtain ⟨cs, t, z, hb, ht⟩ := h
  rintro rfl
  exact own_ne ho hb (fun e => ht e.symm) rfl
/-- What leaves the row's slice and turns its cells. -/
theorem RowX.turned {g : Nat} {f' : Nat → Tm} {xs : List Value} (h : RowX w b R (some ⟨g, 0, none⟩) n c f) (hm : Moved (fun k => k = g) w w') (ho : w'.ownsRow 0 82 3 (.slice (some ⟨g, 0, none⟩) n c) n xs) (ht : Tms xs n f') : RowX w' b R (some ⟨g, 0, none⟩) n c f' := by
  obtain ⟨ys, ho0, _⟩ := h.own
  exact ⟨hm.heap h.self (other_ne h.other ho0), ⟨xs, ho, ht⟩, h.ty, h.few⟩
def SwapPost (b : Nat) (R : Rest) (g n c : Nat) (f : Nat → Tm) (w : World) (e : Ending) (w' : World) : Prop := e = .returned (.tuple #[]) ∧ RowX w' b R (some ⟨g, 0, none⟩) n c f ∧ Moved (fun k => k = g) w w'
theorem swap_post {g : Nat} (h : RowX w b R (some ⟨g, 0, none⟩) n c f) {i j : Nat} (hi : i < n) (hj : j < n) : SwapPost b R g n c (swp f i j) w (.returned (.tuple #[])) (put3 (put3 w g i (f j)) g j (f i)).drew := by
  obtain ⟨xs, ho, ht⟩ := h.own
  have h1 := own_put3 ho i (f j)
  have h2 := own_put3 h1 j (f i)
  have hm := ((moved_put3 w g i (f j)).trans (moved_put3 (put3 w g i (f j)) g j (f i)) (fun _ _ h => h)).drew
  refine ⟨rfl, h.turned hm h2.drew ?_, hm⟩
  rw [← upd_swp]
  exact tms_set (tms_set ht ho.1 hi _) (by rw [length_set3]; exact ho.1) hj _
set_option maxHeartbeats 2000000 in
set_option maxRecDepth 20000 in
theorem rswap_any {g : Nat} (h : RowX w b R (some ⟨g, 0, none⟩) n c f) {i j : Nat} (hi : i < n) (hj : j < n) : Calls Try.prog 67 #[.pointer (some ⟨b, 0, none⟩), .int .i64 (i : Int), .int .i64 (j : Int)] w (SwapPost b R g n c (swp f i j) w) := by
  have h1 := h.cell
  obtain ⟨g', e, i0, i1, i2⟩ := h.at_ hi
  injection e with e; injection e with e; subst e
  obtain ⟨g', e, j0, j1, j2⟩ := h.at_ hj
  injection e with e; injection e with e; subst e
  have hn := h.few
  have hb : b < w.heap.size := World.block_lt_of_cell? w _ h1
  have hg : g < w.heap.size := World.block_lt_of_cell? w _ i0
  have HP := Lib.hid (swap_post h hi hj)
  obtain ⟨xs, ho, _⟩ := h.own
  have hf : ∀ o, w.frozen? ⟨g, o, none⟩ = false := fun o => ho.frozenAt o
  clear ho
  obtain ⟨a, ha⟩ : ∃ a, a = f i := ⟨_, rfl⟩
  obtain ⟨d, hd⟩ : ∃ d, d = f j := ⟨_, rfl⟩
  rw [← ha] at i0 i1 i2 HP
  rw [← hd] at j0 j1 j2 HP
  simp only [put3] at HP
  have HAD : Hid (i = j → d = a) := Lib.hid (fun e => by rw [ha, hd, e])
  clear ha hd h
  go_enter Try.func67, Try.ntmps67
  by_cases hij : i = j
  · have e := HAD.out hij
    subst hij
    subst e
    go_wp2
    go_region
    all_goals (go_end0; with_reducible exact HP.out)
  · have q1 : ¬ i * 3 = j * 3 := by omega
    have q2 : ¬ i * 3 = j * 3 + 1 := by omega
    have q3 : ¬ i * 3 = j * 3 + 2 := by omega
    have q4 : ¬ i * 3 + 1 = j * 3 := by omega
    have q5 : ¬ i * 3 + 1 = j * 3 + 1 := by omega
    have q6 : ¬ i * 3 + 1 = j * 3 + 2 := by omega
    have q7 : ¬ i * 3 + 2 = j * 3 := by omega
    have q8 : ¬ i * 3 + 2 = j * 3 + 1 := by omega
    have q9 : ¬ i * 3 + 2 = j * 3 + 2 := by omega
    have p1 : ¬ j * 3 = i * 3 := by omega
    have p2 : ¬ j * 3 = i * 3 + 1 := by omega
    have p3 : ¬ j * 3 = i * 3 + 2 := by omega
    have p4 : ¬ j * 3 + 1 = i * 3 := by omega
    have p5 : ¬ j * 3 + 1 = i * 3 + 1 := by omega
    have p6 : ¬ j * 3 + 1 = i * 3 + 2 := by omega
    have p7 : ¬ j * 3 + 2 = i * 3 := by omega
    have p8 : ¬ j * 3 + 2 = i * 3 + 1 := by omega
    have p9 : ¬ j * 3 + 2 = i * 3 + 2 := by omega
    go_wp2
    go_region
    all_goals (go_end0; with_reducible exact HP.out)
end
end Go.Proofs.Ytkdfkhebjhnbmaa
