/- Package next: the first moment of an iterator. -/
import Derived.Test.YtnijneajlmgkjaaDoorNxtH
import Derived.Laws.ResultCell
set_option linter.unusedSimpArgs false
set_option linter.unusedVariables false
namespace Go
open Go.RowKit
theorem results_cells2 {fn : Func} {p u : Tmp} {ty uy : TypeId} (h : fn.results = #[.cell p ty, .cell u uy]) (tmps : Array Value) (P : Program) (w : World) :
    (results fn tmps).run P w =
      ((asAddr (tmps.getD p undef)).run P w).andThen fun a w₁ => ((loadVar ty a).run P w₁).andThen fun v w₂ => ((asAddr (tmps.getD u undef)).run P w₂).andThen fun b w₃ => ((loadVar uy b).run P w₃).andThen fun x w₄ => .ok (.tuple #[v, x]) w₄ := by
  simp only [results, h]
  simp [Sem.run_bind, Result.andThen]
end Go
namespace Go.Proofs.YtnijneajlmgkjaaDoor
open Go.ChangeShapes Go.WideShapes Go.ChangeAt Go.RowKit Go.Base Go.Civ Go.Nxt Go.Cro Go.Shelf
attribute [local go_sem] Oper.semAt_some
abbrev encI : Int → Array Value := fun x => #[.int .i64 x]
/-- What 'first' answers. -/
def fstV : List Int → Value
  | [] => .tuple #[.int .i64 0, .int .i64 4]
  | x :: _ => .tuple #[.int .i64 x, .int .i64 0]
/-- In first: ahead of a round. -/
def FstI (w V : World) (O : Nat → Prop) (pre : List Int) (X : World) : Prop := pre = [] ∧ Below w.heap.size w X ∧ V.heap.size ≤ X.heap.size ∧ X.heap[w.heap.size]? = some (.cells #[.int .i64 0] 3 (0, 0)) ∧ X.heap[w.heap.size + 1]? = some (.cells #[.int .i64 0] 25 (0, 0))
/-- In first: where a round has left. -/
def FstX (w V : World) (c : Code) (O : Nat → Prop) (pre : List Int) (X : World) : Prop := c = .ret ∧ Below w.heap.size w X ∧ V.heap.size ≤ X.heap.size ∧ ∃ x, pre = [x] ∧ X.heap[w.heap.size]? = some (.cells #[.int .i64 x] 3 (0, 0)) ∧ X.heap[w.heap.size + 1]? = some (.cells #[.int .i64 0] 25 (0, 0))
theorem below_putObj' {B l : Nat} (W : World) (o : Obj) (hl : B ≤ l) : Below B W (W.putObj l o) :=
  ⟨rfl, rfl, rfl, by simp [World.putObj], fun k hk => World.putObj_heap_other (by omega)⟩
theorem below_step {B : Nat} {w X Y V : World} {O O' : Nat → Prop} (h : Below w.heap.size w X) (hV : w.heap.size ≤ V.heap.size) (hs : StepO V.heap.size O O' X Y) : Below w.heap.size w Y :=
  h.trans (hs.moved.below (fun k _ hk => by have := (hs.own k hk).1; omega) h.size)
theorem fstI_abides {w V : World} (hV : V.heap.size = w.heap.size + 2) : AbidesO V.heap.size (FstI w V) := fun O O' s X Y h hs => by
  obtain ⟨h1, h2, h3, h4, h5⟩ := h
  have hz := hs.moved.size
  exact ⟨h1, below_step (B := 0) h2 (by omega) hs, by omega, hs.moved.heap h4 (fun ho => by have := (hs.own _ ho).1; omega), hs.moved.heap h5 (fun ho => by have := (hs.own _ ho).1; omega)⟩
theorem fstX_abides {w V : World} (hV : V.heap.size = w.heap.size + 2) (c : Code) : AbidesO V.heap.size (FstX w V c) := fun O O' s X Y h hs => by
  obtain ⟨h1, h2, h3, x, h4, h5, h6⟩ := h
  have hz := hs.moved.size
  exact ⟨h1, below_step (B := 0) h2 (by omega) hs, by omega, x, h4, hs.moved.heap h5 (fun ho => by have := (hs.own _ ho).1; omega), hs.moved.heap h6 (fun ho => by have := (hs.own _ ho).1; omega)⟩

theorem fst_res (tmps : Array Value) (g : Nat) (a b : Int) (Z : World) (t2 : tmps.getD 2 undef = .pointer (some ⟨g, 0, none⟩)) (t3 : tmps.getD 3 undef = .pointer (some ⟨g + 1, 0, none⟩))
    (h2 : Z.cell? ⟨g, 0, none⟩ = some (.int .i64 a)) (h3 : Z.cell? ⟨g + 1, 0, none⟩ = some (.int .i64 b)) :
    (results Tryd.f20 tmps).run Tryd.prog Z = .ok (.tuple #[.int .i64 a, .int .i64 b]) Z := by
  rw [results_cells2 rfl, t2, t3]
  go_simp
theorem fst_end (w : World) (g D : Nat) (a b : Int) (L : List Int) (hv : fstV L = .tuple #[.int .i64 a, .int .i64 b]) (tmps : Array Value) (Y : World) (t2 : tmps.getD 2 undef = .pointer (some ⟨g, 0, none⟩)) (t3 : tmps.getD 3 undef = .pointer (some ⟨g + 1, 0, none⟩))
    (h2 : Y.heap[g]? = some (.cells #[.int .i64 a] 3 (0, 0))) (h3 : Y.heap[g + 1]? = some (.cells #[.int .i64 b] 25 (0, 0))) (hD : Y.heap[D]? = some (.deferred (some []))) (hDw : w.heap.size ≤ D) (hB : Below w.heap.size w Y) :
    bodyPostM Fence.wide 100 Tryd.prog Tryd.f20 (fun e w' => e = .returned (fstV L) ∧ Below w.heap.size w w') .ret { tmps := tmps, defers := [{ target := .collected D, args := #[] }] } Y := by
  have d2 : g ≠ D := fun e => by rw [e, hD] at h2; cases h2
  have d3 : g + 1 ≠ D := fun e => by rw [e, hD] at h3; cases h3
  refine ⟨by simp, .inl ⟨_, _, rfl, run_takeDeferred hD, ?_⟩⟩
  refine ⟨_, fst_res tmps g a b _ t2 t3 (cell_of_row _ _ 0 _ _ _ ((World.putObj_heap_other d2).trans h2)) (cell_of_row _ _ 0 _ _ _ ((World.putObj_heap_other d3).trans h3)), by rw [hv], hB.trans (below_putObj' Y _ hDw)⟩

set_option maxRecDepth 100000 in
set_option maxHeartbeats 4000000 in
theorem first_any (lb : Array Value) (C : Nat → Prop) (L : List Int) (w : World) (hC : ∀ k, C k → k < w.heap.size) (hseq : SeqO Fence.wide 99 Tryd.prog 47 lb encI C L w) :
    CallsIn Fence.wide 100 Tryd.prog 20 #[.func (.func 47) #[] lb] w fun e w' => e = .returned (fstV L) ∧ Below w.heap.size w w' := by
  refine callsIn_of_wp_marks Tryd.func20 rfl trivial ?_ rfl
  simp only [Tryd.ntmps20, List.size_toArray, List.length_cons, List.length_nil, Nat.reduceAdd, Nat.reduceSub, Array.replicate_succ, Array.replicate_zero, List.push_toArray, List.append_toArray, List.nil_append, List.cons_append]
  have HC := Lib.hid hC
  have HSq := Lib.hid hseq
  clear hC hseq
  gi_wp2_with fail
  refine at_world (C := fun V => Code.wpIn _ _ _ _ _ _ V) (P := fun V => Below w.heap.size w V ∧ V.heap.size = w.heap.size + 2 ∧ V.heap[w.heap.size]? = some (.cells #[.int .i64 0] 3 (0, 0)) ∧ V.heap[w.heap.size + 1]? = some (.cells #[.int .i64 0] 25 (0, 0)))
    ⟨(below_alloc w _).alloc (by simp) _, by simp, heap_old _ (by simp) (heap_new w _), by
      have h8 := heap_new (w.alloc (.cells #[.int .i64 0] 3)) (.cells #[.int .i64 0] 25)
      rw [World.size_alloc] at h8; exact h8⟩ (fun V hV => ?_)
  obtain ⟨hB, hz, h2, h3⟩ := hV
  have HZ := Lib.hid hz
  refine wpIn_rangeFunc_O rfl (by omega) (gf := 47) (lb := lb) rfl trivial (enters_of Tryd.func47 (by kernel_rfl) rfl)
    HSq.out hB (fun k hk => by have := HC.out k hk; omega) (fun _ => rfl) (FstI w V) (FstX w V) (fstI_abides hz) (fstX_abides hz) ⟨rfl, hB, Nat.le_refl _, h2, h3⟩ ?hround ?hdone ?hstop
  clear h2 h3 hB hz
  case hround =>
    rintro l O pre x X hOl hO ⟨rfl, hB, hsz, k2, k3⟩ hpre
    have HO := Lib.hid hO
    have HOl := Lib.hid hOl
    clear hO hOl hpre
    simp only [List.zip_toArray, List.zip_cons_cons, List.zip_nil_left, List.zip_nil_right, List.size_toArray, List.length_cons, List.length_nil, List.foldl_toArray', List.foldl_cons, List.foldl_nil, List.setIfInBounds_toArray, List.set_cons_succ, List.set_cons_zero]
    have hz := HZ.out
    have HK2 := Lib.hid k2
    have HK3 := Lib.hid k3
    have HB := Lib.hid hB
    clear k2 k3 hB
    gi_wp2_with fail
    refine ⟨Moved.refl _ X, fun r X3 hX3 => ?_⟩
    have m3 : Moved (fun k => k = l) X X3 := by rw [hX3]; exact moved_putObjO _ _ rfl
    clear hX3
    have hl := (HO.out l HOl.out).1
    have y2 := m3.heap HK2.out (fun h => by omega)
    have y3 := m3.heap HK3.out (fun h => by omega)
    have hB3 : Below w.heap.size w X3 := HB.out.trans (m3.below (fun k _ hk => by omega) HB.out.size)
    have f2 := (cells_of_heap y2).2 0
    have f3 := (cells_of_heap y3).2 0
    have c2 := cell_of_row _ _ 0 _ _ _ y2
    have c3 := cell_of_row _ _ 0 _ _ _ y3
    have HY2 := Lib.hid y2
    have HY3 := Lib.hid y3
    have HB3 := Lib.hid hB3
    have hs3 := m3.size
    clear y2 y3 hB3 m3
    gi_wp2_with fail
    have hM : Moved (fun k => ¬ O k ∧ ¬ C k) X3 ((X3.setCell ⟨w.heap.size, 0, none⟩ (.int .i64 x)).setCell ⟨w.heap.size + 1, 0, none⟩ (.int .i64 0)) :=
      ((Moved.refl _ X3).setCell (.inr ⟨fun h => by have := (HO.out _ h).1; omega, fun h => by have := HC.out _ h; omega⟩) _).setCell (.inr ⟨fun h => by have := (HO.out _ h).1; omega, fun h => by have := HC.out _ h; omega⟩) _
    refine ⟨hM, rfl, (HB3.out.setCell (p := ⟨w.heap.size, 0, none⟩) (Nat.le_refl _) _).setCell (p := ⟨w.heap.size + 1, 0, none⟩) (by simp) _, by have := hM.size; omega, x, rfl, ?_, ?_⟩
    · exact (Below.heap_setCell _ _ _ _ (by simp)).trans (heap_set HY2.out 0 _)
    · have h8 : (X3.setCell ⟨w.heap.size, 0, none⟩ (.int .i64 x)).heap[w.heap.size + 1]? = _ := (Below.heap_setCell _ _ _ _ (by simp)).trans HY3.out
      exact heap_set h8 0 _
  case hdone =>
    rintro D O X hD hOD hO ⟨rfl, hB, hsz, k2, k3⟩ hK9
    have hz := HZ.out
    have f2 := (cells_of_heap k2).2 0
    have f3 := (cells_of_heap k3).2 0
    have c2 := cell_of_row _ _ 0 _ _ _ k2
    have c3 := cell_of_row _ _ 0 _ _ _ k3
    have HK9 := Lib.hid hK9
    have HB := Lib.hid hB
    have HK2 := Lib.hid k2
    have HK3 := Lib.hid k3
    clear k2 k3 hB hK9 hO
    gi_wp2_with fail
    have q2 : ((X.setCell ⟨w.heap.size, 0, none⟩ (.int .i64 0)).setCell ⟨w.heap.size + 1, 0, none⟩ (.int .i64 4)).heap[w.heap.size]? = some (.cells #[.int .i64 0] 3 (0, 0)) := (Below.heap_setCell _ _ _ _ (by simp)).trans (heap_set HK2.out 0 _)
    have h8 : (X.setCell ⟨w.heap.size, 0, none⟩ (.int .i64 0)).heap[w.heap.size + 1]? = _ := (Below.heap_setCell _ _ _ _ (by simp)).trans HK3.out
    exact fst_end w w.heap.size D 0 4 [] rfl _ _ rfl rfl q2 (heap_set h8 0 _) ((Below.heap_setCell _ _ _ _ (by simp; omega)).trans ((Below.heap_setCell _ _ _ _ (by simp; omega)).trans HK9.out)) (by omega) ((HB.out.setCell (p := ⟨w.heap.size, 0, none⟩) (Nat.le_refl _) _).setCell (p := ⟨w.heap.size + 1, 0, none⟩) (by simp) _)
  case hstop =>
    rintro D c O pre X hD hOD hO hpre ⟨rfl, hB, hsz, x, rfl, k2, k3⟩ hK9
    have hz := HZ.out
    have HK9 := Lib.hid hK9
    have HB := Lib.hid hB
    have HK2 := Lib.hid k2
    have HK3 := Lib.hid k3
    obtain ⟨L', rfl⟩ : ∃ L', L = x :: L' := by
      obtain ⟨r, rfl⟩ := hpre
      exact ⟨r, rfl⟩
    clear k2 k3 hB hK9 hO hpre
    gi_wp2_with fail
    exact fst_end w w.heap.size D x 0 (x :: L') rfl _ _ rfl rfl HK2.out HK3.out HK9.out (by omega) HB.out
end Go.Proofs.YtnijneajlmgkjaaDoor
