/- Walks of package cron: all values of a field; the marks of a spec. -/
import Derived.Test.YtnijneajlmgkjaaDoorCroO
import Derived.Test.YtnijneajlmgkjaaDoorCroL
import Derived.Deep.RegionHeld3
import Derived.Deep.MidRow
set_option linter.unusedSimpArgs false
set_option linter.unusedVariables false
namespace Go.Proofs.YtnijneajlmgkjaaDoor
open Go.ChangeShapes Go.WideShapes Go.ChangeAt Go.RowKit Go.Base Go.Cro Go.Civ

/-- All of a field's values, as bits. -/
def allB (s : Sc) : Int := IntKind.u64.wrap (IntKind.u64.wrap (2 ^ (s.most + 1).toNat) - IntKind.u64.wrap (2 ^ s.least.toNat))

theorem all_any (s : Sc) (hs : ScOk s) (w : World) :
    Calls Tryd.prog 42 #[.agg #[.int .i64 s.least, .int .i64 s.most, .int .i64 s.said]] w fun e w' => e = .returned (.int .u64 (allB s)) ∧ Below w.heap.size w w' := by
  have HA : Hid (allB s = IntKind.u64.wrap (IntKind.u64.wrap (2 ^ (s.most + 1).toNat) - IntKind.u64.wrap (2 ^ s.least.toNat))) := Lib.hid rfl
  generalize allB s = A at HA ⊢
  obtain ⟨least, most, said⟩ := s
  obtain ⟨s0, s1, s2, s3, s4⟩ := hs
  simp only at s0 s1 s2 s3 s4 HA ⊢
  go_enter Tryd.func42, Tryd.ntmps42
  go_wp2
  go_quiet (fail)
  go_wp2
  go_ret
  exact ⟨by rw [HA.out]; rfl, below_drewN (below_alloc w _) _⟩

/-- The marks of a spec, as Go values. -/
abbrev mkV (b : Int) (s : Bool) : Value := .agg #[.int .u64 b, .bool s]
def marksV (s : Sp) : Value := .agg #[.int .u64 s.mi, .bool (s.mi == allB (scB 0)), .int .u64 s.ho, .bool (s.ho == allB (scB 1)), .int .u64 s.da, .bool s.ad, .int .u64 s.mo, .bool (s.mo == allB (scB 3)), .int .u64 s.we, .bool s.aw]

/-- What is held of the world while the marks are built. -/
abbrev MS (g : Nat) (W0 : World) (mi ho da mo we : Int) (ad aw : Bool) : World → Prop := fun w' => Below (g + 1) W0 w' ∧
  w'.cell? ⟨g, 0, none⟩ = some (.int .u64 mi) ∧ w'.cell? ⟨g, 1, none⟩ = some (.int .u64 ho) ∧ w'.cell? ⟨g, 2, none⟩ = some (.int .u64 da) ∧ w'.cell? ⟨g, 3, none⟩ = some (.int .u64 mo) ∧ w'.cell? ⟨g, 4, none⟩ = some (.int .u64 we) ∧ w'.cell? ⟨g, 5, none⟩ = some (.bool ad) ∧ w'.cell? ⟨g, 6, none⟩ = some (.bool aw) ∧
  w'.cell? ⟨0, 0, none⟩ = some (.int .i64 0) ∧ w'.cell? ⟨0, 1, none⟩ = some (.int .i64 59) ∧ w'.cell? ⟨0, 2, none⟩ = some (.int .i64 59) ∧
  w'.cell? ⟨0, 3, none⟩ = some (.int .i64 0) ∧ w'.cell? ⟨0, 4, none⟩ = some (.int .i64 23) ∧ w'.cell? ⟨0, 5, none⟩ = some (.int .i64 23) ∧
  w'.cell? ⟨0, 9, none⟩ = some (.int .i64 1) ∧ w'.cell? ⟨0, 10, none⟩ = some (.int .i64 12) ∧ w'.cell? ⟨0, 11, none⟩ = some (.int .i64 12) ∧ w'.there (g + 1) 0 10
theorem there_later {w w' : World} {b o n : Nat} (h : w.there b o n) (hb : Below w.heap.size w w') (hl : b < w.heap.size) : w'.there b o n := fun j hj =>
  ⟨by rw [hb.cell hl]; exact (h j hj).1, by rw [hb.frozen hl]; exact (h j hj).2⟩
theorem MS.call {g : Nat} {W0 : World} {mi ho da mo we : Int} {ad aw : Bool} {w1 w2 : World} (hz : W0.heap.size = g + 2) (hg : 0 < g) (h : MS g W0 mi ho da mo we ad aw w1) (hb : Below w1.heap.size w1 w2) : MS g W0 mi ho da mo we ad aw w2 := by
  obtain ⟨hB, h0, h1, h2, h3, h4, h5, h6, k0, k1, k2, k3, k4, k5, k6, k7, k8, ht⟩ := h
  have hs := hB.size
  refine ⟨hB.trans (hb.mono (by omega)), ?_, ?_, ?_, ?_, ?_, ?_, ?_, ?_, ?_, ?_, ?_, ?_, ?_, ?_, ?_, ?_, there_later ht hb (by omega)⟩
  all_goals (rw [hb.cell (by simp only; omega)]; assumption)
theorem MS.drew {g : Nat} {W0 : World} {mi ho da mo we : Int} {ad aw : Bool} {w1 : World} (h : MS g W0 mi ho da mo we ad aw w1) : MS g W0 mi ho da mo we ad aw w1.drew := by
  obtain ⟨hB, h0, h1, h2, h3, h4, h5, h6, k0, k1, k2, k3, k4, k5, k6, k7, k8, ht⟩ := h
  exact ⟨hB.drew, h0, h1, h2, h3, h4, h5, h6, k0, k1, k2, k3, k4, k5, k6, k7, k8, (World.there_drew _ _ _ _).2 ht⟩
theorem below_setCells {B : Nat} {a : World} {g : Nat} (hg : B ≤ g) : ∀ (vs : List Value) (o : Nat) (w : World), Below B a w → Below B a (w.setCells g o vs)
  | [], _, _, h => h
  | v :: r, o, w, h => below_setCells hg r (o + 1) _ (h.setCell (by simpa using hg) v)
theorem MS.store {g : Nat} {W0 : World} {mi ho da mo we : Int} {ad aw : Bool} {w1 : World} (hg : 0 < g) (h : MS g W0 mi ho da mo we ad aw w1) (vs : List Value) : MS g W0 mi ho da mo we ad aw (w1.setCells (g + 1) 0 vs) := by
  obtain ⟨hB, h0, h1, h2, h3, h4, h5, h6, k0, k1, k2, k3, k4, k5, k6, k7, k8, ht⟩ := h
  refine ⟨below_setCells (Nat.le_refl _) vs 0 w1 hB, ?_, ?_, ?_, ?_, ?_, ?_, ?_, ?_, ?_, ?_, ?_, ?_, ?_, ?_, ?_, ?_, World.there_setCells ht _ _ _⟩
  all_goals (rw [World.cell?_setCells_out _ _ _ _ _ (fun e => by simp only at e; omega)]; assumption)
theorem oneCells {a b c d e : Int} {p q r s t : Bool} : ∀ v ∈ ([.int .u64 a, .bool p, .int .u64 b, .bool q, .int .u64 c, .bool r, .int .u64 d, .bool s, .int .u64 e, .bool t] : List Value), v.oneCell' = true := by
  intro v hv; simp only [List.mem_cons, List.not_mem_nil, or_false] at hv
  rcases hv with h | h | h | h | h | h | h | h | h | h <;> rw [h] <;> rfl

theorem MS.store10 {g : Nat} {W0 : World} {mi ho da mo we : Int} {ad aw : Bool} {w1 : World} (hg : 0 < g) (h : MS g W0 mi ho da mo we ad aw w1) (v0 v1 v2 v3 v4 v5 v6 v7 v8 v9 : Value) :
    MS g W0 mi ho da mo we ad aw ((((((((((w1.setCell ⟨g + 1, 0, none⟩ v0).setCell ⟨g + 1, 1, none⟩ v1).setCell ⟨g + 1, 2, none⟩ v2).setCell ⟨g + 1, 3, none⟩ v3).setCell ⟨g + 1, 4, none⟩ v4).setCell ⟨g + 1, 5, none⟩ v5).setCell ⟨g + 1, 6, none⟩ v6).setCell ⟨g + 1, 7, none⟩ v7).setCell ⟨g + 1, 8, none⟩ v8).setCell ⟨g + 1, 9, none⟩ v9) := MS.store hg h [v0, v1, v2, v3, v4, v5, v6, v7, v8, v9]
/-- What a cell holds that is there. -/
def held (w : World) (a : Addr) : Value := (w.cell? a).getD undef
theorem held_of {w : World} {b o n j : Nat} (h : w.there b o n) (hj : j < n) : w.cell? ⟨b, o + j, none⟩ = some (held w ⟨b, o + j, none⟩) := by
  obtain ⟨u, hu⟩ := Option.isSome_iff_exists.1 (h j hj).1
  unfold held; rw [hu]; rfl
set_option maxHeartbeats 3200000 in
set_option maxRecDepth 100000 in
theorem marks_any (s : Sp) (w : World) (hT : ScTab w) :
    Calls Tryd.prog 41 #[spV s] w fun e w' => e = .returned (marksV s) ∧ Below w.heap.size w w' := by
  have HM : Hid (marksV s = .agg #[.int .u64 s.mi, .bool (s.mi == allB (scB 0)), .int .u64 s.ho, .bool (s.ho == allB (scB 1)), .int .u64 s.da, .bool s.ad, .int .u64 s.mo, .bool (s.mo == allB (scB 3)), .int .u64 s.we, .bool s.aw]) := Lib.hid rfl
  have A0 := Lib.hid (fun w => all_any ⟨0, 59, 59⟩ (scOk 0) w)
  have A1 := Lib.hid (fun w => all_any ⟨0, 23, 23⟩ (scOk 1) w)
  have A3 := Lib.hid (fun w => all_any ⟨1, 12, 12⟩ (scOk 3) w)
  rw [show (⟨0, 59, 59⟩ : Sc) = scB 0 from rfl] at A0
  rw [show (⟨0, 23, 23⟩ : Sc) = scB 1 from rfl] at A1
  rw [show (⟨1, 12, 12⟩ : Sc) = scB 3 from rfl] at A3
  generalize allB (scB 0) = b0 at A0 HM
  generalize allB (scB 1) = b1 at A1 HM
  generalize allB (scB 3) = b3 at A3 HM
  simp only [scB] at A0 A1 A3
  have c0 := hT 0 (by decide); have c1 := hT 1 (by decide); have c2 := hT 2 (by decide); have c3 := hT 3 (by decide); have c4 := hT 4 (by decide); have c5 := hT 5 (by decide); have c9 := hT 9 (by decide); have c10 := hT 10 (by decide); have c11 := hT 11 (by decide)
  simp only [List.getD_cons_succ, List.getD_cons_zero] at c0 c1 c2 c3 c4 c5 c9 c10 c11
  clear hT
  obtain ⟨mi, ho, da, mo, we, ad, aw⟩ := s
  go_enter Tryd.func41, Tryd.ntmps41
  go_wp2_with fail
  have z0 : 0 < w.heap.size := World.block_lt_of_cell? w _ c0
  generalize hW : (w.alloc (.cells #[.int .u64 mi, .int .u64 ho, .int .u64 da, .int .u64 mo, .int .u64 we, .bool ad, .bool aw] 24)).alloc (.cells #[.int .u64 0, .bool false, .int .u64 0, .bool false, .int .u64 0, .bool false, .int .u64 0, .bool false, .int .u64 0, .bool false] 60) = W0
  have hz : W0.heap.size = w.heap.size + 2 := by rw [← hW]; simp
  have hB : Below w.heap.size w W0 := by rw [← hW]; exact (below_alloc w _).alloc (by simp) _
  have hh : W0.heap[w.heap.size]? = some (.cells #[.int .u64 mi, .int .u64 ho, .int .u64 da, .int .u64 mo, .int .u64 we, .bool ad, .bool aw] 24 (0, 0)) := by rw [← hW]; exact heap_old _ (by simp) (heap_new _ _)
  have hr : W0.heap[w.heap.size + 1]? = some (.cells #[.int .u64 0, .bool false, .int .u64 0, .bool false, .int .u64 0, .bool false, .int .u64 0, .bool false, .int .u64 0, .bool false] 60 (0, 0)) := by rw [← hW]; have := heap_new (w.alloc (.cells #[.int .u64 mi, .int .u64 ho, .int .u64 da, .int .u64 mo, .int .u64 we, .bool ad, .bool aw] 24)) (.cells #[.int .u64 0, .bool false, .int .u64 0, .bool false, .int .u64 0, .bool false, .int .u64 0, .bool false, .int .u64 0, .bool false] 60); simpa using this
  have hM : MS w.heap.size W0 mi ho da mo we ad aw W0 := by
    obtain ⟨f1, f2⟩ := cells_of_heap hh
    obtain ⟨f3, f4⟩ := cells_of_heap hr
    refine ⟨Below.refl _ _, f1 0, f1 1, f1 2, f1 3, f1 4, f1 5, f1 6, ?_, ?_, ?_, ?_, ?_, ?_, ?_, ?_, ?_, fun j hj => ⟨by rw [f3]; have : j < 10 := hj; simp [show 0 + j < 10 by omega]; exact this, f4 _⟩⟩
    all_goals (rw [hB.cell (by simp only; omega)]; assumption)
  clear hh hr hW c0 c1 c2 c3 c4 c5 c9 c10 c11
  have hinf : (Tryd.prog.info? 60).map (·.size) = some 10 := by kernel_rfl
  have hone := oneCells (a := mi) (p := mi == b0) (b := ho) (q := ho == b1) (c := da) (r := ad) (d := mo) (s := mo == b3) (e := we) (t := aw)
  generalize hgg : w.heap.size = g at *
  -- the region
  refine wp_region_noPanic ?_
  refine wp_region_held_drew (S := MS g W0 mi ho da mo we ad aw) (by kernel_rfl) (MS.drew hM) (fun hHeld => ?_)
  refine wpAnyH_take (i := 0) (v := ?v0) rfl (by kernel_rfl) (by kernel_rfl) (by kernel_rfl) (fun _ _ _ h => h) (Or.inl ⟨by rfl, ?hy0⟩) hHeld ?rest0
  case hy0 => (intro w' hSw; unfold MS at hSw; go_simp; try with_reducible rfl)
  try simp only [Act.put, List.setIfInBounds_toArray, List.set_cons_zero, List.set_cons_succ, List.getElem_toArray, List.getElem_cons_succ, List.getElem_cons_zero]
  refine wpAnyH_take (i := 1) (v := ?v1) rfl (by kernel_rfl) (by kernel_rfl) (by kernel_rfl) (fun _ _ _ h => h) (Or.inl ⟨by rfl, ?hy1⟩) hHeld ?rest1
  case hy1 => (intro w' hSw; unfold MS at hSw; go_simp; try with_reducible rfl)
  try simp only [Act.put, List.setIfInBounds_toArray, List.set_cons_zero, List.set_cons_succ, List.getElem_toArray, List.getElem_cons_succ, List.getElem_cons_zero]
  refine wpAnyH_take (i := 2) (v := ?v2) rfl (by kernel_rfl) (by kernel_rfl) (by kernel_rfl) (fun _ _ _ h => h) (Or.inl ⟨by rfl, ?hy2⟩) hHeld ?rest2
  case hy2 => (intro w' hSw; unfold MS at hSw; go_simp; try with_reducible rfl)
  try simp only [Act.put, List.setIfInBounds_toArray, List.set_cons_zero, List.set_cons_succ, List.getElem_toArray, List.getElem_cons_succ, List.getElem_cons_zero]
  refine wpAnyH_take (i := 3) (v := ?v3) rfl (by kernel_rfl) (by kernel_rfl) (by kernel_rfl) (fun _ _ _ h => h) (Or.inl ⟨by rfl, ?hy3⟩) hHeld ?rest3
  case hy3 => (intro w' hSw; unfold MS at hSw; go_simp; try with_reducible rfl)
  try simp only [Act.put, List.setIfInBounds_toArray, List.set_cons_zero, List.set_cons_succ, List.getElem_toArray, List.getElem_cons_succ, List.getElem_cons_zero]
  refine wpAnyH_take (i := 4) (v := ?v4) rfl (by kernel_rfl) (by kernel_rfl) (by kernel_rfl) (fun _ _ _ h => h) (Or.inl ⟨by rfl, ?hy4⟩) hHeld ?rest4
  case hy4 => (intro w' hSw; unfold MS at hSw; go_simp; try with_reducible rfl)
  try simp only [Act.put, List.setIfInBounds_toArray, List.set_cons_zero, List.set_cons_succ, List.getElem_toArray, List.getElem_cons_succ, List.getElem_cons_zero]
  refine wpAnyH_take (i := 5) (v := ?v5) rfl (by kernel_rfl) (by kernel_rfl) (by kernel_rfl) (fun _ _ _ h => h) (Or.inl ⟨by rfl, ?hy5⟩) hHeld ?rest5
  case hy5 => (intro w' hSw; unfold MS at hSw; go_simp; try with_reducible rfl)
  try simp only [Act.put, List.setIfInBounds_toArray, List.set_cons_zero, List.set_cons_succ, List.getElem_toArray, List.getElem_cons_succ, List.getElem_cons_zero]
  refine wpAnyH_take (i := 9) (v := ?v9) rfl (by kernel_rfl) (by kernel_rfl) (by kernel_rfl) (fun _ _ _ h => h) (Or.inl ⟨by rfl, ?hy9⟩) hHeld ?rest9
  case hy9 => (intro w' hSw; unfold MS at hSw; go_simp; try with_reducible rfl)
  try simp only [Act.put, List.setIfInBounds_toArray, List.set_cons_zero, List.set_cons_succ, List.getElem_toArray, List.getElem_cons_succ, List.getElem_cons_zero]
  refine wpAnyH_take (i := 10) (v := ?v10) rfl (by kernel_rfl) (by kernel_rfl) (by kernel_rfl) (fun _ _ _ h => h) (Or.inl ⟨by rfl, ?hy10⟩) hHeld ?rest10
  case hy10 => (intro w' hSw; unfold MS at hSw; go_simp; try with_reducible rfl)
  try simp only [Act.put, List.setIfInBounds_toArray, List.set_cons_zero, List.set_cons_succ, List.getElem_toArray, List.getElem_cons_succ, List.getElem_cons_zero]
  refine wpAnyH_take (i := 11) (v := ?v11) rfl (by kernel_rfl) (by kernel_rfl) (by kernel_rfl) (fun _ _ _ h => h) (Or.inl ⟨by rfl, ?hy11⟩) hHeld ?rest11
  case hy11 => (intro w' hSw; unfold MS at hSw; go_simp; try with_reducible rfl)
  try simp only [Act.put, List.setIfInBounds_toArray, List.set_cons_zero, List.set_cons_succ, List.getElem_toArray, List.getElem_cons_succ, List.getElem_cons_zero]
  refine wpAnyH_take (i := 12) (v := ?v12) rfl (by kernel_rfl) (by kernel_rfl) (by kernel_rfl) (fun _ _ _ h => h) (Or.inl ⟨by rfl, ?hy12⟩) hHeld ?rest12
  case hy12 => (intro w' hSw; unfold MS at hSw; go_simp; try with_reducible rfl)
  try simp only [Act.put, List.setIfInBounds_toArray, List.set_cons_zero, List.set_cons_succ, List.getElem_toArray, List.getElem_cons_succ, List.getElem_cons_zero]
  refine wpAnyH_take (i := 13) (v := ?v13) rfl (by kernel_rfl) (by kernel_rfl) (by kernel_rfl) (fun _ _ _ h => h) (Or.inl ⟨by rfl, ?hy13⟩) hHeld ?rest13
  case hy13 => (intro w' hSw; unfold MS at hSw; go_simp; try with_reducible rfl)
  try simp only [Act.put, List.setIfInBounds_toArray, List.set_cons_zero, List.set_cons_succ, List.getElem_toArray, List.getElem_cons_succ, List.getElem_cons_zero]
  refine wpAnyH_take (i := 14) (v := ?v14) rfl (by kernel_rfl) (by kernel_rfl) (by kernel_rfl) (fun _ _ _ h => h) (Or.inl ⟨by rfl, ?hy14⟩) hHeld ?rest14
  case hy14 => (intro w' hSw; unfold MS at hSw; go_simp; try with_reducible rfl)
  try simp only [Act.put, List.setIfInBounds_toArray, List.set_cons_zero, List.set_cons_succ, List.getElem_toArray, List.getElem_cons_succ, List.getElem_cons_zero]
  refine wpAnyH_take (i := 18) (v := ?v18) rfl (by kernel_rfl) (by kernel_rfl) (by kernel_rfl) (fun _ _ _ h => h) (Or.inl ⟨by rfl, ?hy18⟩) hHeld ?rest18
  case hy18 => (intro w' hSw; unfold MS at hSw; go_simp; try with_reducible rfl)
  try simp only [Act.put, List.setIfInBounds_toArray, List.set_cons_zero, List.set_cons_succ, List.getElem_toArray, List.getElem_cons_succ, List.getElem_cons_zero]
  refine wpAnyH_take (i := 19) (v := ?v19) rfl (by kernel_rfl) (by kernel_rfl) (by kernel_rfl) (fun _ _ _ h => h) (Or.inl ⟨by rfl, ?hy19⟩) hHeld ?rest19
  case hy19 => (intro w' hSw; unfold MS at hSw; go_simp; try with_reducible rfl)
  try simp only [Act.put, List.setIfInBounds_toArray, List.set_cons_zero, List.set_cons_succ, List.getElem_toArray, List.getElem_cons_succ, List.getElem_cons_zero]
  refine wpAnyH_take (i := 20) (v := ?v20) rfl (by kernel_rfl) (by kernel_rfl) (by kernel_rfl) (fun _ _ _ h => h) (Or.inl ⟨by rfl, ?hy20⟩) hHeld ?rest20
  case hy20 => (intro w' hSw; unfold MS at hSw; go_simp; try with_reducible rfl)
  try simp only [Act.put, List.setIfInBounds_toArray, List.set_cons_zero, List.set_cons_succ, List.getElem_toArray, List.getElem_cons_succ, List.getElem_cons_zero]
  refine wpAnyH_take (i := 21) (v := ?v21) rfl (by kernel_rfl) (by kernel_rfl) (by kernel_rfl) (fun _ _ _ h => h) (Or.inl ⟨by rfl, ?hy21⟩) hHeld ?rest21
  case hy21 => (intro w' hSw; unfold MS at hSw; go_simp; try with_reducible rfl)
  try simp only [Act.put, List.setIfInBounds_toArray, List.set_cons_zero, List.set_cons_succ, List.getElem_toArray, List.getElem_cons_succ, List.getElem_cons_zero]
  refine wpAnyH_take (i := 22) (v := ?v22) rfl (by kernel_rfl) (by kernel_rfl) (by kernel_rfl) (fun _ _ _ h => h) (Or.inl ⟨by rfl, ?hy22⟩) hHeld ?rest22
  case hy22 => (intro w' hSw; unfold MS at hSw; go_simp; try with_reducible rfl)
  try simp only [Act.put, List.setIfInBounds_toArray, List.set_cons_zero, List.set_cons_succ, List.getElem_toArray, List.getElem_cons_succ, List.getElem_cons_zero]
  refine wpAnyH_take (i := 23) (v := ?v23) rfl (by kernel_rfl) (by kernel_rfl) (by kernel_rfl) (fun _ _ _ h => h) (Or.inl ⟨by rfl, ?hy23⟩) hHeld ?rest23
  case hy23 => (intro w' hSw; unfold MS at hSw; go_simp; try with_reducible rfl)
  try simp only [Act.put, List.setIfInBounds_toArray, List.set_cons_zero, List.set_cons_succ, List.getElem_toArray, List.getElem_cons_succ, List.getElem_cons_zero]
  refine wpAnyH_take (i := 24) (v := ?v24) rfl (by kernel_rfl) (by kernel_rfl) (by kernel_rfl) (fun _ _ _ h => h) (Or.inl ⟨by rfl, ?hy24⟩) hHeld ?rest24
  case hy24 => (intro w' hSw; unfold MS at hSw; go_simp; try with_reducible rfl)
  try simp only [Act.put, List.setIfInBounds_toArray, List.set_cons_zero, List.set_cons_succ, List.getElem_toArray, List.getElem_cons_succ, List.getElem_cons_zero]
  refine wpAnyH_take (i := 25) (v := ?v25) rfl (by kernel_rfl) (by kernel_rfl) (by kernel_rfl) (fun _ _ _ h => h) (Or.inl ⟨by rfl, ?hy25⟩) hHeld ?rest25
  case hy25 => (intro w' hSw; unfold MS at hSw; go_simp; try with_reducible rfl)
  try simp only [Act.put, List.setIfInBounds_toArray, List.set_cons_zero, List.set_cons_succ, List.getElem_toArray, List.getElem_cons_succ, List.getElem_cons_zero]
  refine wpAnyH_take (i := 26) (v := ?v26) rfl (by kernel_rfl) (by kernel_rfl) (by kernel_rfl) (fun _ _ _ h => h) (Or.inl ⟨by rfl, ?hy26⟩) hHeld ?rest26
  case hy26 => (intro w' hSw; unfold MS at hSw; go_simp; try with_reducible rfl)
  try simp only [Act.put, List.setIfInBounds_toArray, List.set_cons_zero, List.set_cons_succ, List.getElem_toArray, List.getElem_cons_succ, List.getElem_cons_zero]
  refine wpAnyH_take (i := 27) (v := ?v27) rfl (by kernel_rfl) (by kernel_rfl) (by kernel_rfl) (fun _ _ _ h => h) (Or.inl ⟨by rfl, ?hy27⟩) hHeld ?rest27
  case hy27 => (intro w' hSw; unfold MS at hSw; go_simp; try with_reducible rfl)
  try simp only [Act.put, List.setIfInBounds_toArray, List.set_cons_zero, List.set_cons_succ, List.getElem_toArray, List.getElem_cons_succ, List.getElem_cons_zero]
  refine wpAnyH_take (i := 28) (v := ?v28) rfl (by kernel_rfl) (by kernel_rfl) (by kernel_rfl) (fun _ _ _ h => h) (Or.inl ⟨by rfl, ?hy28⟩) hHeld ?rest28
  case hy28 => (intro w' hSw; unfold MS at hSw; go_simp; try with_reducible rfl)
  try simp only [Act.put, List.setIfInBounds_toArray, List.set_cons_zero, List.set_cons_succ, List.getElem_toArray, List.getElem_cons_succ, List.getElem_cons_zero]
  refine wpAnyH_take (i := 32) (v := ?v32) rfl (by kernel_rfl) (by kernel_rfl) (by kernel_rfl) (fun _ _ _ h => h) (Or.inl ⟨by rfl, ?hy32⟩) hHeld ?rest32
  case hy32 => (intro w' hSw; unfold MS at hSw; go_simp; try with_reducible rfl)
  try simp only [Act.put, List.setIfInBounds_toArray, List.set_cons_zero, List.set_cons_succ, List.getElem_toArray, List.getElem_cons_succ, List.getElem_cons_zero]
  refine wpAnyH_take (i := 33) (v := ?v33) rfl (by kernel_rfl) (by kernel_rfl) (by kernel_rfl) (fun _ _ _ h => h) (Or.inl ⟨by rfl, ?hy33⟩) hHeld ?rest33
  case hy33 => (intro w' hSw; unfold MS at hSw; go_simp; try with_reducible rfl)
  try simp only [Act.put, List.setIfInBounds_toArray, List.set_cons_zero, List.set_cons_succ, List.getElem_toArray, List.getElem_cons_succ, List.getElem_cons_zero]
  refine wpAnyH_take (i := 34) (v := ?v34) rfl (by kernel_rfl) (by kernel_rfl) (by kernel_rfl) (fun _ _ _ h => h) (Or.inl ⟨by rfl, ?hy34⟩) hHeld ?rest34
  case hy34 => (intro w' hSw; unfold MS at hSw; go_simp; try with_reducible rfl)
  try simp only [Act.put, List.setIfInBounds_toArray, List.set_cons_zero, List.set_cons_succ, List.getElem_toArray, List.getElem_cons_succ, List.getElem_cons_zero]
  refine wpAnyH_take (i := 35) (v := ?v35) rfl (by kernel_rfl) (by kernel_rfl) (by kernel_rfl) (fun _ _ _ h => h) (Or.inl ⟨by rfl, ?hy35⟩) hHeld ?rest35
  case hy35 => (intro w' hSw; unfold MS at hSw; go_simp; try with_reducible rfl)
  try simp only [Act.put, List.setIfInBounds_toArray, List.set_cons_zero, List.set_cons_succ, List.getElem_toArray, List.getElem_cons_succ, List.getElem_cons_zero]
  refine wpAnyH_take (i := 36) (v := ?v36) rfl (by kernel_rfl) (by kernel_rfl) (by kernel_rfl) (fun _ _ _ h => h) (Or.inl ⟨by rfl, ?hy36⟩) hHeld ?rest36
  case hy36 => (intro w' hSw; unfold MS at hSw; go_simp; try with_reducible rfl)
  try simp only [Act.put, List.setIfInBounds_toArray, List.set_cons_zero, List.set_cons_succ, List.getElem_toArray, List.getElem_cons_succ, List.getElem_cons_zero]
  refine wpAnyH_ready (rs := [6]) (by kernel_rfl) (by simp) ?_
  refine AllReadyH.cons rfl (fun K hK => ?_) AllReadyH.nil
  go_simp
  go_at_call 42
  refine Calls.mono (by with_reducible exact A0.out _) ?_
  rintro e w6 ⟨rfl, hb⟩
  go_wp2_with fail
  refine hK.out _ _ (MS.call hz z0 hHeld hb) (fun hHeld2 => ?_)
  clear hK K hb hHeld
  have hHeld := hHeld2
  clear hHeld2
  try simp only [Act.put, List.setIfInBounds_toArray, List.set_cons_zero, List.set_cons_succ, List.getElem_toArray, List.getElem_cons_succ, List.getElem_cons_zero]
  refine wpAnyH_take (i := 7) (v := ?v7) rfl (by kernel_rfl) (by kernel_rfl) (by kernel_rfl) (fun _ _ _ h => h) (Or.inl ⟨by rfl, ?hy7⟩) hHeld ?rest7
  case hy7 => (intro w' hSw; unfold MS at hSw; go_simp; try with_reducible rfl)
  try simp only [Act.put, List.setIfInBounds_toArray, List.set_cons_zero, List.set_cons_succ, List.getElem_toArray, List.getElem_cons_succ, List.getElem_cons_zero]
  refine wpAnyH_take (i := 8) (v := ?v8) rfl (by kernel_rfl) (by kernel_rfl) (by kernel_rfl) (fun _ _ _ h => h) (Or.inl ⟨by rfl, ?hy8⟩) hHeld ?rest8
  case hy8 => (intro w' hSw; unfold MS at hSw; go_simp; try with_reducible rfl)
  try simp only [Act.put, List.setIfInBounds_toArray, List.set_cons_zero, List.set_cons_succ, List.getElem_toArray, List.getElem_cons_succ, List.getElem_cons_zero]
  refine wpAnyH_ready (rs := [15]) (by kernel_rfl) (by simp) ?_
  refine AllReadyH.cons rfl (fun K hK => ?_) AllReadyH.nil
  go_simp
  go_at_call 42
  refine Calls.mono (by with_reducible exact A1.out _) ?_
  rintro e w15 ⟨rfl, hb⟩
  go_wp2_with fail
  refine hK.out _ _ (MS.call hz z0 hHeld hb) (fun hHeld2 => ?_)
  clear hK K hb hHeld
  have hHeld := hHeld2
  clear hHeld2
  try simp only [Act.put, List.setIfInBounds_toArray, List.set_cons_zero, List.set_cons_succ, List.getElem_toArray, List.getElem_cons_succ, List.getElem_cons_zero]
  refine wpAnyH_take (i := 16) (v := ?v16) rfl (by kernel_rfl) (by kernel_rfl) (by kernel_rfl) (fun _ _ _ h => h) (Or.inl ⟨by rfl, ?hy16⟩) hHeld ?rest16
  case hy16 => (intro w' hSw; unfold MS at hSw; go_simp; try with_reducible rfl)
  try simp only [Act.put, List.setIfInBounds_toArray, List.set_cons_zero, List.set_cons_succ, List.getElem_toArray, List.getElem_cons_succ, List.getElem_cons_zero]
  refine wpAnyH_take (i := 17) (v := ?v17) rfl (by kernel_rfl) (by kernel_rfl) (by kernel_rfl) (fun _ _ _ h => h) (Or.inl ⟨by rfl, ?hy17⟩) hHeld ?rest17
  case hy17 => (intro w' hSw; unfold MS at hSw; go_simp; try with_reducible rfl)
  try simp only [Act.put, List.setIfInBounds_toArray, List.set_cons_zero, List.set_cons_succ, List.getElem_toArray, List.getElem_cons_succ, List.getElem_cons_zero]
  refine wpAnyH_ready (rs := [29]) (by kernel_rfl) (by simp) ?_
  refine AllReadyH.cons rfl (fun K hK => ?_) AllReadyH.nil
  go_simp
  go_at_call 42
  refine Calls.mono (by with_reducible exact A3.out _) ?_
  rintro e w29 ⟨rfl, hb⟩
  go_wp2_with fail
  refine hK.out _ _ (MS.call hz z0 hHeld hb) (fun hHeld2 => ?_)
  clear hK K hb hHeld
  have hHeld := hHeld2
  clear hHeld2
  try simp only [Act.put, List.setIfInBounds_toArray, List.set_cons_zero, List.set_cons_succ, List.getElem_toArray, List.getElem_cons_succ, List.getElem_cons_zero]
  refine wpAnyH_take (i := 30) (v := ?v30) rfl (by kernel_rfl) (by kernel_rfl) (by kernel_rfl) (fun _ _ _ h => h) (Or.inl ⟨by rfl, ?hy30⟩) hHeld ?rest30
  case hy30 => (intro w' hSw; unfold MS at hSw; go_simp; try with_reducible rfl)
  try simp only [Act.put, List.setIfInBounds_toArray, List.set_cons_zero, List.set_cons_succ, List.getElem_toArray, List.getElem_cons_succ, List.getElem_cons_zero]
  refine wpAnyH_take (i := 31) (v := ?v31) rfl (by kernel_rfl) (by kernel_rfl) (by kernel_rfl) (fun _ _ _ h => h) (Or.inl ⟨by rfl, ?hy31⟩) hHeld ?rest31
  case hy31 => (intro w' hSw; unfold MS at hSw; go_simp; try with_reducible rfl)
  try simp only [Act.put, List.setIfInBounds_toArray, List.set_cons_zero, List.set_cons_succ, List.getElem_toArray, List.getElem_cons_succ, List.getElem_cons_zero]
  refine wpAnyH_take (i := 37) (v := ?v37) rfl (by kernel_rfl) (by kernel_rfl) (by kernel_rfl) (fun _ _ _ h => h) (Or.inl ⟨by rfl, ?hy37⟩) hHeld ?rest37
  case hy37 => (intro w' hSw; unfold MS at hSw; go_simp; try with_reducible rfl)
  try simp only [Act.put, List.setIfInBounds_toArray, List.set_cons_zero, List.set_cons_succ, List.getElem_toArray, List.getElem_cons_succ, List.getElem_cons_zero]
  refine wpAnyH_ready (rs := [38]) (by kernel_rfl) (by simp) ?_
  refine AllReadyH.cons rfl (fun K hK => ?_) AllReadyH.nil
  rw [if_pos (by rfl)]
  have hth := hHeld.2.2.2.2.2.2.2.2.2.2.2.2.2.2.2.2.2
  refine wp_store_mid 60 (.tmp 2) (.tmp 40) rfl (g + 1) 0 #[.int .u64 mi, .bool (mi == b0), .int .u64 ho, .bool (ho == b1), .int .u64 da, .bool ad, .int .u64 mo, .bool (mo == b3), .int .u64 we, .bool aw] rfl rfl hth hinf (all_oneCell_toArray hone) ?_
  refine hK.out _ _ (MS.store z0 hHeld [.int .u64 mi, .bool (mi == b0), .int .u64 ho, .bool (ho == b1), .int .u64 da, .bool ad, .int .u64 mo, .bool (mo == b3), .int .u64 we, .bool aw]) (fun hHeld2 => ?_)
  have hlast := World.rangeAt_setCells_same _ (g + 1) 0 [.int .u64 mi, .bool (mi == b0), .int .u64 ho, .bool (ho == b1), .int .u64 da, .bool ad, .int .u64 mo, .bool (mo == b3), .int .u64 we, .bool aw] hth
  clear hK K
  try simp only [Act.put, List.setIfInBounds_toArray, List.set_cons_zero, List.set_cons_succ, List.getElem_toArray, List.getElem_cons_succ, List.getElem_cons_zero]
  refine wpAnyH_done (by kernel_rfl) ?_ _
  refine NoPanic.normal ?_
  -- behind it
  have hBe := hB.trans (hHeld2.1.mono (Nat.le_succ g))
  clear hHeld hHeld2 hth hM
  generalize w29.setCells (g + 1) 0 [.int .u64 mi, .bool (mi == b0), .int .u64 ho, .bool (ho == b1), .int .u64 da, .bool ad, .int .u64 mo, .bool (mo == b3), .int .u64 we, .bool aw] = V at *
  have x0 := hlast 0 _ rfl
  have x1 := hlast 1 _ rfl
  have x2 := hlast 2 _ rfl
  have x3 := hlast 3 _ rfl
  have x4 := hlast 4 _ rfl
  have x5 := hlast 5 _ rfl
  have x6 := hlast 6 _ rfl
  have x7 := hlast 7 _ rfl
  have x8 := hlast 8 _ rfl
  have x9 := hlast 9 _ rfl
  simp only [Nat.zero_add] at x0 x1 x2 x3 x4 x5 x6 x7 x8 x9
  go_wp2_with fail
  exact bodyPost_ret (v := .agg #[.int .u64 mi, .bool (mi == b0), .int .u64 ho, .bool (ho == b1), .int .u64 da, .bool ad, .int .u64 mo, .bool (mo == b3), .int .u64 we, .bool aw]) (by simp [results, Tryd.results41, go_sem, x0, x1, x2, x3, x4, x5, x6, x7, x8, x9]) rfl ⟨by rw [HM.out], by rw [hgg]; exact hBe⟩
end Go.Proofs.YtnijneajlmgkjaaDoor
