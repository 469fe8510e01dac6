/- Package plan: which of two ranked hosts comes first; slices.SortFunc at them, by the shelf's contract. -/
import Derived.Test.YtnikhhbnbeljeaaGreatDoorPlnE
import Derived.Test.YtnikhhbnbeljeaaGreatDoorElems
import Derived.Test.YtnikhhbnbeljeaaGreatDoorShelfS
set_option linter.unusedSimpArgs false
set_option linter.unusedVariables false
namespace Go.Proofs.YtnikhhbnbeljeaaGreatDoor.PL
open Go.ChangeShapes Go.WideShapes Go.ChangeAt Go.RowKit Go.Base Go.Lab
open Go.Sort hiding Below

/-- The world with some draws and blocks more. -/
def Gr (w w' : World) : Prop := ∃ q os, w' = grow (w.drewN q) os
theorem Gr.refl (w : World) : Gr w w := ⟨0, #[], by show w = grow w #[]; simp [grow]⟩
theorem Gr.alloc {w w' : World} (h : Gr w w') (o : Obj) : Gr w (w'.alloc o) := by
  obtain ⟨q, os, rfl⟩ := h
  exact ⟨q, os ++ #[o], by rw [alloc_eq_grow, grow_grow]⟩
theorem Gr.drew {w w' : World} (h : Gr w w') : Gr w w'.drew := by
  obtain ⟨q, os, rfl⟩ := h
  exact ⟨q + 1, os, rfl⟩
def cmpI (x y : Int) : Int := if x < y then -1 else if y < x then 1 else 0
def orI (x y : Int) : Int := if x = 0 then y else x
theorem nan_any (x : Int) (w : World) : Calls Tryz.prog 147 #[.int .i64 x] w fun e w' => e = .returned (.bool false) ∧ w = w' := by
  go_enter Tryz.func147, Tryz.ntmps147
  go_wp2
  go_ret
  exact ⟨rfl, rfl⟩
theorem nanU_any (x : Int) (w : World) : Calls Tryz.prog 244 #[.int .u64 x] w fun e w' => e = .returned (.bool false) ∧ w = w' := by
  go_enter Tryz.func244, Tryz.ntmps244
  go_wp2
  go_ret
  exact ⟨rfl, rfl⟩
theorem compare_any (x y : Int) (w : World) : Calls Tryz.prog 92 #[.int .i64 x, .int .i64 y] w fun e w' => e = .returned (.int .i64 (cmpI x y)) ∧ w = w' := by
  have hN := fun z V => nan_any z V
  by_cases h1 : x < y
  · go_enter Tryz.func92, Tryz.ntmps92
    go_wp2_with (go_at_call 147; refine Calls.mono (nan_any _ _) ?_; rintro e w1 ⟨rfl, rfl⟩)
    go_ret
    exact ⟨ret_int (by unfold cmpI; rw [if_pos h1]), rfl⟩
  · by_cases h2 : y < x
    · go_enter Tryz.func92, Tryz.ntmps92
      go_wp2_with (go_at_call 147; refine Calls.mono (nan_any _ _) ?_; rintro e w1 ⟨rfl, rfl⟩)
      go_ret
      exact ⟨ret_int (by unfold cmpI; rw [if_neg (by omega), if_pos h2]), rfl⟩
    · go_enter Tryz.func92, Tryz.ntmps92
      go_wp2_with (go_at_call 147; refine Calls.mono (nan_any _ _) ?_; rintro e w1 ⟨rfl, rfl⟩)
      go_ret
      exact ⟨ret_int (by unfold cmpI; rw [if_neg (by omega), if_neg (by omega)]), rfl⟩
theorem compareU_any (x y : Int) (w : World) : Calls Tryz.prog 199 #[.int .u64 x, .int .u64 y] w fun e w' => e = .returned (.int .i64 (cmpI x y)) ∧ w = w' := by
  by_cases h1 : x < y
  · go_enter Tryz.func199, Tryz.ntmps199
    go_wp2_with (go_at_call 244; refine Calls.mono (nanU_any _ _) ?_; rintro e w1 ⟨rfl, rfl⟩)
    go_ret
    exact ⟨ret_int (by unfold cmpI; rw [if_pos h1]), rfl⟩
  · by_cases h2 : y < x
    · go_enter Tryz.func199, Tryz.ntmps199
      go_wp2_with (go_at_call 244; refine Calls.mono (nanU_any _ _) ?_; rintro e w1 ⟨rfl, rfl⟩)
      go_ret
      exact ⟨ret_int (by unfold cmpI; rw [if_neg (by omega), if_pos h2]), rfl⟩
    · go_enter Tryz.func199, Tryz.ntmps199
      go_wp2_with (go_at_call 244; refine Calls.mono (nanU_any _ _) ?_; rintro e w1 ⟨rfl, rfl⟩)
      go_ret
      exact ⟨ret_int (by unfold cmpI; rw [if_neg (by omega), if_neg (by omega)]), rfl⟩
theorem or_two (g : Nat) (x y : Int) (cc : Nat) (w : World) (h0 : w.cell? ⟨g, 0, none⟩ = some (.int .i64 x)) (h1 : w.cell? ⟨g, 1, none⟩ = some (.int .i64 y)) :
    Calls Tryz.prog 198 #[.slice (some ⟨g, 0, none⟩) 2 cc] w fun e w' => e = .returned (.int .i64 (orI x y)) ∧ w = w' := by
  have HO : Hid (orI x y = if x = 0 then y else x) := Lib.hid rfl
  rw [HO.out]
  clear HO
  go_enter Tryz.func198, Tryz.ntmps198
  go_wp2
  go_loop [5, 8] (fun v i => ∃ k : Nat, k ≤ 2 ∧ i = .int .i64 (k : Int) ∧ Hid ((1 ≤ k → x = 0) ∧ (2 ≤ k → y = 0))) (fun _ i => 2 - (intOf i).toNat)
  case atStart => exact ⟨0, by omega, rfl, Lib.hid ⟨fun h => by omega, fun h => by omega⟩⟩
  case round =>
    obtain ⟨k, hk, rfl, H⟩ := hrel
    rcases (by omega : k = 0 ∨ k = 1 ∨ k = 2) with rfl | rfl | rfl
    · by_cases hx : x = 0
      · have hx' : (x != 0) = false := by subst hx; rfl
        go_wp2
        go_round
        case rel => exact ⟨1, by omega, by go_num, Lib.hid ⟨fun _ => hx, fun h => by omega⟩⟩
        case measure => simp [intOf]
      · have hx' : (x != 0) = true := by simpa using hx
        go_wp2
        go_ret
        exact ⟨rfl, rfl⟩
    · have hx := H.out.1 (by omega)
      by_cases hy : y = 0
      · have hy' : (y != 0) = false := by subst hy; rfl
        go_wp2
        go_round
        case rel => exact ⟨2, by omega, by go_num, Lib.hid ⟨fun _ => hx, fun _ => hy⟩⟩
        case measure => simp [intOf]
      · have hy' : (y != 0) = true := by simpa using hy
        go_wp2
        go_ret
        exact ⟨rfl, rfl⟩
    · have hx := H.out.1 (by omega)
      have hy := H.out.2 (by omega)
      go_wp2
      go_ret
      exact ⟨rfl, rfl⟩
theorem or_new (V : World) (x y : Int) (m cc : Nat) (hm : m = V.heap.size) : Calls Tryz.prog 198 #[.slice (some ⟨m, 0, none⟩) 2 cc] (V.alloc (.cells #[.int .i64 x, .int .i64 y] 3)) fun e w' => e = .returned (.int .i64 (orI x y)) ∧ (V.alloc (.cells #[.int .i64 x, .int .i64 y] 3)) = w' := by
  subst hm
  exact or_two _ x y cc _ (cell_new V _ _ _ 0) (cell_new V _ _ _ 1)
theorem or_newD (V : World) (x y : Int) (m cc : Nat) (hm : m = V.heap.size) : Calls Tryz.prog 198 #[.slice (some ⟨m, 0, none⟩) 2 cc] (V.alloc (.cells #[.int .i64 x, .int .i64 y] 3)).drew fun e w' => e = .returned (.int .i64 (orI x y)) ∧ (V.alloc (.cells #[.int .i64 x, .int .i64 y] 3)).drew = w' := by
  subst hm
  exact or_two _ x y cc _ (cell_new V _ _ _ 0) (cell_new V _ _ _ 1)
/-- A ranked host: its number, its rank. -/
abbrev Rk := Int × Nat
def encR (x : Rk) : List Value := [.int .i64 x.1, .int .u64 (x.2 : Int)]
def cmpR (x y : Rk) : Int := orI (cmpI (x.2 : Int) (y.2 : Int)) (cmpI x.1 y.1)
def ltR (x y : Rk) : Bool := decide (x.2 < y.2 ∨ x.2 = y.2 ∧ x.1 < y.1)
theorem lt_cmpR (x y : Rk) : ltOf cmpR x y = ltR x y := by
  unfold ltOf cmpR ltR orI cmpI
  rw [decide_eq_decide]
  by_cases h1 : (x.2 : Int) < (y.2 : Int)
  · simp [h1]; omega
  · by_cases h2 : (y.2 : Int) < (x.2 : Int)
    · simp [h1, h2]; omega
    · by_cases h3 : x.1 < y.1
      · simp [h1, h2, h3]; omega
      · by_cases h4 : y.1 < x.1
        · simp [h1, h2, h3, h4]; omega
        · simp [h1, h2, h3, h4]; omega
theorem swoR : Go.Sort.SWO (ltOf cmpR) := by
  have e : ∀ x y, ltOf cmpR x y = ltR x y := lt_cmpR
  refine ⟨fun x => ?_, fun x y z h1 h2 => ?_, fun x y z h1 h2 => ?_⟩
  · rw [e]; unfold ltR; simp
  · rw [e] at *; unfold ltR at *; simp only [decide_eq_true_eq] at *; omega
  · rw [e] at *; unfold ltR at *; simp only [decide_eq_false_iff_not] at *; omega
set_option maxHeartbeats 2000000 in
theorem against_any (x y : Rk) (w : World) :
    Calls Tryz.prog 141 #[.agg #[.int .i64 x.1, .int .u64 (x.2 : Int)], .agg #[.int .i64 y.1, .int .u64 (y.2 : Int)]] w fun e w' => e = .returned (.int .i64 (cmpR x y)) ∧ Gr w w' := by
  have HC : Hid (cmpR x y = orI (cmpI (x.2 : Int) (y.2 : Int)) (cmpI x.1 y.1)) := Lib.hid rfl
  rw [HC.out]
  obtain ⟨xh, xr⟩ := x
  obtain ⟨yh, yr⟩ := y
  simp only
  generalize (xr : Int) = p at *
  generalize (yr : Int) = q at *
  clear HC
  go_enter Tryz.func141, Tryz.ntmps141
  go_wp2
  refine at_world (C := fun V => Code.wp _ _ _ _ V) (P := fun V => Gr w V ∧ V.cell? ⟨w.heap.size, 0, none⟩ = some (.int .i64 xh) ∧ V.cell? ⟨w.heap.size, 1, none⟩ = some (.int .u64 p) ∧ V.cell? ⟨w.heap.size + 1, 0, none⟩ = some (.int .i64 yh) ∧ V.cell? ⟨w.heap.size + 1, 1, none⟩ = some (.int .u64 q)) ⟨((Gr.refl w).alloc _).alloc _, by go_simp, by go_simp, by go_simp, by go_simp⟩ (fun W hW => ?_)
  obtain ⟨hG, c0, c1, c2, c3⟩ := hW
  have HG := Lib.hid hG
  clear hG
  go_region_held3 (fun w' => w'.cell? ⟨w.heap.size, 0, none⟩ = some (.int .i64 xh) ∧ w'.cell? ⟨w.heap.size, 1, none⟩ = some (.int .u64 p) ∧ w'.cell? ⟨w.heap.size + 1, 0, none⟩ = some (.int .i64 yh) ∧ w'.cell? ⟨w.heap.size + 1, 1, none⟩ = some (.int .u64 q)) (((try dsimp only); exact And.intro (cell_later (by go_grown) c0) (And.intro (cell_later (by go_grown) c1) (And.intro (cell_later (by go_grown) c2) (cell_later (by go_grown) c3))))) ((first | (go_at_call 199; refine (compareU_any _ _ _).mono ?_; rintro e w3 ⟨rfl, rfl⟩) | (go_at_call 92; refine (compare_any _ _ _).mono ?_; rintro e w4 ⟨rfl, rfl⟩) | (go_at_call 198; refine (or_new _ _ _ _ _ rfl).mono ?_; rintro e w5 ⟨rfl, rfl⟩) | (go_at_call 198; refine (or_newD _ _ _ _ _ rfl).mono ?_; rintro e w5 ⟨rfl, rfl⟩)))
  all_goals
    go_wp2
    go_ret
    exact ⟨rfl, by first | exact (HG.out.drew.alloc _) | exact ((HG.out.alloc _).drew) | exact (HG.out.alloc _)⟩
end Go.Proofs.YtnikhhbnbeljeaaGreatDoor.PL
