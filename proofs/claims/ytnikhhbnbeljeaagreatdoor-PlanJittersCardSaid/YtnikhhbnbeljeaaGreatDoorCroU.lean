/- Walks of package cron: the text of a spec. -/
import Derived.Test.YtnikhhbnbeljeaaGreatDoorCivA
import Derived.Test.YtnikhhbnbeljeaaGreatDoorCroA
import Derived.Test.YtnikhhbnbeljeaaGreatDoorBase
import Derived.Test.YtnikhhbnbeljeaaGreatDoorSmA
import Derived.Test.YtnikhhbnbeljeaaGreatDoorCroN
import Derived.Test.YtnikhhbnbeljeaaGreatDoorCroP
import Derived.Test.YtnikhhbnbeljeaaGreatDoorCroQ
import Derived.Test.YtnikhhbnbeljeaaGreatDoorJoin
import Derived.Test.YtnikhhbnbeljeaaGreatDoorCroS
import Derived.Test.YtnikhhbnbeljeaaGreatDoorProg
import Derived.PlainAid
import Derived.Lib.Bytealg
import Derived.WalkKit
import Derived.Handy
import Derived.ProofKit
import Derived.OpenShut
import Derived.Deep.DeepHandedRow
import Derived.Lib.Hide
import Derived.Laws.Tables
import Derived.Carry
import Derived.Deep.QuietTactic
import Derived.BigQuiet
import Derived.Outline
import Derived.Laws.ShiftsVar
import Derived.WalkSmall
import Derived.WalkSpells
import Derived.Lib.Strings
import Derived.Deep.Cut
import Derived.RangeFuncNested
import Derived.RangeFuncBound
import Derived.RangeFuncCalls
import Derived.RangeFuncLeaves
import Derived.RangeFuncFrom
import Derived.Shelf.Abstract
import Derived.Shelf.RegionOpen
import Derived.OwnWalkIn
import Derived.TacticsInMore
import Derived.LoopNIn
import Derived.LoopIn
import Derived.Laws.EntriesVeiled
import Derived.OrdersIn
import Derived.Deep.RegionHeld3
import Derived.Deep.MidRow
import Derived.Shelf.Strings.OnBuilder
import Derived.Lib.LaidTab
import Derived.Laws.BitsAllLaws
import Derived.Lib.ItoaNum
set_option linter.unusedSimpArgs false
set_option linter.unusedVariables false
namespace Go.Proofs.YtnikhhbnbeljeaaGreatDoor
open Go.ChangeShapes Go.WideShapes Go.ChangeAt Go.RowKit Go.Base Go.Cro Go.Civ

def starOf (s : Sp) : Nat → Bool
  | 0 => s.mi == allB (scB 0)
  | 1 => s.ho == allB (scB 1)
  | 2 => s.ad
  | 3 => s.mo == allB (scB 3)
  | _ => s.aw
def fieldT (s : Sp) (k : Nat) : List UInt8 := oneT (bitsOf s k) (starOf s k) (scB k)
/-- The text of a spec. -/
def printT (s : Sp) : List UInt8 :=
  if mayB s && !((List.range 5).any fun k => fieldT s k == []) then Lib.join [fieldT s 0, fieldT s 1, fieldT s 2, fieldT s 3, fieldT s 4] [32] else []
theorem fieldT_len (s : Sp) (k : Nat) : (fieldT s k).length ≤ 300 := by
  unfold fieldT
  refine oneT_len ?_
  rcases k with _ | _ | _ | _ | k <;> simp [scB]
/-- What the call of printField reads. -/
abbrev PrS (g n : Nat) (b : Int) (st : Bool) (least most said : Int) (w' : World) : Prop :=
  w'.cell? ⟨g, 0, none⟩ = some (.int .u64 b) ∧ w'.cell? ⟨g, 1, none⟩ = some (.bool st) ∧ w'.cell? ⟨1, n, none⟩ = some (.int .i64 least) ∧ w'.cell? ⟨1, n + 1, none⟩ = some (.int .i64 most) ∧ w'.cell? ⟨1, n + 2, none⟩ = some (.int .i64 said)
theorem PrS.later {g n : Nat} {b : Int} {st : Bool} {least most said : Int} {W V : World} (h : PrS g n b st least most said W) (hb : Below W.heap.size W V) : PrS g n b st least most said V := by
  obtain ⟨h1, h2, h3, h4, h5⟩ := h
  exact ⟨(hb.cell (World.block_lt_of_cell? _ _ h1)).trans h1, (hb.cell (World.block_lt_of_cell? _ _ h2)).trans h2, (hb.cell (World.block_lt_of_cell? _ _ h3)).trans h3, (hb.cell (World.block_lt_of_cell? _ _ h4)).trans h4, (hb.cell (World.block_lt_of_cell? _ _ h5)).trans h5⟩
theorem PrS.set {g n : Nat} {b : Int} {st : Bool} {least most said : Int} {W : World} (h : PrS g n b st least most said W) (k i : Nat) (v : Value) (h1 : g ≠ k) (h2 : 1 ≠ k) : PrS g n b st least most said (W.setCell ⟨k, i, none⟩ v) := by
  obtain ⟨c1, c2, c3, c4, c5⟩ := h
  exact ⟨cell_other c1 h1, cell_other c2 h1, cell_other c3 h2, cell_other c4 h2, cell_other c5 h2⟩

/-- The texts' row when the first k are there. -/
def prRow (f0 f1 f2 f3 f4 : List UInt8) (k : Nat) : Array Value := #[.string (if 0 < k then ⟨f0.toArray⟩ else ⟨#[]⟩), .string (if 1 < k then ⟨f1.toArray⟩ else ⟨#[]⟩), .string (if 2 < k then ⟨f2.toArray⟩ else ⟨#[]⟩), .string (if 3 < k then ⟨f3.toArray⟩ else ⟨#[]⟩), .string (if 4 < k then ⟨f4.toArray⟩ else ⟨#[]⟩)]

set_option maxHeartbeats 3200000 in
set_option maxRecDepth 100000 in
theorem print_any (s : Sp) (hs : SpOk s) (w : World) (hT : ScTab w) :
    Calls Tryz.prog 44 #[spV s] w fun e w' => e = .returned (.string ⟨(printT s).toArray⟩) ∧ Below w.heap.size w w' := by
  have HT := Lib.hid hT
  have HM := fun w => Lib.hid (marks_any s w)
  have HMay := fun w => Lib.hid (may_any s w)
  have HS : Hid (marksV s = .agg #[.int .u64 s.mi, .bool (starOf s 0), .int .u64 s.ho, .bool (starOf s 1), .int .u64 s.da, .bool s.ad, .int .u64 s.mo, .bool (starOf s 3), .int .u64 s.we, .bool s.aw]) := Lib.hid rfl
  obtain ⟨hmi, hho, hda, hmo, hwe⟩ := hs
  have P0 : Hid (∀ w, Calls Tryz.prog 95 #[.agg #[.int .u64 s.mi, .bool (starOf s 0)], .agg #[.int .i64 0, .int .i64 59, .int .i64 59]] w fun e w' => e = .returned (.string ⟨(fieldT s 0).toArray⟩) ∧ Below w.heap.size w w') := Lib.hid (fun w => printField_any s.mi 59 (starOf s 0) 0 59 (by decide) (by decide) (by decide) (scOk 0) hmi.1 hmi.2 w)
  have L0 := fieldT_len s 0
  have E0 : Hid (fieldT s 0 = [] → printT s = []) := Lib.hid (fun h => by
    unfold printT
    have : ((List.range 5).any fun k => fieldT s k == []) = true := List.any_eq_true.2 ⟨0, List.mem_range.2 (by decide), by rw [h]; rfl⟩
    rw [this]; simp)
  have P1 : Hid (∀ w, Calls Tryz.prog 95 #[.agg #[.int .u64 s.ho, .bool (starOf s 1)], .agg #[.int .i64 0, .int .i64 23, .int .i64 23]] w fun e w' => e = .returned (.string ⟨(fieldT s 1).toArray⟩) ∧ Below w.heap.size w w') := Lib.hid (fun w => printField_any s.ho 23 (starOf s 1) 0 23 (by decide) (by decide) (by decide) (scOk 1) hho.1 hho.2 w)
  have L1 := fieldT_len s 1
  have E1 : Hid (fieldT s 1 = [] → printT s = []) := Lib.hid (fun h => by
    unfold printT
    have : ((List.range 5).any fun k => fieldT s k == []) = true := List.any_eq_true.2 ⟨1, List.mem_range.2 (by decide), by rw [h]; rfl⟩
    rw [this]; simp)
  have P2 : Hid (∀ w, Calls Tryz.prog 95 #[.agg #[.int .u64 s.da, .bool (s.ad)], .agg #[.int .i64 1, .int .i64 31, .int .i64 31]] w fun e w' => e = .returned (.string ⟨(fieldT s 2).toArray⟩) ∧ Below w.heap.size w w') := Lib.hid (fun w => printField_any s.da 31 (s.ad) 1 31 (by decide) (by decide) (by decide) (scOk 2) hda.1 hda.2 w)
  have L2 := fieldT_len s 2
  have E2 : Hid (fieldT s 2 = [] → printT s = []) := Lib.hid (fun h => by
    unfold printT
    have : ((List.range 5).any fun k => fieldT s k == []) = true := List.any_eq_true.2 ⟨2, List.mem_range.2 (by decide), by rw [h]; rfl⟩
    rw [this]; simp)
  have P3 : Hid (∀ w, Calls Tryz.prog 95 #[.agg #[.int .u64 s.mo, .bool (starOf s 3)], .agg #[.int .i64 1, .int .i64 12, .int .i64 12]] w fun e w' => e = .returned (.string ⟨(fieldT s 3).toArray⟩) ∧ Below w.heap.size w w') := Lib.hid (fun w => printField_any s.mo 12 (starOf s 3) 1 12 (by decide) (by decide) (by decide) (scOk 3) hmo.1 hmo.2 w)
  have L3 := fieldT_len s 3
  have E3 : Hid (fieldT s 3 = [] → printT s = []) := Lib.hid (fun h => by
    unfold printT
    have : ((List.range 5).any fun k => fieldT s k == []) = true := List.any_eq_true.2 ⟨3, List.mem_range.2 (by decide), by rw [h]; rfl⟩
    rw [this]; simp)
  have P4 : Hid (∀ w, Calls Tryz.prog 95 #[.agg #[.int .u64 s.we, .bool (s.aw)], .agg #[.int .i64 0, .int .i64 6, .int .i64 7]] w fun e w' => e = .returned (.string ⟨(fieldT s 4).toArray⟩) ∧ Below w.heap.size w w') := Lib.hid (fun w => printField_any s.we 7 (s.aw) 0 6 (by decide) (by decide) (by decide) (scOk 4) hwe.1 hwe.2 w)
  have L4 := fieldT_len s 4
  have E4 : Hid (fieldT s 4 = [] → printT s = []) := Lib.hid (fun h => by
    unfold printT
    have : ((List.range 5).any fun k => fieldT s k == []) = true := List.any_eq_true.2 ⟨4, List.mem_range.2 (by decide), by rw [h]; rfl⟩
    rw [this]; simp)
  have HPM : Hid (mayB s = false → printT s = []) := Lib.hid (fun h => by unfold printT; rw [h]; simp)
  have HPJ : Hid (mayB s = true → fieldT s 0 ≠ [] → fieldT s 1 ≠ [] → fieldT s 2 ≠ [] → fieldT s 3 ≠ [] → fieldT s 4 ≠ [] → printT s = Lib.join [fieldT s 0, fieldT s 1, fieldT s 2, fieldT s 3, fieldT s 4] [32]) := Lib.hid (fun h h0 h1 h2 h3 h4 => by
    unfold printT
    rw [h, if_pos]
    simp [List.range, List.range.loop, h0, h1, h2, h3, h4])
  generalize mayB s = my at *
  generalize printT s = pt at *
  generalize fieldT s 0 = f0 at *
  generalize fieldT s 1 = f1 at *
  generalize fieldT s 2 = f2 at *
  generalize fieldT s 3 = f3 at *
  generalize fieldT s 4 = f4 at *
  generalize starOf s 0 = x0 at *
  generalize starOf s 1 = x1 at *
  generalize starOf s 3 = x3 at *
  clear hmi hho hda hmo hwe
  obtain ⟨mi, ho, da, mo, we, ad, aw⟩ := s
  have hmx : Tryz.prog.follows .mixedOrders = true := by kernel_rfl
  have HL : Hid (f0.length ≤ 300 ∧ f1.length ≤ 300 ∧ f2.length ≤ 300 ∧ f3.length ≤ 300 ∧ f4.length ≤ 300) := Lib.hid ⟨L0, L1, L2, L3, L4⟩
  clear hT L0 L1 L2 L3 L4
  cases my
  · have HR := Lib.hid (HPM.out rfl)
    go_enter Tryz.func44, Tryz.ntmps44
    go_wp2_with fail
    refine ((HMay _).out (HT.out.later (below_alloc w _))).mono ?_
    rintro e w1 ⟨rfl, hb1⟩
    have Hb1 := Lib.hid ((below_alloc w _).trans (hb1.mono (by simp)))
    clear hb1
    go_wp2_with fail
    go_ret
    exact ⟨by rw [HR.out]; rfl, Hb1.out⟩
  · have HPJ2 := Lib.hid (HPJ.out rfl)
    clear HPJ HPM
    go_enter Tryz.func44, Tryz.ntmps44
    go_wp2_with fail
    refine ((HMay _).out (HT.out.later (below_alloc w _))).mono ?_
    rintro e w1 ⟨rfl, hb1⟩
    have hsp := row_below hb1 (by simp) (heap_new w (.cells #[.int .u64 mi, .int .u64 ho, .int .u64 da, .int .u64 mo, .int .u64 we, .bool ad, .bool aw] 24))
    have hsz1 := hb1.size
    simp only [World.size_alloc] at hsz1
    obtain ⟨csp, _⟩ := cells_of_heap (heap_old (.cells #[.string ⟨#[]⟩, .string ⟨#[]⟩, .string ⟨#[]⟩, .string ⟨#[]⟩, .string ⟨#[]⟩] 127) (by omega) hsp)
    have Hb1 := Lib.hid ((below_alloc w _).trans (hb1.mono (by simp)))
    clear hb1 hsp
    go_wp2_with fail
    have hb1' := Hb1.out.alloc (by omega) (.cells #[.string ⟨#[]⟩, .string ⟨#[]⟩, .string ⟨#[]⟩, .string ⟨#[]⟩, .string ⟨#[]⟩] 127)
    refine ((HM _).out (HT.out.later hb1')).mono ?_
    rintro e w2 ⟨rfl, hb2⟩
    rw [HS.out]
    have hz2 := hb2.size
    simp only [World.size_alloc] at hz2
    have HROW0 : Hid (w2.heap[w1.heap.size]? = some (.cells (prRow f0 f1 f2 f3 f4 0) 127 (0, 0))) := Lib.hid (row_below hb2 (by simp) (heap_new w1 _))
    have HB2 := Lib.hid (hb1'.trans (hb2.mono (by simp; omega)))
    have HG : Hid (1 < w.heap.size) := Lib.hid (World.block_lt_of_cell? _ _ (HT.out 0 (by decide)))
    clear hb1' hb2 csp
    go_wp2_with fail
    go_loopw [11] (fun i wr => ∃ k : Nat, k ≤ 5 ∧ i = .int .i64 k ∧ Hid (Below w.heap.size w wr) ∧ Hid (wr.heap[w1.heap.size]? = some (.cells (prRow f0 f1 f2 f3 f4 k) 127 (0, 0))) ∧ Hid ((0 < k → f0 ≠ []) ∧ (1 < k → f1 ≠ []) ∧ (2 < k → f2 ≠ []) ∧ (3 < k → f3 ≠ []) ∧ (4 < k → f4 ≠ []))) (fun i _ => 5 - (intOf i).toNat)
    case atStart => exact ⟨0, Nat.zero_le _, rfl, HB2, HROW0, Lib.hid ⟨by omega, by omega, by omega, by omega, by omega⟩⟩
    case round =>
      obtain ⟨k, hk, rfl, HB, HROW, HNE⟩ := hrel
      clear HB2 HROW0 hz2
      rcases k with _ | _ | _ | _ | _ | k
      · have hrow : wr.heap[w1.heap.size]? = some (.cells #[.string ⟨#[]⟩, .string ⟨#[]⟩, .string ⟨#[]⟩, .string ⟨#[]⟩, .string ⟨#[]⟩] 127 (0, 0)) := HROW.out
        have hB := HB.out
        have zr := hB.size
        have hlt := (Array.getElem?_eq_some_iff.1 hrow).1
        have hA : Below wr.heap.size wr (wr.alloc (.cells #[.int .u64 mi, .bool x0] 129)) := below_alloc _ _
        have hsc := (HT.out.later hB).later hA
        have hrowW := heap_old (.cells #[.int .u64 mi, .bool x0] 129) hlt hrow
        obtain ⟨cm, _⟩ := cells_of_heap (heap_new wr (.cells #[.int .u64 mi, .bool x0] 129))
        have hP : PrS wr.heap.size 0 mi x0 0 59 59 (wr.alloc (.cells #[.int .u64 mi, .bool x0] 129)) := ⟨cm 0, cm 1, hsc 0 (by decide), hsc 1 (by decide), hsc 2 (by decide)⟩
        have HW := Lib.hid (hB.trans (hA.mono zr))
        have HRW := Lib.hid hrowW
        have HPW := Lib.hid hP
        have hzw : (wr.alloc (.cells #[.int .u64 mi, .bool x0] 129)).heap.size = wr.heap.size + 1 := by simp
        clear hrow hB hA hsc hrowW cm hP
        have ix : ∀ w : World, (Instr.index 130 (.agg #[.int .u64 mi, .bool x0, .int .u64 ho, .bool x1, .int .u64 da, .bool ad, .int .u64 mo, .bool x3, .int .u64 we, .bool aw]) (.int .i64 0)).run Tryz.prog w = .ok (.agg #[.int .u64 mi, .bool x0]) w := fun _ => by kernel_rfl
        go_wp2_with fail
        clear ix
        generalize wr.alloc (.cells #[.int .u64 mi, .bool x0] 129) = W at *
        refine wp_region_held_drew (S := PrS wr.heap.size 0 mi x0 0 59 59) hmx HPW.out (fun hHeld => ?_)
        refine wpAnyH_take (i := 0) (v := ?v1) rfl (by kernel_rfl) (by kernel_rfl) (by kernel_rfl) (fun _ _ _ h => h) (Or.inl ⟨by rfl, ?hy1⟩) hHeld ?rest1
        case hy1 => (intro w' hSw; unfold PrS at hSw; go_simp; try with_reducible rfl)
        try simp only [Act.put, List.setIfInBounds_toArray, List.set_cons_zero, List.set_cons_succ, List.getElem_toArray, List.getElem_cons_succ, List.getElem_cons_zero]
        refine wpAnyH_take (i := 1) (v := ?v2) rfl (by kernel_rfl) (by kernel_rfl) (by kernel_rfl) (fun _ _ _ h => h) (Or.inl ⟨by rfl, ?hy2⟩) hHeld ?rest2
        case hy2 => (intro w' hSw; unfold PrS at hSw; go_simp; try with_reducible rfl)
        try simp only [Act.put, List.setIfInBounds_toArray, List.set_cons_zero, List.set_cons_succ, List.getElem_toArray, List.getElem_cons_succ, List.getElem_cons_zero]
        refine wpAnyH_take (i := 2) (v := ?v3) rfl (by kernel_rfl) (by kernel_rfl) (by kernel_rfl) (fun _ _ _ h => h) (Or.inl ⟨by rfl, ?hy3⟩) hHeld ?rest3
        case hy3 => (intro w' hSw; unfold PrS at hSw; go_simp; try with_reducible rfl)
        try simp only [Act.put, List.setIfInBounds_toArray, List.set_cons_zero, List.set_cons_succ, List.getElem_toArray, List.getElem_cons_succ, List.getElem_cons_zero]
        refine wpAnyH_take (i := 3) (v := ?v4) rfl (by kernel_rfl) (by kernel_rfl) (by kernel_rfl) (fun _ _ _ h => h) (Or.inl ⟨by rfl, ?hy4⟩) hHeld ?rest4
        case hy4 => (intro w' hSw; unfold PrS at hSw; go_simp; try with_reducible rfl)
        try simp only [Act.put, List.setIfInBounds_toArray, List.set_cons_zero, List.set_cons_succ, List.getElem_toArray, List.getElem_cons_succ, List.getElem_cons_zero]
        refine wpAnyH_take (i := 4) (v := ?v5) rfl (by kernel_rfl) (by kernel_rfl) (by kernel_rfl) (fun _ _ _ h => h) (Or.inl ⟨by rfl, ?hy5⟩) hHeld ?rest5
        case hy5 => (intro w' hSw; unfold PrS at hSw; go_simp; try with_reducible rfl)
        try simp only [Act.put, List.setIfInBounds_toArray, List.set_cons_zero, List.set_cons_succ, List.getElem_toArray, List.getElem_cons_succ, List.getElem_cons_zero]
        refine wpAnyH_ready (rs := [5]) (by kernel_rfl) (by simp) ?_
        refine AllReadyH.cons rfl (fun K hK => ?_) AllReadyH.nil
        go_simp
        go_at_call 95
        refine Calls.mono (by with_reducible exact P0.out _) ?_
        rintro e W2 ⟨rfl, hb⟩
        go_wp2_with fail
        have hBe : Below W.heap.size W W2 := (Below.refl _ _).drew.trans hb
        refine hK.out _ _ (PrS.later HPW.out hBe) (fun hHeld2 => ?_)
        have r2 := row_below hBe (by omega) HRW.out
        have zE := hBe.size
        clear hK K hb hHeld
        have hHeld := hHeld2
        clear hHeld2
        try simp only [Act.put, List.setIfInBounds_toArray, List.set_cons_zero, List.set_cons_succ, List.getElem_toArray, List.getElem_cons_succ, List.getElem_cons_zero]
        refine wpAnyH_take (i := 6) (v := ?v6) rfl (by kernel_rfl) (by kernel_rfl) (by kernel_rfl) (fun _ _ _ h => h) (Or.inl ⟨by rfl, ?hy6⟩) hHeld ?rest6
        case hy6 => (intro w' hSw; unfold PrS at hSw; go_simp; try with_reducible rfl)
        try simp only [Act.put, List.setIfInBounds_toArray, List.set_cons_zero, List.set_cons_succ, List.getElem_toArray, List.getElem_cons_succ, List.getElem_cons_zero]
        obtain ⟨cx, fx⟩ := cells_of_heap r2
        refine wpAnyH_ready (rs := [7]) (by kernel_rfl) (by simp) ?_
        refine AllReadyH.cons rfl (fun K hK => ?_) AllReadyH.nil
        go_simp
        refine hK.out _ _ (hHeld.set w1.heap.size 0 _ (by omega) (by have := HG.out; omega)) (fun hHeld2 => ?_)
        clear hK K hHeld hHeld2 cx fx
        try simp only [Act.put, List.setIfInBounds_toArray, List.set_cons_zero, List.set_cons_succ, List.getElem_toArray, List.getElem_cons_succ, List.getElem_cons_zero]
        have r3 : (W2.setCell ⟨w1.heap.size, 0, none⟩ (.string ⟨f0.toArray⟩)).heap[w1.heap.size]? = some (.cells #[.string ⟨f0.toArray⟩, .string ⟨#[]⟩, .string ⟨#[]⟩, .string ⟨#[]⟩, .string ⟨#[]⟩] 127 (0, 0)) := row_set (i := 0) (.string ⟨f0.toArray⟩) r2
        have hB3 := (HW.out.trans (hBe.mono (by omega))).setCell (p := ⟨w1.heap.size, 0, none⟩) (by show w.heap.size ≤ w1.heap.size; omega) (.string ⟨f0.toArray⟩)
        generalize W2.setCell ⟨w1.heap.size, 0, none⟩ (.string ⟨f0.toArray⟩) = V at *
        have HB3 := Lib.hid hB3
        have HR3 := Lib.hid r3
        obtain ⟨cv, _⟩ := cells_of_heap r3
        have cv0 := cv 0
        clear hBe r2 r3 hB3 cv
        refine wpAnyH_done (by kernel_rfl) ?_ _
        by_cases he : f0 = []
        · have HE := Lib.hid (E0.out he)
          subst he
          go_wp2_with fail
          go_ret
          exact ⟨by rw [HE.out]; rfl, HB3.out⟩
        · have he1 : (f0 == []) = false := by simpa using he
          have he2 : f0.isEmpty = false := by simpa using he
          have HE := Lib.hid he
          clear he
          go_wp2_with fail
          exact ⟨⟨1, by decide, rfl, HB3, HR3, Lib.hid (by have := HNE.out; have := HE.out; simp_all)⟩, by simp [intOf]⟩
      · have hrow : wr.heap[w1.heap.size]? = some (.cells #[.string ⟨f0.toArray⟩, .string ⟨#[]⟩, .string ⟨#[]⟩, .string ⟨#[]⟩, .string ⟨#[]⟩] 127 (0, 0)) := HROW.out
        have hB := HB.out
        have zr := hB.size
        have hlt := (Array.getElem?_eq_some_iff.1 hrow).1
        have hA : Below wr.heap.size wr (wr.alloc (.cells #[.int .u64 ho, .bool x1] 129)) := below_alloc _ _
        have hsc := (HT.out.later hB).later hA
        have hrowW := heap_old (.cells #[.int .u64 ho, .bool x1] 129) hlt hrow
        obtain ⟨cm, _⟩ := cells_of_heap (heap_new wr (.cells #[.int .u64 ho, .bool x1] 129))
        have hP : PrS wr.heap.size 3 ho x1 0 23 23 (wr.alloc (.cells #[.int .u64 ho, .bool x1] 129)) := ⟨cm 0, cm 1, hsc 3 (by decide), hsc 4 (by decide), hsc 5 (by decide)⟩
        have HW := Lib.hid (hB.trans (hA.mono zr))
        have HRW := Lib.hid hrowW
        have HPW := Lib.hid hP
        have hzw : (wr.alloc (.cells #[.int .u64 ho, .bool x1] 129)).heap.size = wr.heap.size + 1 := by simp
        clear hrow hB hA hsc hrowW cm hP
        have ix : ∀ w : World, (Instr.index 130 (.agg #[.int .u64 mi, .bool x0, .int .u64 ho, .bool x1, .int .u64 da, .bool ad, .int .u64 mo, .bool x3, .int .u64 we, .bool aw]) (.int .i64 1)).run Tryz.prog w = .ok (.agg #[.int .u64 ho, .bool x1]) w := fun _ => by kernel_rfl
        go_wp2_with fail
        clear ix
        generalize wr.alloc (.cells #[.int .u64 ho, .bool x1] 129) = W at *
        refine wp_region_held_drew (S := PrS wr.heap.size 3 ho x1 0 23 23) hmx HPW.out (fun hHeld => ?_)
        refine wpAnyH_take (i := 0) (v := ?v7) rfl (by kernel_rfl) (by kernel_rfl) (by kernel_rfl) (fun _ _ _ h => h) (Or.inl ⟨by rfl, ?hy7⟩) hHeld ?rest7
        case hy7 => (intro w' hSw; unfold PrS at hSw; go_simp; try with_reducible rfl)
        try simp only [Act.put, List.setIfInBounds_toArray, List.set_cons_zero, List.set_cons_succ, List.getElem_toArray, List.getElem_cons_succ, List.getElem_cons_zero]
        refine wpAnyH_take (i := 1) (v := ?v8) rfl (by kernel_rfl) (by kernel_rfl) (by kernel_rfl) (fun _ _ _ h => h) (Or.inl ⟨by rfl, ?hy8⟩) hHeld ?rest8
        case hy8 => (intro w' hSw; unfold PrS at hSw; go_simp; try with_reducible rfl)
        try simp only [Act.put, List.setIfInBounds_toArray, List.set_cons_zero, List.set_cons_succ, List.getElem_toArray, List.getElem_cons_succ, List.getElem_cons_zero]
        refine wpAnyH_take (i := 2) (v := ?v9) rfl (by kernel_rfl) (by kernel_rfl) (by kernel_rfl) (fun _ _ _ h => h) (Or.inl ⟨by rfl, ?hy9⟩) hHeld ?rest9
        case hy9 => (intro w' hSw; unfold PrS at hSw; go_simp; try with_reducible rfl)
        try simp only [Act.put, List.setIfInBounds_toArray, List.set_cons_zero, List.set_cons_succ, List.getElem_toArray, List.getElem_cons_succ, List.getElem_cons_zero]
        refine wpAnyH_take (i := 3) (v := ?v10) rfl (by kernel_rfl) (by kernel_rfl) (by kernel_rfl) (fun _ _ _ h => h) (Or.inl ⟨by rfl, ?hy10⟩) hHeld ?rest10
        case hy10 => (intro w' hSw; unfold PrS at hSw; go_simp; try with_reducible rfl)
        try simp only [Act.put, List.setIfInBounds_toArray, List.set_cons_zero, List.set_cons_succ, List.getElem_toArray, List.getElem_cons_succ, List.getElem_cons_zero]
        refine wpAnyH_take (i := 4) (v := ?v11) rfl (by kernel_rfl) (by kernel_rfl) (by kernel_rfl) (fun _ _ _ h => h) (Or.inl ⟨by rfl, ?hy11⟩) hHeld ?rest11
        case hy11 => (intro w' hSw; unfold PrS at hSw; go_simp; try with_reducible rfl)
        try simp only [Act.put, List.setIfInBounds_toArray, List.set_cons_zero, List.set_cons_succ, List.getElem_toArray, List.getElem_cons_succ, List.getElem_cons_zero]
        refine wpAnyH_ready (rs := [5]) (by kernel_rfl) (by simp) ?_
        refine AllReadyH.cons rfl (fun K hK => ?_) AllReadyH.nil
        go_simp
        go_at_call 95
        refine Calls.mono (by with_reducible exact P1.out _) ?_
        rintro e W2 ⟨rfl, hb⟩
        go_wp2_with fail
        have hBe : Below W.heap.size W W2 := (Below.refl _ _).drew.trans hb
        refine hK.out _ _ (PrS.later HPW.out hBe) (fun hHeld2 => ?_)
        have r2 := row_below hBe (by omega) HRW.out
        have zE := hBe.size
        clear hK K hb hHeld
        have hHeld := hHeld2
        clear hHeld2
        try simp only [Act.put, List.setIfInBounds_toArray, List.set_cons_zero, List.set_cons_succ, List.getElem_toArray, List.getElem_cons_succ, List.getElem_cons_zero]
        refine wpAnyH_take (i := 6) (v := ?v12) rfl (by kernel_rfl) (by kernel_rfl) (by kernel_rfl) (fun _ _ _ h => h) (Or.inl ⟨by rfl, ?hy12⟩) hHeld ?rest12
        case hy12 => (intro w' hSw; unfold PrS at hSw; go_simp; try with_reducible rfl)
        try simp only [Act.put, List.setIfInBounds_toArray, List.set_cons_zero, List.set_cons_succ, List.getElem_toArray, List.getElem_cons_succ, List.getElem_cons_zero]
        obtain ⟨cx, fx⟩ := cells_of_heap r2
        refine wpAnyH_ready (rs := [7]) (by kernel_rfl) (by simp) ?_
        refine AllReadyH.cons rfl (fun K hK => ?_) AllReadyH.nil
        go_simp
        refine hK.out _ _ (hHeld.set w1.heap.size 1 _ (by omega) (by have := HG.out; omega)) (fun hHeld2 => ?_)
        clear hK K hHeld hHeld2 cx fx
        try simp only [Act.put, List.setIfInBounds_toArray, List.set_cons_zero, List.set_cons_succ, List.getElem_toArray, List.getElem_cons_succ, List.getElem_cons_zero]
        have r3 : (W2.setCell ⟨w1.heap.size, 1, none⟩ (.string ⟨f1.toArray⟩)).heap[w1.heap.size]? = some (.cells #[.string ⟨f0.toArray⟩, .string ⟨f1.toArray⟩, .string ⟨#[]⟩, .string ⟨#[]⟩, .string ⟨#[]⟩] 127 (0, 0)) := row_set (i := 1) (.string ⟨f1.toArray⟩) r2
        have hB3 := (HW.out.trans (hBe.mono (by omega))).setCell (p := ⟨w1.heap.size, 1, none⟩) (by show w.heap.size ≤ w1.heap.size; omega) (.string ⟨f1.toArray⟩)
        generalize W2.setCell ⟨w1.heap.size, 1, none⟩ (.string ⟨f1.toArray⟩) = V at *
        have HB3 := Lib.hid hB3
        have HR3 := Lib.hid r3
        obtain ⟨cv, _⟩ := cells_of_heap r3
        have cv1 := cv 1
        clear hBe r2 r3 hB3 cv
        refine wpAnyH_done (by kernel_rfl) ?_ _
        by_cases he : f1 = []
        · have HE := Lib.hid (E1.out he)
          subst he
          go_wp2_with fail
          go_ret
          exact ⟨by rw [HE.out]; rfl, HB3.out⟩
        · have he1 : (f1 == []) = false := by simpa using he
          have he2 : f1.isEmpty = false := by simpa using he
          have HE := Lib.hid he
          clear he
          go_wp2_with fail
          exact ⟨⟨2, by decide, rfl, HB3, HR3, Lib.hid (by have := HNE.out; have := HE.out; simp_all)⟩, by simp [intOf]⟩
      · have hrow : wr.heap[w1.heap.size]? = some (.cells #[.string ⟨f0.toArray⟩, .string ⟨f1.toArray⟩, .string ⟨#[]⟩, .string ⟨#[]⟩, .string ⟨#[]⟩] 127 (0, 0)) := HROW.out
        have hB := HB.out
        have zr := hB.size
        have hlt := (Array.getElem?_eq_some_iff.1 hrow).1
        have hA : Below wr.heap.size wr (wr.alloc (.cells #[.int .u64 da, .bool ad] 129)) := below_alloc _ _
        have hsc := (HT.out.later hB).later hA
        have hrowW := heap_old (.cells #[.int .u64 da, .bool ad] 129) hlt hrow
        obtain ⟨cm, _⟩ := cells_of_heap (heap_new wr (.cells #[.int .u64 da, .bool ad] 129))
        have hP : PrS wr.heap.size 6 da ad 1 31 31 (wr.alloc (.cells #[.int .u64 da, .bool ad] 129)) := ⟨cm 0, cm 1, hsc 6 (by decide), hsc 7 (by decide), hsc 8 (by decide)⟩
        have HW := Lib.hid (hB.trans (hA.mono zr))
        have HRW := Lib.hid hrowW
        have HPW := Lib.hid hP
        have hzw : (wr.alloc (.cells #[.int .u64 da, .bool ad] 129)).heap.size = wr.heap.size + 1 := by simp
        clear hrow hB hA hsc hrowW cm hP
        have ix : ∀ w : World, (Instr.index 130 (.agg #[.int .u64 mi, .bool x0, .int .u64 ho, .bool x1, .int .u64 da, .bool ad, .int .u64 mo, .bool x3, .int .u64 we, .bool aw]) (.int .i64 2)).run Tryz.prog w = .ok (.agg #[.int .u64 da, .bool ad]) w := fun _ => by kernel_rfl
        go_wp2_with fail
        clear ix
        generalize wr.alloc (.cells #[.int .u64 da, .bool ad] 129) = W at *
        refine wp_region_held_drew (S := PrS wr.heap.size 6 da ad 1 31 31) hmx HPW.out (fun hHeld => ?_)
        refine wpAnyH_take (i := 0) (v := ?v13) rfl (by kernel_rfl) (by kernel_rfl) (by kernel_rfl) (fun _ _ _ h => h) (Or.inl ⟨by rfl, ?hy13⟩) hHeld ?rest13
        case hy13 => (intro w' hSw; unfold PrS at hSw; go_simp; try with_reducible rfl)
        try simp only [Act.put, List.setIfInBounds_toArray, List.set_cons_zero, List.set_cons_succ, List.getElem_toArray, List.getElem_cons_succ, List.getElem_cons_zero]
        refine wpAnyH_take (i := 1) (v := ?v14) rfl (by kernel_rfl) (by kernel_rfl) (by kernel_rfl) (fun _ _ _ h => h) (Or.inl ⟨by rfl, ?hy14⟩) hHeld ?rest14
        case hy14 => (intro w' hSw; unfold PrS at hSw; go_simp; try with_reducible rfl)
        try simp only [Act.put, List.setIfInBounds_toArray, List.set_cons_zero, List.set_cons_succ, List.getElem_toArray, List.getElem_cons_succ, List.getElem_cons_zero]
        refine wpAnyH_take (i := 2) (v := ?v15) rfl (by kernel_rfl) (by kernel_rfl) (by kernel_rfl) (fun _ _ _ h => h) (Or.inl ⟨by rfl, ?hy15⟩) hHeld ?rest15
        case hy15 => (intro w' hSw; unfold PrS at hSw; go_simp; try with_reducible rfl)
        try simp only [Act.put, List.setIfInBounds_toArray, List.set_cons_zero, List.set_cons_succ, List.getElem_toArray, List.getElem_cons_succ, List.getElem_cons_zero]
        refine wpAnyH_take (i := 3) (v := ?v16) rfl (by kernel_rfl) (by kernel_rfl) (by kernel_rfl) (fun _ _ _ h => h) (Or.inl ⟨by rfl, ?hy16⟩) hHeld ?rest16
        case hy16 => (intro w' hSw; unfold PrS at hSw; go_simp; try with_reducible rfl)
        try simp only [Act.put, List.setIfInBounds_toArray, List.set_cons_zero, List.set_cons_succ, List.getElem_toArray, List.getElem_cons_succ, List.getElem_cons_zero]
        refine wpAnyH_take (i := 4) (v := ?v17) rfl (by kernel_rfl) (by kernel_rfl) (by kernel_rfl) (fun _ _ _ h => h) (Or.inl ⟨by rfl, ?hy17⟩) hHeld ?rest17
        case hy17 => (intro w' hSw; unfold PrS at hSw; go_simp; try with_reducible rfl)
        try simp only [Act.put, List.setIfInBounds_toArray, List.set_cons_zero, List.set_cons_succ, List.getElem_toArray, List.getElem_cons_succ, List.getElem_cons_zero]
        refine wpAnyH_ready (rs := [5]) (by kernel_rfl) (by simp) ?_
        refine AllReadyH.cons rfl (fun K hK => ?_) AllReadyH.nil
        go_simp
        go_at_call 95
        refine Calls.mono (by with_reducible exact P2.out _) ?_
        rintro e W2 ⟨rfl, hb⟩
        go_wp2_with fail
        have hBe : Below W.heap.size W W2 := (Below.refl _ _).drew.trans hb
        refine hK.out _ _ (PrS.later HPW.out hBe) (fun hHeld2 => ?_)
        have r2 := row_below hBe (by omega) HRW.out
        have zE := hBe.size
        clear hK K hb hHeld
        have hHeld := hHeld2
        clear hHeld2
        try simp only [Act.put, List.setIfInBounds_toArray, List.set_cons_zero, List.set_cons_succ, List.getElem_toArray, List.getElem_cons_succ, List.getElem_cons_zero]
        refine wpAnyH_take (i := 6) (v := ?v18) rfl (by kernel_rfl) (by kernel_rfl) (by kernel_rfl) (fun _ _ _ h => h) (Or.inl ⟨by rfl, ?hy18⟩) hHeld ?rest18
        case hy18 => (intro w' hSw; unfold PrS at hSw; go_simp; try with_reducible rfl)
        try simp only [Act.put, List.setIfInBounds_toArray, List.set_cons_zero, List.set_cons_succ, List.getElem_toArray, List.getElem_cons_succ, List.getElem_cons_zero]
        obtain ⟨cx, fx⟩ := cells_of_heap r2
        refine wpAnyH_ready (rs := [7]) (by kernel_rfl) (by simp) ?_
        refine AllReadyH.cons rfl (fun K hK => ?_) AllReadyH.nil
        go_simp
        refine hK.out _ _ (hHeld.set w1.heap.size 2 _ (by omega) (by have := HG.out; omega)) (fun hHeld2 => ?_)
        clear hK K hHeld hHeld2 cx fx
        try simp only [Act.put, List.setIfInBounds_toArray, List.set_cons_zero, List.set_cons_succ, List.getElem_toArray, List.getElem_cons_succ, List.getElem_cons_zero]
        have r3 : (W2.setCell ⟨w1.heap.size, 2, none⟩ (.string ⟨f2.toArray⟩)).heap[w1.heap.size]? = some (.cells #[.string ⟨f0.toArray⟩, .string ⟨f1.toArray⟩, .string ⟨f2.toArray⟩, .string ⟨#[]⟩, .string ⟨#[]⟩] 127 (0, 0)) := row_set (i := 2) (.string ⟨f2.toArray⟩) r2
        have hB3 := (HW.out.trans (hBe.mono (by omega))).setCell (p := ⟨w1.heap.size, 2, none⟩) (by show w.heap.size ≤ w1.heap.size; omega) (.string ⟨f2.toArray⟩)
        generalize W2.setCell ⟨w1.heap.size, 2, none⟩ (.string ⟨f2.toArray⟩) = V at *
        have HB3 := Lib.hid hB3
        have HR3 := Lib.hid r3
        obtain ⟨cv, _⟩ := cells_of_heap r3
        have cv2 := cv 2
        clear hBe r2 r3 hB3 cv
        refine wpAnyH_done (by kernel_rfl) ?_ _
        by_cases he : f2 = []
        · have HE := Lib.hid (E2.out he)
          subst he
          go_wp2_with fail
          go_ret
          exact ⟨by rw [HE.out]; rfl, HB3.out⟩
        · have he1 : (f2 == []) = false := by simpa using he
          have he2 : f2.isEmpty = false := by simpa using he
          have HE := Lib.hid he
          clear he
          go_wp2_with fail
          exact ⟨⟨3, by decide, rfl, HB3, HR3, Lib.hid (by have := HNE.out; have := HE.out; simp_all)⟩, by simp [intOf]⟩
      · have hrow : wr.heap[w1.heap.size]? = some (.cells #[.string ⟨f0.toArray⟩, .string ⟨f1.toArray⟩, .string ⟨f2.toArray⟩, .string ⟨#[]⟩, .string ⟨#[]⟩] 127 (0, 0)) := HROW.out
        have hB := HB.out
        have zr := hB.size
        have hlt := (Array.getElem?_eq_some_iff.1 hrow).1
        have hA : Below wr.heap.size wr (wr.alloc (.cells #[.int .u64 mo, .bool x3] 129)) := below_alloc _ _
        have hsc := (HT.out.later hB).later hA
        have hrowW := heap_old (.cells #[.int .u64 mo, .bool x3] 129) hlt hrow
        obtain ⟨cm, _⟩ := cells_of_heap (heap_new wr (.cells #[.int .u64 mo, .bool x3] 129))
        have hP : PrS wr.heap.size 9 mo x3 1 12 12 (wr.alloc (.cells #[.int .u64 mo, .bool x3] 129)) := ⟨cm 0, cm 1, hsc 9 (by decide), hsc 10 (by decide), hsc 11 (by decide)⟩
        have HW := Lib.hid (hB.trans (hA.mono zr))
        have HRW := Lib.hid hrowW
        have HPW := Lib.hid hP
        have hzw : (wr.alloc (.cells #[.int .u64 mo, .bool x3] 129)).heap.size = wr.heap.size + 1 := by simp
        clear hrow hB hA hsc hrowW cm hP
        have ix : ∀ w : World, (Instr.index 130 (.agg #[.int .u64 mi, .bool x0, .int .u64 ho, .bool x1, .int .u64 da, .bool ad, .int .u64 mo, .bool x3, .int .u64 we, .bool aw]) (.int .i64 3)).run Tryz.prog w = .ok (.agg #[.int .u64 mo, .bool x3]) w := fun _ => by kernel_rfl
        go_wp2_with fail
        clear ix
        generalize wr.alloc (.cells #[.int .u64 mo, .bool x3] 129) = W at *
        refine wp_region_held_drew (S := PrS wr.heap.size 9 mo x3 1 12 12) hmx HPW.out (fun hHeld => ?_)
        refine wpAnyH_take (i := 0) (v := ?v19) rfl (by kernel_rfl) (by kernel_rfl) (by kernel_rfl) (fun _ _ _ h => h) (Or.inl ⟨by rfl, ?hy19⟩) hHeld ?rest19
        case hy19 => (intro w' hSw; unfold PrS at hSw; go_simp; try with_reducible rfl)
        try simp only [Act.put, List.setIfInBounds_toArray, List.set_cons_zero, List.set_cons_succ, List.getElem_toArray, List.getElem_cons_succ, List.getElem_cons_zero]
        refine wpAnyH_take (i := 1) (v := ?v20) rfl (by kernel_rfl) (by kernel_rfl) (by kernel_rfl) (fun _ _ _ h => h) (Or.inl ⟨by rfl, ?hy20⟩) hHeld ?rest20
        case hy20 => (intro w' hSw; unfold PrS at hSw; go_simp; try with_reducible rfl)
        try simp only [Act.put, List.setIfInBounds_toArray, List.set_cons_zero, List.set_cons_succ, List.getElem_toArray, List.getElem_cons_succ, List.getElem_cons_zero]
        refine wpAnyH_take (i := 2) (v := ?v21) rfl (by kernel_rfl) (by kernel_rfl) (by kernel_rfl) (fun _ _ _ h => h) (Or.inl ⟨by rfl, ?hy21⟩) hHeld ?rest21
        case hy21 => (intro w' hSw; unfold PrS at hSw; go_simp; try with_reducible rfl)
        try simp only [Act.put, List.setIfInBounds_toArray, List.set_cons_zero, List.set_cons_succ, List.getElem_toArray, List.getElem_cons_succ, List.getElem_cons_zero]
        refine wpAnyH_take (i := 3) (v := ?v22) rfl (by kernel_rfl) (by kernel_rfl) (by kernel_rfl) (fun _ _ _ h => h) (Or.inl ⟨by rfl, ?hy22⟩) hHeld ?rest22
        case hy22 => (intro w' hSw; unfold PrS at hSw; go_simp; try with_reducible rfl)
        try simp only [Act.put, List.setIfInBounds_toArray, List.set_cons_zero, List.set_cons_succ, List.getElem_toArray, List.getElem_cons_succ, List.getElem_cons_zero]
        refine wpAnyH_take (i := 4) (v := ?v23) rfl (by kernel_rfl) (by kernel_rfl) (by kernel_rfl) (fun _ _ _ h => h) (Or.inl ⟨by rfl, ?hy23⟩) hHeld ?rest23
        case hy23 => (intro w' hSw; unfold PrS at hSw; go_simp; try with_reducible rfl)
        try simp only [Act.put, List.setIfInBounds_toArray, List.set_cons_zero, List.set_cons_succ, List.getElem_toArray, List.getElem_cons_succ, List.getElem_cons_zero]
        refine wpAnyH_ready (rs := [5]) (by kernel_rfl) (by simp) ?_
        refine AllReadyH.cons rfl (fun K hK => ?_) AllReadyH.nil
        go_simp
        go_at_call 95
        refine Calls.mono (by with_reducible exact P3.out _) ?_
        rintro e W2 ⟨rfl, hb⟩
        go_wp2_with fail
        have hBe : Below W.heap.size W W2 := (Below.refl _ _).drew.trans hb
        refine hK.out _ _ (PrS.later HPW.out hBe) (fun hHeld2 => ?_)
        have r2 := row_below hBe (by omega) HRW.out
        have zE := hBe.size
        clear hK K hb hHeld
        have hHeld := hHeld2
        clear hHeld2
        try simp only [Act.put, List.setIfInBounds_toArray, List.set_cons_zero, List.set_cons_succ, List.getElem_toArray, List.getElem_cons_succ, List.getElem_cons_zero]
        refine wpAnyH_take (i := 6) (v := ?v24) rfl (by kernel_rfl) (by kernel_rfl) (by kernel_rfl) (fun _ _ _ h => h) (Or.inl ⟨by rfl, ?hy24⟩) hHeld ?rest24
        case hy24 => (intro w' hSw; unfold PrS at hSw; go_simp; try with_reducible rfl)
        try simp only [Act.put, List.setIfInBounds_toArray, List.set_cons_zero, List.set_cons_succ, List.getElem_toArray, List.getElem_cons_succ, List.getElem_cons_zero]
        obtain ⟨cx, fx⟩ := cells_of_heap r2
        refine wpAnyH_ready (rs := [7]) (by kernel_rfl) (by simp) ?_
        refine AllReadyH.cons rfl (fun K hK => ?_) AllReadyH.nil
        go_simp
        refine hK.out _ _ (hHeld.set w1.heap.size 3 _ (by omega) (by have := HG.out; omega)) (fun hHeld2 => ?_)
        clear hK K hHeld hHeld2 cx fx
        try simp only [Act.put, List.setIfInBounds_toArray, List.set_cons_zero, List.set_cons_succ, List.getElem_toArray, List.getElem_cons_succ, List.getElem_cons_zero]
        have r3 : (W2.setCell ⟨w1.heap.size, 3, none⟩ (.string ⟨f3.toArray⟩)).heap[w1.heap.size]? = some (.cells #[.string ⟨f0.toArray⟩, .string ⟨f1.toArray⟩, .string ⟨f2.toArray⟩, .string ⟨f3.toArray⟩, .string ⟨#[]⟩] 127 (0, 0)) := row_set (i := 3) (.string ⟨f3.toArray⟩) r2
        have hB3 := (HW.out.trans (hBe.mono (by omega))).setCell (p := ⟨w1.heap.size, 3, none⟩) (by show w.heap.size ≤ w1.heap.size; omega) (.string ⟨f3.toArray⟩)
        generalize W2.setCell ⟨w1.heap.size, 3, none⟩ (.string ⟨f3.toArray⟩) = V at *
        have HB3 := Lib.hid hB3
        have HR3 := Lib.hid r3
        obtain ⟨cv, _⟩ := cells_of_heap r3
        have cv3 := cv 3
        clear hBe r2 r3 hB3 cv
        refine wpAnyH_done (by kernel_rfl) ?_ _
        by_cases he : f3 = []
        · have HE := Lib.hid (E3.out he)
          subst he
          go_wp2_with fail
          go_ret
          exact ⟨by rw [HE.out]; rfl, HB3.out⟩
        · have he1 : (f3 == []) = false := by simpa using he
          have he2 : f3.isEmpty = false := by simpa using he
          have HE := Lib.hid he
          clear he
          go_wp2_with fail
          exact ⟨⟨4, by decide, rfl, HB3, HR3, Lib.hid (by have := HNE.out; have := HE.out; simp_all)⟩, by simp [intOf]⟩
      · have hrow : wr.heap[w1.heap.size]? = some (.cells #[.string ⟨f0.toArray⟩, .string ⟨f1.toArray⟩, .string ⟨f2.toArray⟩, .string ⟨f3.toArray⟩, .string ⟨#[]⟩] 127 (0, 0)) := HROW.out
        have hB := HB.out
        have zr := hB.size
        have hlt := (Array.getElem?_eq_some_iff.1 hrow).1
        have hA : Below wr.heap.size wr (wr.alloc (.cells #[.int .u64 we, .bool aw] 129)) := below_alloc _ _
        have hsc := (HT.out.later hB).later hA
        have hrowW := heap_old (.cells #[.int .u64 we, .bool aw] 129) hlt hrow
        obtain ⟨cm, _⟩ := cells_of_heap (heap_new wr (.cells #[.int .u64 we, .bool aw] 129))
        have hP : PrS wr.heap.size 12 we aw 0 6 7 (wr.alloc (.cells #[.int .u64 we, .bool aw] 129)) := ⟨cm 0, cm 1, hsc 12 (by decide), hsc 13 (by decide), hsc 14 (by decide)⟩
        have HW := Lib.hid (hB.trans (hA.mono zr))
        have HRW := Lib.hid hrowW
        have HPW := Lib.hid hP
        have hzw : (wr.alloc (.cells #[.int .u64 we, .bool aw] 129)).heap.size = wr.heap.size + 1 := by simp
        clear hrow hB hA hsc hrowW cm hP
        have ix : ∀ w : World, (Instr.index 130 (.agg #[.int .u64 mi, .bool x0, .int .u64 ho, .bool x1, .int .u64 da, .bool ad, .int .u64 mo, .bool x3, .int .u64 we, .bool aw]) (.int .i64 4)).run Tryz.prog w = .ok (.agg #[.int .u64 we, .bool aw]) w := fun _ => by kernel_rfl
        go_wp2_with fail
        clear ix
        generalize wr.alloc (.cells #[.int .u64 we, .bool aw] 129) = W at *
        refine wp_region_held_drew (S := PrS wr.heap.size 12 we aw 0 6 7) hmx HPW.out (fun hHeld => ?_)
        refine wpAnyH_take (i := 0) (v := ?v25) rfl (by kernel_rfl) (by kernel_rfl) (by kernel_rfl) (fun _ _ _ h => h) (Or.inl ⟨by rfl, ?hy25⟩) hHeld ?rest25
        case hy25 => (intro w' hSw; unfold PrS at hSw; go_simp; try with_reducible rfl)
        try simp only [Act.put, List.setIfInBounds_toArray, List.set_cons_zero, List.set_cons_succ, List.getElem_toArray, List.getElem_cons_succ, List.getElem_cons_zero]
        refine wpAnyH_take (i := 1) (v := ?v26) rfl (by kernel_rfl) (by kernel_rfl) (by kernel_rfl) (fun _ _ _ h => h) (Or.inl ⟨by rfl, ?hy26⟩) hHeld ?rest26
        case hy26 => (intro w' hSw; unfold PrS at hSw; go_simp; try with_reducible rfl)
        try simp only [Act.put, List.setIfInBounds_toArray, List.set_cons_zero, List.set_cons_succ, List.getElem_toArray, List.getElem_cons_succ, List.getElem_cons_zero]
        refine wpAnyH_take (i := 2) (v := ?v27) rfl (by kernel_rfl) (by kernel_rfl) (by kernel_rfl) (fun _ _ _ h => h) (Or.inl ⟨by rfl, ?hy27⟩) hHeld ?rest27
        case hy27 => (intro w' hSw; unfold PrS at hSw; go_simp; try with_reducible rfl)
        try simp only [Act.put, List.setIfInBounds_toArray, List.set_cons_zero, List.set_cons_succ, List.getElem_toArray, List.getElem_cons_succ, List.getElem_cons_zero]
        refine wpAnyH_take (i := 3) (v := ?v28) rfl (by kernel_rfl) (by kernel_rfl) (by kernel_rfl) (fun _ _ _ h => h) (Or.inl ⟨by rfl, ?hy28⟩) hHeld ?rest28
        case hy28 => (intro w' hSw; unfold PrS at hSw; go_simp; try with_reducible rfl)
        try simp only [Act.put, List.setIfInBounds_toArray, List.set_cons_zero, List.set_cons_succ, List.getElem_toArray, List.getElem_cons_succ, List.getElem_cons_zero]
        refine wpAnyH_take (i := 4) (v := ?v29) rfl (by kernel_rfl) (by kernel_rfl) (by kernel_rfl) (fun _ _ _ h => h) (Or.inl ⟨by rfl, ?hy29⟩) hHeld ?rest29
        case hy29 => (intro w' hSw; unfold PrS at hSw; go_simp; try with_reducible rfl)
        try simp only [Act.put, List.setIfInBounds_toArray, List.set_cons_zero, List.set_cons_succ, List.getElem_toArray, List.getElem_cons_succ, List.getElem_cons_zero]
        refine wpAnyH_ready (rs := [5]) (by kernel_rfl) (by simp) ?_
        refine AllReadyH.cons rfl (fun K hK => ?_) AllReadyH.nil
        go_simp
        go_at_call 95
        refine Calls.mono (by with_reducible exact P4.out _) ?_
        rintro e W2 ⟨rfl, hb⟩
        go_wp2_with fail
        have hBe : Below W.heap.size W W2 := (Below.refl _ _).drew.trans hb
        refine hK.out _ _ (PrS.later HPW.out hBe) (fun hHeld2 => ?_)
        have r2 := row_below hBe (by omega) HRW.out
        have zE := hBe.size
        clear hK K hb hHeld
        have hHeld := hHeld2
        clear hHeld2
        try simp only [Act.put, List.setIfInBounds_toArray, List.set_cons_zero, List.set_cons_succ, List.getElem_toArray, List.getElem_cons_succ, List.getElem_cons_zero]
        refine wpAnyH_take (i := 6) (v := ?v30) rfl (by kernel_rfl) (by kernel_rfl) (by kernel_rfl) (fun _ _ _ h => h) (Or.inl ⟨by rfl, ?hy30⟩) hHeld ?rest30
        case hy30 => (intro w' hSw; unfold PrS at hSw; go_simp; try with_reducible rfl)
        try simp only [Act.put, List.setIfInBounds_toArray, List.set_cons_zero, List.set_cons_succ, List.getElem_toArray, List.getElem_cons_succ, List.getElem_cons_zero]
        obtain ⟨cx, fx⟩ := cells_of_heap r2
        refine wpAnyH_ready (rs := [7]) (by kernel_rfl) (by simp) ?_
        refine AllReadyH.cons rfl (fun K hK => ?_) AllReadyH.nil
        go_simp
        refine hK.out _ _ (hHeld.set w1.heap.size 4 _ (by omega) (by have := HG.out; omega)) (fun hHeld2 => ?_)
        clear hK K hHeld hHeld2 cx fx
        try simp only [Act.put, List.setIfInBounds_toArray, List.set_cons_zero, List.set_cons_succ, List.getElem_toArray, List.getElem_cons_succ, List.getElem_cons_zero]
        have r3 : (W2.setCell ⟨w1.heap.size, 4, none⟩ (.string ⟨f4.toArray⟩)).heap[w1.heap.size]? = some (.cells #[.string ⟨f0.toArray⟩, .string ⟨f1.toArray⟩, .string ⟨f2.toArray⟩, .string ⟨f3.toArray⟩, .string ⟨f4.toArray⟩] 127 (0, 0)) := row_set (i := 4) (.string ⟨f4.toArray⟩) r2
        have hB3 := (HW.out.trans (hBe.mono (by omega))).setCell (p := ⟨w1.heap.size, 4, none⟩) (by show w.heap.size ≤ w1.heap.size; omega) (.string ⟨f4.toArray⟩)
        generalize W2.setCell ⟨w1.heap.size, 4, none⟩ (.string ⟨f4.toArray⟩) = V at *
        have HB3 := Lib.hid hB3
        have HR3 := Lib.hid r3
        obtain ⟨cv, _⟩ := cells_of_heap r3
        have cv4 := cv 4
        clear hBe r2 r3 hB3 cv
        refine wpAnyH_done (by kernel_rfl) ?_ _
        by_cases he : f4 = []
        · have HE := Lib.hid (E4.out he)
          subst he
          go_wp2_with fail
          go_ret
          exact ⟨by rw [HE.out]; rfl, HB3.out⟩
        · have he1 : (f4 == []) = false := by simpa using he
          have he2 : f4.isEmpty = false := by simpa using he
          have HE := Lib.hid he
          clear he
          go_wp2_with fail
          exact ⟨⟨5, by decide, rfl, HB3, HR3, Lib.hid (by have := HNE.out; have := HE.out; simp_all)⟩, by simp [intOf]⟩
      · have hk0 : k = 0 := by omega
        subst hk0
        have hne := HNE.out
        have HPE := Lib.hid (HPJ2.out (hne.1 (by decide)) (hne.2.1 (by decide)) (hne.2.2.1 (by decide)) (hne.2.2.2.1 (by decide)) (hne.2.2.2.2 (by decide)))
        have hrow : wr.heap[w1.heap.size]? = some (.cells #[.string ⟨f0.toArray⟩, .string ⟨f1.toArray⟩, .string ⟨f2.toArray⟩, .string ⟨f3.toArray⟩, .string ⟨f4.toArray⟩] 127 (0, 0)) := HROW.out
        have hlt := (Array.getElem?_eq_some_iff.1 hrow).1
        have HJ := Lib.hid (join_any w1.heap.size 0 5 [⟨f0.toArray⟩, ⟨f1.toArray⟩, ⟨f2.toArray⟩, ⟨f3.toArray⟩, ⟨f4.toArray⟩] ⟨#[32]⟩ wr (by
          intro j x hj
          rw [(cells_of_heap hrow).1]
          rcases j with _ | _ | _ | _ | _ | j <;> first | (simp at hj; done) | (simp at hj; subst hj; rfl)) hlt (by simp) (by simp) (by
            refine Nat.le_trans (join_le 300 [32] _ ?_) (by simp)
            intro x hx
            have := HL.out
            simp only [List.map_cons, List.map_nil, List.mem_cons, List.not_mem_nil, or_false] at hx
            rcases hx with rfl | rfl | rfl | rfl | rfl <;> simp <;> omega))
        simp only [List.map_cons, List.map_nil, List.length_cons, List.length_nil] at HJ
        clear hne hrow
        go_wp2_with ((go_at_call 96; refine Calls.mono (by exact HJ.out) ?_; rintro e w9 ⟨rfl, hb9⟩; have HB9 := Lib.hid (HB.out.trans (hb9.mono HB.out.size)); clear hb9))
        go_ret
        exact ⟨by rw [HPE.out]; rfl, HB9.out⟩
end Go.Proofs.YtnikhhbnbeljeaaGreatDoor
