/- Walks of package cron: the text of a field. -/
import Derived.Test.YtnikhhbnbeljeaaGreatDoorCivA
import Derived.Test.YtnikhhbnbeljeaaGreatDoorCroA
import Derived.Test.YtnikhhbnbeljeaaGreatDoorBase
import Derived.Test.YtnikhhbnbeljeaaGreatDoorSmA
import Derived.Test.YtnikhhbnbeljeaaGreatDoorCroB
import Derived.Test.YtnikhhbnbeljeaaGreatDoorCroP
import Derived.Test.YtnikhhbnbeljeaaGreatDoorCroR
import Derived.Test.YtnikhhbnbeljeaaGreatDoorShelf
import Derived.Test.YtnikhhbnbeljeaaGreatDoorProg
import Derived.PlainAid
import Derived.Lib.Bytealg
import Derived.WalkKit
import Derived.Handy
import Derived.ProofKit
import Derived.OpenShut
import Derived.Deep.DeepHandedRow
import Derived.Lib.Hide
import Derived.Laws.Tables
import Derived.Carry
import Derived.Deep.QuietTactic
import Derived.BigQuiet
import Derived.Outline
import Derived.Laws.ShiftsVar
import Derived.WalkSmall
import Derived.WalkSpells
import Derived.Lib.Strings
import Derived.Deep.Cut
import Derived.RangeFuncNested
import Derived.RangeFuncBound
import Derived.RangeFuncCalls
import Derived.RangeFuncLeaves
import Derived.RangeFuncFrom
import Derived.Shelf.Abstract
import Derived.Shelf.RegionOpen
import Derived.OwnWalkIn
import Derived.TacticsInMore
import Derived.LoopNIn
import Derived.LoopIn
import Derived.Laws.EntriesVeiled
import Derived.OrdersIn
import Derived.Deep.RegionHeld3
import Derived.Deep.MidRow
import Derived.Shelf.Strings.OnBuilder
import Derived.Lib.LaidTab
import Derived.Laws.BitsAllLaws
import Derived.Lib.ItoaNum
set_option linter.unusedSimpArgs false
set_option linter.unusedVariables false
namespace Go.Proofs.YtnikhhbnbeljeaaGreatDoor
open Go.ChangeShapes Go.WideShapes Go.ChangeAt Go.RowKit Go.Base Go.Cro Go.Civ

/-- The least step by which a star gives just these values. -/
def stepFrom (b : Int) (s : Sc) : Nat → Nat → Option Nat
  | 0, _ => none
  | f + 1, n => if b == valsB s s.least s.most n then some n else stepFrom b s f (n + 1)
/-- The text of a field. -/
def oneT (b : Int) (st : Bool) (s : Sc) : List UInt8 :=
  if st then (if b == allB s then [42] else match stepFrom b s 98 2 with
    | some n => [42, 47] ++ Lib.decDigits n
    | none => []) else listT b s.least.toNat s.most.toNat
theorem stepFrom_lt {b : Int} {s : Sc} : ∀ {f n m : Nat}, stepFrom b s f n = some m → n ≤ m ∧ m < n + f
  | 0, _, _, h => by cases h
  | f + 1, n, m, h => by
    unfold stepFrom at h
    split at h
    · cases h; omega
    · have := stepFrom_lt h; omega
theorem oneT_len {b : Int} {st : Bool} {s : Sc} (h : s.most < 99) : (oneT b st s).length ≤ 300 := by
  unfold oneT
  split
  · split
    · simp
    · split
      · rename_i n hn
        have := dec_len (v := n) (by have := stepFrom_lt hn; omega)
        simp only [List.length_append, List.length_cons, List.length_nil]; omega
      · simp
  · exact listT_len (by omega)

/-- What the comparisons of a field read. -/
abbrev PfS (g : Nat) (b : Int) (st : Bool) (least most said : Int) (W w' : World) : Prop :=
  w'.cell? ⟨g, 0, none⟩ = some (.int .u64 b) ∧ w'.cell? ⟨g, 1, none⟩ = some (.bool st) ∧ w'.cell? ⟨g + 1, 0, none⟩ = some (.int .i64 least) ∧ w'.cell? ⟨g + 1, 1, none⟩ = some (.int .i64 most) ∧ w'.cell? ⟨g + 1, 2, none⟩ = some (.int .i64 said) ∧ Below W.heap.size W w'
theorem PfS.later {g : Nat} {b : Int} {st : Bool} {least most said : Int} {W V : World} (h : PfS g b st least most said W W) (hb : Below W.heap.size W V) : PfS g b st least most said W V := by
  obtain ⟨h1, h2, h3, h4, h5, _⟩ := h
  exact ⟨(hb.cell (World.block_lt_of_cell? _ _ h1)).trans h1, (hb.cell (World.block_lt_of_cell? _ _ h2)).trans h2, (hb.cell (World.block_lt_of_cell? _ _ h3)).trans h3, (hb.cell (World.block_lt_of_cell? _ _ h4)).trans h4, (hb.cell (World.block_lt_of_cell? _ _ h5)).trans h5, hb⟩

set_option maxHeartbeats 3200000 in
set_option maxRecDepth 100000 in
theorem printField_any (b said : Int) (st : Bool) (lo hi : Nat) (hlo : lo ≤ 1) (hlh : lo ≤ hi) (hhi : hi ≤ 59) (hs : ScOk ⟨lo, hi, said⟩) (hb : 0 ≤ b) (hb' : b ≤ 18446744073709551615) (w : World) :
    Calls Tryz.prog 95 #[.agg #[.int .u64 b, .bool st], .agg #[.int .i64 lo, .int .i64 hi, .int .i64 said]] w fun e w' => e = .returned (.string ⟨(oneT b st ⟨lo, hi, said⟩).toArray⟩) ∧ Below w.heap.size w w' := by
  have HL := Lib.hid (fun w => list_any b said lo hi hlh (by omega) hb hb' w)
  have HA := Lib.hid (fun w => all_any ⟨lo, hi, said⟩ hs w)
  have HV := Lib.hid (fun (n : Nat) (hn : 2 ≤ n ∧ n ≤ 99) w => values_any ⟨lo, hi, said⟩ lo hi n w (by omega) (by omega) (by omega) (by omega) (by show (0 : Int) ≤ lo; omega) (by show (lo : Int) ≤ 1; omega) (by show (hi : Int) ≤ 59; omega) (by show (0 : Int) ≤ hi; omega) (by omega))
  have HT0 : Hid (oneT b false ⟨lo, hi, said⟩ = listT b lo hi) := Lib.hid (by unfold oneT; simp)
  have HT1 : Hid (oneT b true ⟨lo, hi, said⟩ = if b == allB ⟨lo, hi, said⟩ then [42] else match stepFrom b ⟨lo, hi, said⟩ 98 2 with | some n => [42, 47] ++ Lib.decDigits n | none => []) := Lib.hid (by unfold oneT; simp)
  generalize allB ⟨lo, hi, said⟩ = A at HA HT1
  have hW : ∀ W0 : World, W0 = (w.alloc (.cells #[.int .u64 b, .bool st] 129)).alloc (.cells #[.int .i64 lo, .int .i64 hi, .int .i64 said] 134) → Below w.heap.size w W0 ∧ W0.heap.size = w.heap.size + 2 ∧ PfS w.heap.size b st lo hi said W0 W0 := by
    rintro W0 rfl
    obtain ⟨f1, _⟩ := cells_of_heap (heap_old (.cells #[.int .i64 lo, .int .i64 hi, .int .i64 said] 134) (by simp) (heap_new w (.cells #[.int .u64 b, .bool st] 129)))
    have h2 := heap_new (w.alloc (.cells #[.int .u64 b, .bool st] 129)) (.cells #[.int .i64 lo, .int .i64 hi, .int .i64 said] 134)
    simp only [World.size_alloc] at h2
    obtain ⟨f2, _⟩ := cells_of_heap h2
    exact ⟨(below_alloc w _).alloc (by simp) _, by simp, f1 0, f1 1, f2 0, f2 1, f2 2, Below.refl _ _⟩
  clear hs
  go_enter Tryz.func95, Tryz.ntmps95
  obtain ⟨W0, hW0⟩ : ∃ W0, W0 = (w.alloc (.cells #[.int .u64 b, .bool st] 129)).alloc (.cells #[.int .i64 lo, .int .i64 hi, .int .i64 said] 134) := ⟨_, rfl⟩
  obtain ⟨hB0, hz0, hP⟩ := hW W0 hW0
  have HB0 := Lib.hid hB0
  have hS0 := Lib.hid (fun (V : World) (hb : Below W0.heap.size W0 V) => PfS.later hP hb)
  have HP := Lib.hid hP
  have hmx : Tryz.prog.follows .mixedOrders = true := by kernel_rfl
  clear hW hB0
  cases st
  · have h1 := hP.2.1; have h0 := hP.1; have h2 := hP.2.2.1; have h3 := hP.2.2.2.1; have h4 := hP.2.2.2.2.1
    clear hP
    have HW := Lib.hid hW0
    go_wp2_with fail
    refine (HL.out _).mono ?_
    rintro e w9 ⟨rfl, hb9⟩
    have hb := HB0.out.trans (hW0 ▸ hb9.mono (by simp; omega))
    have HB9 := Lib.hid hb
    clear hb9 hb hW0
    go_wp2_with fail
    go_ret
    exact ⟨by rw [HT0.out]; rfl, HB9.out⟩
  · clear hP
    go_wp2_with fail
    rw [← hW0]
    clear hW0
    refine wp_region_held_drew (S := PfS w.heap.size b true lo hi said W0) hmx (hS0.out _ (Below.refl _ _).drew) (fun hHeld => ?_)
    refine wpAnyH_take (i := 0) (v := ?v1) rfl (by kernel_rfl) (by kernel_rfl) (by kernel_rfl) (fun _ _ _ h => h) (Or.inl ⟨by rfl, ?hy1⟩) hHeld ?rest1
    case hy1 => (intro w' hSw; unfold PfS at hSw; go_simp; try with_reducible rfl)
    try simp only [Act.put, List.setIfInBounds_toArray, List.set_cons_zero, List.set_cons_succ, List.getElem_toArray, List.getElem_cons_succ, List.getElem_cons_zero]
    refine wpAnyH_take (i := 1) (v := ?v2) rfl (by kernel_rfl) (by kernel_rfl) (by kernel_rfl) (fun _ _ _ h => h) (Or.inl ⟨by rfl, ?hy2⟩) hHeld ?rest2
    case hy2 => (intro w' hSw; unfold PfS at hSw; go_simp; try with_reducible rfl)
    try simp only [Act.put, List.setIfInBounds_toArray, List.set_cons_zero, List.set_cons_succ, List.getElem_toArray, List.getElem_cons_succ, List.getElem_cons_zero]
    refine wpAnyH_take (i := 2) (v := ?v3) rfl (by kernel_rfl) (by kernel_rfl) (by kernel_rfl) (fun _ _ _ h => h) (Or.inl ⟨by rfl, ?hy3⟩) hHeld ?rest3
    case hy3 => (intro w' hSw; unfold PfS at hSw; go_simp; try with_reducible rfl)
    try simp only [Act.put, List.setIfInBounds_toArray, List.set_cons_zero, List.set_cons_succ, List.getElem_toArray, List.getElem_cons_succ, List.getElem_cons_zero]
    refine wpAnyH_ready (rs := [3]) (by kernel_rfl) (by simp) ?_
    refine AllReadyH.cons rfl (fun K hK => ?_) AllReadyH.nil
    go_simp
    go_at_call 148
    refine Calls.mono (by with_reducible exact (HA).out _) ?_
    rintro e W2 ⟨rfl, hb⟩
    go_wp2_with fail
    have hBe := hHeld.2.2.2.2.2.trans (hb.mono hHeld.2.2.2.2.2.size)
    refine hK.out _ _ (hS0.out _ hBe) (fun hHeld2 => ?_)
    clear hK K hb hHeld
    have hHeld := hHeld2
    clear hHeld2
    try simp only [Act.put, List.setIfInBounds_toArray, List.set_cons_zero, List.set_cons_succ, List.getElem_toArray, List.getElem_cons_succ, List.getElem_cons_zero]
    refine wpAnyH_take (i := 4) (v := ?v4) rfl (by kernel_rfl) (by kernel_rfl) (by kernel_rfl) (fun _ _ _ h => h) (Or.inl ⟨by rfl, ?hy4⟩) hHeld ?rest4
    case hy4 => (intro w' hSw; unfold PfS at hSw; go_simp; try with_reducible rfl)
    try simp only [Act.put, List.setIfInBounds_toArray, List.set_cons_zero, List.set_cons_succ, List.getElem_toArray, List.getElem_cons_succ, List.getElem_cons_zero]
    refine wpAnyH_done (by kernel_rfl) ?_ _
    have HBe := Lib.hid hBe
    clear hHeld hBe
    cases hq : (b == A)
    · rw [hq] at HT1
      have HT2 := Lib.hid HT1.out
      simp only [Bool.false_eq_true, if_false] at HT2
      clear hq HT1
      go_wp2_with fail
      go_loopw [5] (fun i wr => ∃ n : Nat, 2 ≤ n ∧ n ≤ 100 ∧ i = .int .i64 n ∧ Hid (Below W0.heap.size W0 wr) ∧ Hid (stepFrom b ⟨lo, hi, said⟩ (100 - n) n = stepFrom b ⟨lo, hi, said⟩ 98 2)) (fun i _ => 100 - (intOf i).toNat)
      case atStart => exact ⟨2, by decide, by decide, rfl, HBe, rfl⟩
      case round =>
        obtain ⟨n, hn2, hn, rfl, HBr, HF⟩ := hrel
        have hS1 := Lib.hid (fun (V : World) (hb : Below wr.heap.size wr V) => hS0.out V (HBr.out.trans (hb.mono HBr.out.size)))
        by_cases hle : n ≤ 99
        · have hle' : (n : Int) ≤ 99 := by omega
          have hstep : stepFrom b ⟨lo, hi, said⟩ (100 - n) n = if b == valsB ⟨lo, hi, said⟩ lo hi n then some n else stepFrom b ⟨lo, hi, said⟩ (100 - (n + 1)) (n + 1) := by
            rw [show 100 - n = (100 - (n + 1)) + 1 by omega]; rfl
          have HST := Lib.hid hstep
          have HVn := Lib.hid (HV.out n ⟨hn2, hle⟩)
          clear hstep
          generalize valsB ⟨lo, hi, said⟩ lo hi n = X at HST HVn
          go_wp2_with fail
          refine wp_region_held_drew (S := PfS w.heap.size b true lo hi said W0) hmx (hS1.out _ (Below.refl _ _).drew) (fun hHeld => ?_)
          refine wpAnyH_take (i := 0) (v := ?v5) rfl (by kernel_rfl) (by kernel_rfl) (by kernel_rfl) (fun _ _ _ h => h) (Or.inl ⟨by rfl, ?hy5⟩) hHeld ?rest5
          case hy5 => (intro w' hSw; unfold PfS at hSw; go_simp; try with_reducible rfl)
          try simp only [Act.put, List.setIfInBounds_toArray, List.set_cons_zero, List.set_cons_succ, List.getElem_toArray, List.getElem_cons_succ, List.getElem_cons_zero]
          refine wpAnyH_take (i := 1) (v := ?v6) rfl (by kernel_rfl) (by kernel_rfl) (by kernel_rfl) (fun _ _ _ h => h) (Or.inl ⟨by rfl, ?hy6⟩) hHeld ?rest6
          case hy6 => (intro w' hSw; unfold PfS at hSw; go_simp; try with_reducible rfl)
          try simp only [Act.put, List.setIfInBounds_toArray, List.set_cons_zero, List.set_cons_succ, List.getElem_toArray, List.getElem_cons_succ, List.getElem_cons_zero]
          refine wpAnyH_take (i := 2) (v := ?v7) rfl (by kernel_rfl) (by kernel_rfl) (by kernel_rfl) (fun _ _ _ h => h) (Or.inl ⟨by rfl, ?hy7⟩) hHeld ?rest7
          case hy7 => (intro w' hSw; unfold PfS at hSw; go_simp; try with_reducible rfl)
          try simp only [Act.put, List.setIfInBounds_toArray, List.set_cons_zero, List.set_cons_succ, List.getElem_toArray, List.getElem_cons_succ, List.getElem_cons_zero]
          refine wpAnyH_take (i := 3) (v := ?v8) rfl (by kernel_rfl) (by kernel_rfl) (by kernel_rfl) (fun _ _ _ h => h) (Or.inl ⟨by rfl, ?hy8⟩) hHeld ?rest8
          case hy8 => (intro w' hSw; unfold PfS at hSw; go_simp; try with_reducible rfl)
          try simp only [Act.put, List.setIfInBounds_toArray, List.set_cons_zero, List.set_cons_succ, List.getElem_toArray, List.getElem_cons_succ, List.getElem_cons_zero]
          refine wpAnyH_take (i := 4) (v := ?v9) rfl (by kernel_rfl) (by kernel_rfl) (by kernel_rfl) (fun _ _ _ h => h) (Or.inl ⟨by rfl, ?hy9⟩) hHeld ?rest9
          case hy9 => (intro w' hSw; unfold PfS at hSw; go_simp; try with_reducible rfl)
          try simp only [Act.put, List.setIfInBounds_toArray, List.set_cons_zero, List.set_cons_succ, List.getElem_toArray, List.getElem_cons_succ, List.getElem_cons_zero]
          refine wpAnyH_take (i := 5) (v := ?v10) rfl (by kernel_rfl) (by kernel_rfl) (by kernel_rfl) (fun _ _ _ h => h) (Or.inl ⟨by rfl, ?hy10⟩) hHeld ?rest10
          case hy10 => (intro w' hSw; unfold PfS at hSw; go_simp; try with_reducible rfl)
          try simp only [Act.put, List.setIfInBounds_toArray, List.set_cons_zero, List.set_cons_succ, List.getElem_toArray, List.getElem_cons_succ, List.getElem_cons_zero]
          refine wpAnyH_take (i := 6) (v := ?v11) rfl (by kernel_rfl) (by kernel_rfl) (by kernel_rfl) (fun _ _ _ h => h) (Or.inl ⟨by rfl, ?hy11⟩) hHeld ?rest11
          case hy11 => (intro w' hSw; unfold PfS at hSw; go_simp; try with_reducible rfl)
          try simp only [Act.put, List.setIfInBounds_toArray, List.set_cons_zero, List.set_cons_succ, List.getElem_toArray, List.getElem_cons_succ, List.getElem_cons_zero]
          refine wpAnyH_take (i := 7) (v := ?v12) rfl (by kernel_rfl) (by kernel_rfl) (by kernel_rfl) (fun _ _ _ h => h) (Or.inl ⟨by rfl, ?hy12⟩) hHeld ?rest12
          case hy12 => (intro w' hSw; unfold PfS at hSw; go_simp; try with_reducible rfl)
          try simp only [Act.put, List.setIfInBounds_toArray, List.set_cons_zero, List.set_cons_succ, List.getElem_toArray, List.getElem_cons_succ, List.getElem_cons_zero]
          refine wpAnyH_ready (rs := [8]) (by kernel_rfl) (by simp) ?_
          refine AllReadyH.cons rfl (fun K hK => ?_) AllReadyH.nil
          go_simp
          go_at_call 150
          refine Calls.mono (by with_reducible exact HVn.out _) ?_
          rintro e W2 ⟨rfl, hb⟩
          go_wp2_with fail
          have hBe := hHeld.2.2.2.2.2.trans (hb.mono hHeld.2.2.2.2.2.size)
          refine hK.out _ _ (hS0.out _ hBe) (fun hHeld2 => ?_)
          clear hK K hb hHeld
          have hHeld := hHeld2
          clear hHeld2
          try simp only [Act.put, List.setIfInBounds_toArray, List.set_cons_zero, List.set_cons_succ, List.getElem_toArray, List.getElem_cons_succ, List.getElem_cons_zero]
          refine wpAnyH_take (i := 9) (v := ?v13) rfl (by kernel_rfl) (by kernel_rfl) (by kernel_rfl) (fun _ _ _ h => h) (Or.inl ⟨by rfl, ?hy13⟩) hHeld ?rest13
          case hy13 => (intro w' hSw; unfold PfS at hSw; go_simp; try with_reducible rfl)
          try simp only [Act.put, List.setIfInBounds_toArray, List.set_cons_zero, List.set_cons_succ, List.getElem_toArray, List.getElem_cons_succ, List.getElem_cons_zero]
          refine wpAnyH_done (by kernel_rfl) ?_ _
          have HB2 := Lib.hid hBe
          clear hHeld hBe
          cases hx : (b == X)
          · have hf := HF.out
            rw [HST.out, hx] at hf
            simp only [Bool.false_eq_true, if_false] at hf
            have HF2 := Lib.hid hf
            clear hf hx
            go_wp2_with fail
            exact ⟨⟨n + 1, by omega, by omega, by go_num, HB2, HF2⟩, by simp [intOf]; omega⟩
          · have hf := HF.out
            rw [HST.out, hx] at hf
            simp only [if_true] at hf
            rw [← hf] at HT2
            simp only at HT2
            have HT3 := Lib.hid HT2
            have HI := Lib.hid (fun w => Tryz.strconv_Itoa_small n (by omega) w)
            have hdl : (Lib.decDigits n).length ≤ 2 := dec_len (by omega)
            have hcat : ((⟨#[42, 47]⟩ : ByteArray) ++ (⟨(Lib.decDigits n).toArray⟩ : ByteArray)) = ⟨([42, 47] ++ Lib.decDigits n).toArray⟩ := by apply ByteArray.ext; simp
            have HC := Lib.hid hcat
            clear hcat
            clear hf hx HT2
            go_wp2_with ((go_at_call 86; refine (HI.out _).mono ?_; rintro e w9 ⟨rfl, rfl⟩))
            go_ret
            refine ⟨?_, HB0.out.trans (HB2.out.mono (by omega))⟩
            rw [HT3.out, ← HC.out]
            rfl
        · have hnn : n = 100 := by omega
          subst hnn
          have hf := HF.out
          rw [← hf] at HT2
          have HT3 : Hid (oneT b true ⟨lo, hi, said⟩ = []) := Lib.hid HT2
          clear hf HT2
          go_wp2_with fail
          go_ret
          exact ⟨by rw [HT3.out]; rfl, HB0.out.trans (HBr.out.mono (by omega))⟩
    · rw [hq] at HT1
      have HT2 := Lib.hid HT1.out
      simp only [if_true] at HT2
      clear hq HT1
      go_wp2_with fail
      go_ret
      exact ⟨by rw [HT2.out]; rfl, HB0.out.trans (HBe.out.mono (by omega))⟩
end Go.Proofs.YtnikhhbnbeljeaaGreatDoor
