/- Walks of package cron: the list of a field's values. -/
import Derived.Test.YtnikhhbnbeljeaaGreatDoorCivA
import Derived.Test.YtnikhhbnbeljeaaGreatDoorCroA
import Derived.Test.YtnikhhbnbeljeaaGreatDoorBase
import Derived.Test.YtnikhhbnbeljeaaGreatDoorCroN
import Derived.Test.YtnikhhbnbeljeaaGreatDoorJoin
import Derived.Test.YtnikhhbnbeljeaaGreatDoorShelf
import Derived.Test.YtnikhhbnbeljeaaGreatDoorProg
import Derived.PlainAid
import Derived.Lib.Bytealg
import Derived.WalkKit
import Derived.Handy
import Derived.ProofKit
import Derived.OpenShut
import Derived.Deep.DeepHandedRow
import Derived.Lib.Hide
import Derived.Laws.Tables
import Derived.Carry
import Derived.Deep.QuietTactic
import Derived.BigQuiet
import Derived.Outline
import Derived.Laws.ShiftsVar
import Derived.WalkSmall
import Derived.WalkSpells
import Derived.Lib.Strings
import Derived.Deep.Cut
import Derived.RangeFuncNested
import Derived.RangeFuncBound
import Derived.RangeFuncCalls
import Derived.RangeFuncLeaves
import Derived.RangeFuncFrom
import Derived.Shelf.Abstract
import Derived.Shelf.RegionOpen
import Derived.OwnWalkIn
import Derived.TacticsInMore
import Derived.LoopNIn
import Derived.LoopIn
import Derived.Laws.EntriesVeiled
import Derived.OrdersIn
import Derived.Deep.RegionHeld3
import Derived.Deep.MidRow
import Derived.Shelf.Strings.OnBuilder
import Derived.Lib.LaidTab
import Derived.Laws.BitsAllLaws
import Derived.Lib.ItoaNum
set_option linter.unusedSimpArgs false
set_option linter.unusedVariables false
namespace Go.Proofs.YtnikhhbnbeljeaaGreatDoor
open Go.ChangeShapes Go.WideShapes Go.ChangeAt Go.RowKit Go.Base Go.Cro Go.Civ

def itoT (v : Nat) : ByteArray := ⟨(Lib.decDigits v).toArray⟩
/-- The values of a set from lo on, n of them looked at. -/
def gotN (b : Int) (lo n : Nat) : List Nat := (List.range' lo n).filter fun v : Nat => hasB b (v : Int)
theorem gotN_succ (b : Int) (lo n : Nat) : gotN b lo (n + 1) = gotN b lo n ++ (if hasB b ((lo + n : Nat) : Int) then [lo + n] else []) := by
  unfold gotN
  rw [List.range'_concat, List.filter_append, Nat.one_mul]
  congr 1
  simp only [List.filter_cons, List.filter_nil]
theorem gotN_len (b : Int) (lo n : Nat) : (gotN b lo n).length ≤ n := by
  unfold gotN
  have := List.length_filter_le (fun v : Nat => hasB b (v : Int)) (List.range' lo n)
  simpa using this
theorem dec_len {v : Nat} (h : v < 100) : (Lib.decDigits v).length ≤ 2 := by
  unfold Lib.decDigits
  split
  · simp
  · rw [List.length_append]
    unfold Lib.decDigits
    rw [dif_pos (by omega)]
    simp
theorem gotN_mem {b : Int} {lo n v : Nat} (h : v ∈ gotN b lo n) : lo ≤ v ∧ v < lo + n := by
  unfold gotN at h
  have := (List.mem_filter.1 h).1
  simp [List.mem_range'] at this
  omega
/-- The text of a list. -/
def listT (b : Int) (lo hi : Nat) : List UInt8 := Lib.join ((gotN b lo (hi + 1 - lo)).map Lib.decDigits) [44]
theorem itoT_map (l : List Nat) : (l.map itoT).map (fun x : ByteArray => x.data.toList) = l.map Lib.decDigits := by
  rw [List.map_map]; congr 1
theorem listT_len {b : Int} {lo hi : Nat} (h : hi < 99) : (listT b lo hi).length ≤ 300 := by
  unfold listT
  refine Nat.le_trans (join_le 2 [44] _ ?_) ?_
  · intro x hx
    obtain ⟨v, hv, rfl⟩ := List.mem_map.1 hx
    have := gotN_mem hv
    exact dec_len (by omega)
  · have := gotN_len b lo (hi + 1 - lo)
    simp only [List.length_map, List.length_cons, List.length_nil]
    omega

set_option maxHeartbeats 3200000 in
set_option maxRecDepth 100000 in
theorem list_any (b said : Int) (lo hi : Nat) (h0 : lo ≤ hi) (hi62 : hi ≤ 62) (hb : 0 ≤ b) (hb' : b ≤ 18446744073709551615) (w : World) :
    Calls Tryz.prog 149 #[.int .u64 b, .agg #[.int .i64 lo, .int .i64 hi, .int .i64 said]] w fun e w' => e = .returned (.string ⟨(listT b lo hi).toArray⟩) ∧ Below w.heap.size w w' := by
  obtain ⟨i0, hinfo, hz0, hz1, hz2⟩ := info_parts (P := Tryz.prog) (e := 9) (z := .string ⟨#[]⟩) (size := 1) (bytes := 16) (by kernel_rfl)
  have hi9 : (hi : Int) ≤ 62 := by omega
  go_enter Tryz.func149, Tryz.ntmps149
  go_wp2_with fail
  have HB0 := Lib.hid (below_alloc w (.cells #[.int .i64 lo, .int .i64 hi, .int .i64 said] 134))
  have hx := heap_new w (.cells #[.int .i64 lo, .int .i64 hi, .int .i64 said] 134)
  have hz := (cells_of_heap hx).1 1
  have hsz : (w.alloc (.cells #[.int .i64 lo, .int .i64 hi, .int .i64 said] 134)).heap.size = w.heap.size + 1 := by simp
  clear hx
  generalize w.alloc (.cells #[.int .i64 lo, .int .i64 hi, .int .i64 said] 134) = W0 at *
  have HZ := Lib.hid hz
  clear hz
  go_loopw [5, 6] (fun v i wr => ∃ n : Nat, lo ≤ n ∧ n ≤ hi + 1 ∧ i = .int .i64 (n : Nat) ∧ wr.ownsRow (w.heap.size + 1) 9 1 v ((gotN b lo (n - lo)).map itoT).length (((gotN b lo (n - lo)).map itoT).map Value.string) ∧ Below (w.heap.size + 1) W0 wr) (fun _ i _ => hi + 1 - (intOf i).toNat)
  case atStart => exact ⟨lo, Nat.le_refl _, by omega, rfl, by rw [Nat.sub_self]; exact World.ownsRow_nil _ _ _ _, Below.refl _ _⟩
  case round =>
    obtain ⟨n, hln, hn, rfl, hown, hbl⟩ := hrel
    have c1 : wr.cell? ⟨w.heap.size, 1, none⟩ = some (.int .i64 hi) := (hbl.cell (by simp)).trans HZ.out
    have zr := hbl.size
    have hlen : ((gotN b lo (n - lo)).map itoT).length ≤ 63 := by rw [List.length_map]; have := gotN_len b lo (n - lo); omega
    have HBL := Lib.hid hbl
    clear hbl
    by_cases hle : n ≤ hi
    · have hle' : (n : Int) ≤ hi := by omega
      have hn0 : (0 : Int) ≤ n ∧ (n : Int) ≤ 62 := by omega
      have HA := Lib.hid (fun w => has_any b n w (by omega) (by omega) hb hb')
      have HI := Lib.hid (fun w => Tryz.strconv_Itoa_small n (by omega) w)
      have hsucc : gotN b lo (n + 1 - lo) = gotN b lo (n - lo) ++ (if hasB b (n : Int) then [n] else []) := by
        rw [show n + 1 - lo = (n - lo) + 1 by omega, gotN_succ, show lo + (n - lo) = n by omega]
      have HS := Lib.hid hsucc
      clear hsucc
      cases hh : hasB b (n : Int)
      · rw [hh] at HA HS
        have hs2 := HS.out
        simp only [Bool.false_eq_true, if_false, List.append_nil] at hs2
        have HO := Lib.hid hown
        have HS2 := Lib.hid hs2
        clear hs2 hown HS hh
        go_wp2_with ((go_at_call 202; refine (HA.out _).mono ?_; rintro e w9 ⟨rfl, rfl⟩))
        exact ⟨⟨n + 1, by omega, by omega, by go_num, by rw [HS2.out]; exact HO.out, HBL.out⟩, by simp [intOf]; omega⟩
      · rw [hh] at HA HS
        have hs2 := HS.out
        simp only [if_true] at hs2
        have HS2 := Lib.hid hs2
        clear hs2 HS hh
        have hc1 : ∀ (W : World) (a : Addr), W.cell? a = some (.string ⟨(Lib.decDigits n).toArray⟩) → ∀ (j : Nat) (u : Value), ([.string (itoT n)] : List Value)[j]? = some u → W.cell? (a.add j) = some u := by
          intro W a hW j u hj
          match j, hj with
          | 0, hj => simp at hj; subst hj; rw [show a.add 0 = a by simp [Addr.add]]; exact hW
        have HC1 := Lib.hid hc1
        clear hc1
        go_wp2_with (first | (go_at_call 202; refine (HA.out _).mono ?_; rintro e w9 ⟨rfl, rfl⟩) | (go_at_call 86; refine (HI.out _).mono ?_; rintro e w9 ⟨rfl, rfl⟩) | (at_builtin; refine wpList_append_own _ rfl (.tmp 18) (.tmp 21) 54 rfl (w.heap.size + 1) 9 i0 (.string ⟨#[]⟩) 1 16 Tryz.underlying54 hinfo hz0 hz1 hz2 rfl (by decide) _ _ _ rfl (hown.alloc _) _ 1 1 [.string (itoT n)] rfl rfl ?c1 ?c2 ?c3 ?c4 ?c5 ?_) | go_in)
        case c1 => exact HC1.out _ _ (by simp [go_sem])
        case c2 => intro u hu; simp at hu; subst hu; rfl
        case c3 => unfold maxLen; omega
        case c4 => omega
        case c5 => simp; omega
        intro v' w8 hown' hgrow _
        have hown2 : w8.ownsRow (w.heap.size + 1) 9 1 v' ((gotN b lo (n + 1 - lo)).map itoT).length (((gotN b lo (n + 1 - lo)).map itoT).map Value.string) := by
          rw [HS2.out]; simpa using hown'
        have HO := Lib.hid hown2
        have HB2 := Lib.hid ((HBL.out.alloc (by omega) _).grown hgrow (by simp; omega) (fun k hk => (hown.lt k hk).1))
        clear hown hown' hgrow hown2
        go_wp2
        exact ⟨⟨n + 1, by omega, by omega, by go_num, HO.out, HB2.out⟩, by simp [intOf]; omega⟩
    · have hnn : n = hi + 1 := by omega
      subst hnn
      have HL : Hid ((Lib.join (((gotN b lo (hi + 1 - lo)).map itoT).map (·.data.toList)) (⟨#[44]⟩ : ByteArray).data.toList) = listT b lo hi) := Lib.hid (by rw [itoT_map]; rfl)
      have HJ := Lib.hid (fun W v h => join_own (base := w.heap.size + 1) v ((gotN b lo (hi + 1 - lo)).map itoT) ⟨#[44]⟩ W h (by omega) (by rw [HL.out]; have := listT_len (b := b) (lo := lo) (hi := hi) (by omega); omega))
      have HO := Lib.hid hown
      clear hown
      go_wp2_with ((go_at_call 96; refine (HJ.out _ _ HO.out).mono ?_; rintro e w9 ⟨rfl, hb9⟩; rw [HL.out]; have HB9 := Lib.hid (HB0.out.trans ((HBL.out.mono (by omega)).trans (hb9.mono (by omega)))); clear hb9))
      go_ret
      exact ⟨rfl, HB9.out⟩
end Go.Proofs.YtnikhhbnbeljeaaGreatDoor
