/- The iterator over a set's members, on both ways. -/
import Derived.Test.YtnijneajlmgkjaaDoorNxtB
import Derived.Test.YtnijneajlmgkjaaDoorNxtBc
import Derived.RangeFuncNested
import Derived.RangeFuncBound
import Derived.RangeFuncCalls
import Derived.RangeFuncLeaves
import Derived.RangeFuncFrom
import Derived.Shelf.Abstract
import Derived.Shelf.RegionOpen
import Derived.OwnWalkIn
import Derived.TacticsInMore
import Derived.LoopNIn
import Derived.LoopIn
set_option linter.unusedSimpArgs false
set_option linter.unusedVariables false
namespace Go.Proofs.YtnijneajlmgkjaaDoor
open Go.ChangeShapes Go.WideShapes Go.ChangeAt Go.RowKit Go.Base Go.Civ Go.Nxt Go.Shelf
attribute [local go_sem] Oper.semAt_some

theorem clr_and {n v : Nat} (hn : n < 18446744073709551616) (hv : v < 64) : bits .andNot .u64 (n : Int) (IntKind.u64.wrap (2 ^ v)) = (clr n v : Nat) := by
  have hp : (2 : Nat) ^ v ≤ 2 ^ 63 := Nat.pow_le_pow_right (by decide) (by omega)
  have h1 : 1 ≤ (2 : Nat) ^ v := Nat.one_le_two_pow
  have e : IntKind.u64.wrap (2 ^ v) = ((2 ^ v : Nat) : Int) := by
    rw [IntKind.wrap_u64]
    have : ((2 : Int) ^ v) = ((2 ^ v : Nat) : Int) := by simp
    rw [this]; omega
  rw [e, u64_andNot_nat n _ hn (by omega)]; rfl

set_option maxRecDepth 100000 in
set_option maxHeartbeats 2000000 in
theorem each_fw (n : Nat) (hn : 1 ≤ n) (set : Nat) (hset : set < 18446744073709551616) (ps pw : Nat) (w : World) (h1 : ps < w.heap.size) (h2 : pw < w.heap.size)
    (cs : w.cell? ⟨ps, 0, none⟩ = some (.int .u64 set)) (cw : w.cell? ⟨pw, 1, none⟩ = some (.func (.func 44) #[] #[])) (hT : TzTab w) :
    SeqO Fence.wide n Tryd.prog 76 #[.pointer (some ⟨ps, 0, none⟩), .pointer (some ⟨pw, 0, none⟩)] (fun v : Nat => #[.int .i64 v])
      (fun k => k = pw ∨ k = 1) (vals true set) w := fun l J Jx W hWb hJ hJx hY h0 => by
  refine callsIn_of_wp Tryd.func76 rfl trivial ?_ rfl
  simp only [Tryd.ntmps76, List.size_toArray, List.length_cons, List.length_nil, Nat.reduceAdd, Nat.reduceSub, Array.replicate_succ, Array.replicate_zero, List.push_toArray, List.append_toArray, List.nil_append, List.cons_append]
  have hcs : W.cell? ⟨ps, 0, none⟩ = some (.int .u64 set) := by rw [hWb.cell h1]; exact cs
  have hcw : W.cell? ⟨pw, 1, none⟩ = some (.func (.func 44) #[] #[]) := by rw [hWb.cell h2]; exact cw
  have hTW : TzTab W := hT.later hWb
  clear cs cw hT
  gi_wp2
  gi_loopw [4, 5] (fun a b wr => ∃ (pre : List Nat) (rest : Nat), a = .int .u64 rest ∧ rest < 18446744073709551616 ∧ pre ++ vals true rest = vals true set ∧ J (fun _ => False) pre wr ∧ Moved (fun k => ¬ (k = pw ∨ k = 1)) W wr) (fun a _ _ => (vals true (intOf a).toNat).length)
  case atStart => exact ⟨[], set, rfl, hset, rfl, h0, Moved.refl _ _⟩
  case round =>
    obtain ⟨pre, rest, rfl, hr, hpre, hJs, hM⟩ := hrel
    by_cases hz : rest = 0
    · subst hz
      rw [vals_zero, List.append_nil] at hpre
      have HP := Lib.hid hpre
      have HJ := Lib.hid hJs
      clear hpre hJs hM
      gi_wp2
      go_end0
      exact ⟨⟨_, rfl⟩, .inl ⟨fun _ => False, fun _ h => h.elim, HP.out ▸ HJ.out⟩⟩
    · have hct : wr.cell? ⟨pw, 1, none⟩ = some (.func (.func 44) #[] #[]) := hM.cell hcw (fun h => h (.inl rfl))
      have hTr : TzTab wr := hTW.moved hM (fun h => h (.inr rfl))
      have hz' : ((rest : Int) == 0) = false := by simp; omega
      obtain ⟨v, hv⟩ : ∃ v, v = Lib.ctz 64 rest := ⟨_, rfl⟩
      have hE : Ext true rest v := hv ▸ ctz_ext hr hz
      have hstep := vals_step hr hE
      have hv64 : v < 64 := hE.1
      have hN := tz_any rest hr hz wr hTr
      rw [← hv] at hN
      obtain ⟨fn, tmps, assign, body, hy, hR⟩ := hY (fun _ => False) pre v wr (fun _ h => h.elim) hJs ⟨vals true (clr rest v), by rw [← hpre, hstep]; simp⟩
      have HN := Lib.hid hN
      have HR := Lib.hid hR
      have HS := Lib.hid hstep
      have HP := Lib.hid hpre
      have HM := Lib.hid hM
      have HA := Lib.hid (clr_and hr hv64)
      have HL := Lib.hid (clr_lt (v := v) hr)
      clear hN hR hstep hpre hM hv hE hJs hz hTr
      gi_wp2_with (refine ⟨trivial, ?_⟩; gi_at_call 44; refine (callsIn_wide.2 HN.out).mono ?_; rintro e w' ⟨rfl, rfl⟩)
      refine HR.out.mono ?_
      rintro e W3 ⟨(⟨rfl, hJ3⟩ | ⟨rfl, hJx3⟩), hM3⟩
      · have HJ3 := Lib.hid hJ3
        have HM3 := Lib.hid (HM.out.trans hM3 (fun k _ h => h.2))
        clear hJ3 hM3
        gi_wp2
        go_roundw
        case rel => exact ⟨pre ++ [v], clr rest v, by rw [HA.out], HL.out, by rw [← HP.out, HS.out]; simp, HJ3.out, HM3.out⟩
        case measure => rw [HA.out]; simp [intOf, HS.out]
      · have HJ3 := Lib.hid hJx3
        clear hJx3 hM3
        gi_wp2
        refine bodyPost_ret (results_none rfl _ _ _) rfl ?_
        exact ⟨⟨_, rfl⟩, .inr ⟨fun _ => False, pre ++ [v], fun _ h => h.elim, ⟨vals true (clr rest v), by rw [← HP.out, HS.out]; simp⟩, HJ3.out⟩⟩

set_option maxRecDepth 100000 in
set_option maxHeartbeats 2000000 in
theorem each_bw (n : Nat) (hn : 1 ≤ n) (set : Nat) (hset : set < 18446744073709551616) (ps pw : Nat) (w : World) (h1 : ps < w.heap.size) (h2 : pw < w.heap.size)
    (cs : w.cell? ⟨ps, 0, none⟩ = some (.int .u64 set)) (cw : w.cell? ⟨pw, 1, none⟩ = some (.func (.func 62) #[] #[])) (hT : TzTab w) :
    SeqO Fence.wide n Tryd.prog 76 #[.pointer (some ⟨ps, 0, none⟩), .pointer (some ⟨pw, 0, none⟩)] (fun v : Nat => #[.int .i64 v])
      (fun k => k = pw ∨ k = 1) (vals false set) w := fun l J Jx W hWb hJ hJx hY h0 => by
  refine callsIn_of_wp Tryd.func76 rfl trivial ?_ rfl
  simp only [Tryd.ntmps76, List.size_toArray, List.length_cons, List.length_nil, Nat.reduceAdd, Nat.reduceSub, Array.replicate_succ, Array.replicate_zero, List.push_toArray, List.append_toArray, List.nil_append, List.cons_append]
  have hcs : W.cell? ⟨ps, 0, none⟩ = some (.int .u64 set) := by rw [hWb.cell h1]; exact cs
  have hcw : W.cell? ⟨pw, 1, none⟩ = some (.func (.func 62) #[] #[]) := by rw [hWb.cell h2]; exact cw
  have hTW : TzTab W := hT.later hWb
  clear cs cw hT
  gi_wp2
  gi_loopw [4, 5] (fun a b wr => ∃ (pre : List Nat) (rest : Nat), a = .int .u64 rest ∧ rest < 18446744073709551616 ∧ pre ++ vals false rest = vals false set ∧ J (fun _ => False) pre wr ∧ Moved (fun k => ¬ (k = pw ∨ k = 1)) W wr) (fun a _ _ => (vals false (intOf a).toNat).length)
  case atStart => exact ⟨[], set, rfl, hset, rfl, h0, Moved.refl _ _⟩
  case round =>
    obtain ⟨pre, rest, rfl, hr, hpre, hJs, hM⟩ := hrel
    by_cases hz : rest = 0
    · subst hz
      rw [vals_zero, List.append_nil] at hpre
      have HP := Lib.hid hpre
      have HJ := Lib.hid hJs
      clear hpre hJs hM
      gi_wp2
      go_end0
      exact ⟨⟨_, rfl⟩, .inl ⟨fun _ => False, fun _ h => h.elim, HP.out ▸ HJ.out⟩⟩
    · have hct : wr.cell? ⟨pw, 1, none⟩ = some (.func (.func 62) #[] #[]) := hM.cell hcw (fun h => h (.inl rfl))
      have hTr : TzTab wr := hTW.moved hM (fun h => h (.inr rfl))
      have hz' : ((rest : Int) == 0) = false := by simp; omega
      obtain ⟨v, hv⟩ : ∃ v, v = rest.log2 := ⟨_, rfl⟩
      have hE : Ext false rest v := hv ▸ log_ext hr hz
      have hstep := vals_step hr hE
      have hv64 : v < 64 := hE.1
      have hN := bwNext_any rest hr hz wr
      rw [← hv] at hN
      obtain ⟨fn, tmps, assign, body, hy, hR⟩ := hY (fun _ => False) pre v wr (fun _ h => h.elim) hJs ⟨vals false (clr rest v), by rw [← hpre, hstep]; simp⟩
      have HN := Lib.hid hN
      have HR := Lib.hid hR
      have HS := Lib.hid hstep
      have HP := Lib.hid hpre
      have HM := Lib.hid hM
      have HA := Lib.hid (clr_and hr hv64)
      have HL := Lib.hid (clr_lt (v := v) hr)
      clear hN hR hstep hpre hM hv hE hJs hz hTr
      gi_wp2_with (refine ⟨trivial, ?_⟩; gi_at_call 62; refine (callsIn_wide.2 HN.out).mono ?_; rintro e w' ⟨rfl, rfl⟩)
      refine HR.out.mono ?_
      rintro e W3 ⟨(⟨rfl, hJ3⟩ | ⟨rfl, hJx3⟩), hM3⟩
      · have HJ3 := Lib.hid hJ3
        have HM3 := Lib.hid (HM.out.trans hM3 (fun k _ h => h.2))
        clear hJ3 hM3
        gi_wp2
        go_roundw
        case rel => exact ⟨pre ++ [v], clr rest v, by rw [HA.out], HL.out, by rw [← HP.out, HS.out]; simp, HJ3.out, HM3.out⟩
        case measure => rw [HA.out]; simp [intOf, HS.out]
      · have HJ3 := Lib.hid hJx3
        clear hJx3 hM3
        gi_wp2
        refine bodyPost_ret (results_none rfl _ _ _) rfl ?_
        exact ⟨⟨_, rfl⟩, .inr ⟨fun _ => False, pre ++ [v], fun _ h => h.elim, ⟨vals false (clr rest v), by rw [← HP.out, HS.out]; simp⟩, HJ3.out⟩⟩
end Go.Proofs.YtnijneajlmgkjaaDoor
