/- Walks of package pack: lists of ints are packed. -/
import Derived.Test.YtnphmejmcnihoaaPakN
import Derived.Defers
import Derived.Recover
set_option linter.unusedSimpArgs false
set_option linter.unusedVariables false
namespace Go.Proofs.Ytnphmejmcnihoaa
open Go.ChangeShapes Go.WideShapes Go.ChangeAt Go.RowKit Go.Base Go.Pk

theorem catch_int (p : Addr) (w : World) :
    CallsD Try.prog 37 #[.pointer (some p)] .returning w fun e u' w' => e = .returned (.tuple #[]) ∧ u' = .returning ∧ w' = w := by
  refine callsD_of_wpS Try.func37 rfl fun c₀ cs hu => ?_
  apply wpS_seq
  apply wpS_region
  simp [wpOpsS, go_sem, recoverD, hu, Try.ntmps37, Exit.thenS]
  refine wpS_cond (t := false) (by simp [Act.eval, Array.replicate]) ?_
  simp only [Bool.false_eq_true, if_false]
  refine wpS_of_wp (wp_skip ?_)
  cases c₀
  simp_all [bodyPostS, results, Try.results37]

def putInts (s : Option (List UInt8)) (l : List Int) : Option (List UInt8) := l.foldl (fun s n => putB s (numB (whole n))) s
def putList (s : Option (List UInt8)) (l : List Int) : Option (List UInt8) := if 4096 < l.length then none else putInts (putB s (numB l.length)) l
theorem putInts_succ (s : Option (List UInt8)) (l : List Int) (k : Nat) (hk : k < l.length) : putInts s (l.take (k + 1)) = putB (putInts s (l.take k)) (numB (whole l[k])) := by
  unfold putInts
  rw [List.take_succ_eq_append_getElem hk, List.foldl_append]
  rfl
theorem Ints.at_ {w : World} {b o : Nat} {l : List Int} (h : Ints w (some ⟨b, o, none⟩) l) {i : Nat} (hi : i < l.length) : w.cell? ⟨b, o + i, none⟩ = some (.int .i64 l[i]) ∧ -9223372036854775808 ≤ l[i] ∧ l[i] ≤ 9223372036854775807 := by
  obtain ⟨b', o', e, h⟩ := h i hi
  injection e with e; injection e with e1 e2 _; subst e1; subst e2
  exact h

set_option maxHeartbeats 4000000 in
theorem putList_int (B : Nat) (s : Option (List UInt8)) (row : Option Nat) (A : Option Addr) (l : List Int) (c : Nat) (w : World) (h : Pak w B s row) (hi : Ints w A l) (hm : l.length ≤ maxLen)
    (hA : ∀ b o, A = some ⟨b, o, none⟩ → 0 < l.length → b ≠ B ∧ row ≠ some b) :
    Calls Try.prog 20 #[.pointer (some ⟨B, 0, none⟩), .slice A l.length c, .func (.func 14) #[] #[]] w fun e w' => e = .returned (.tuple #[]) ∧ PakPost w B row (putList s l) w' := by
  have hmf : ∀ (fn : Fn) (first cap : Array Value) (w : World), (Instr.makeFunc fn first cap).run Try.prog w = .ok (.func fn first cap) w := fun _ _ _ _ => rfl
  have HP := Lib.hid h
  have HI := Lib.hid hi
  have HA := Lib.hid hA
  unfold maxLen at hm
  have hm' : (l.length : Int) ≤ 9223372036854775807 := by omega
  clear h hi hA hm
  by_cases h4 : 4096 < l.length
  · have h4' : (4096 : Int) < (l.length : Int) := by omega
    have HL : Hid (putList s l = none) := Lib.hid (by unfold putList; rw [if_pos h4])
    go_enter_defers Try.func20, Try.ntmps20
    go_wp2_with (go_at_call 36; refine (fail_any B s row _ (HP.out.later (below_alloc _ _))).mono ?_; rintro e w1 ⟨rfl, hp⟩; have HQ := Lib.hid (PakPost.later (below_alloc _ _) hp); clear hp)
    simp [bodyPostD, Leaves, settle, results, Try.results20, go_sem]
    rw [HL.out]
    exact HQ.out
  · have h4' : (l.length : Int) ≤ 4096 := by omega
    have HL : Hid (putList s l = putInts (putB s (numB l.length)) l) := Lib.hid (by unfold putList; rw [if_neg h4])
    go_enter_defers Try.func20, Try.ntmps20
    go_wp2_with (go_at_call 11; refine (number_any B s row l.length _ (HP.out.later (below_alloc _ _)) (by omega)).mono ?_; rintro e w1 ⟨rfl, hp⟩; have HQ := Lib.hid hp; clear hp)
    go_loopw [23] (fun i wr => ∃ k : Nat, k ≤ l.length ∧ i = .int .i64 (k : Int) ∧ PakPost (w.alloc (.cells #[.pointer (some ⟨B, 0, none⟩)] 23)) B row (putInts (putB s (numB l.length)) (l.take k)) wr) (fun i _ => l.length - (intOf i).toNat)
    case atStart => exact ⟨0, Nat.zero_le _, rfl, HQ.out⟩
    case round =>
      obtain ⟨k, hk, rfl, hp⟩ := hrel
      have hbox : wr.cell? ⟨w.heap.size, 0, none⟩ = some (.pointer (some ⟨B, 0, none⟩)) := by
        obtain ⟨_, _, hmv, _⟩ := hp
        refine hmv.cell (cell_new _ _ _ _ 0) (fun e => ?_)
        rcases e with e | e
        · have := HP.out.lt; simp at e; omega
        · have := HP.out.row_lt _ e; simp at this
      have HPk := Lib.hid hp
      clear hp
      by_cases hlt : k < l.length
      · have hlt' : (k : Int) < (l.length : Int) := by omega
        have HPP := Lib.hid (putInts_succ (putB s (numB l.length)) l k hlt)
        obtain ⟨b, o, rfl, hc, hx1, hx2⟩ := HI.out k hlt
        have hA2 := HA.out b o rfl (by omega)
        obtain ⟨row', hp', hmv, hr'⟩ := HPk.out
        have hcell := (hmv.cell (cell_old (.cells #[.pointer (some ⟨B, 0, none⟩)] 23) hc) (fun e => by rcases e with e | e; exact hA2.1 e; exact hA2.2 e))
        have HP' := Lib.hid hp'
        have HM := Lib.hid hmv
        have HR := Lib.hid hr'
        generalize l[k] = x at *
        clear hc hA2 hp' hmv hr' HPk HQ
        go_wp2_with (go_at_call 14; refine (int_any B _ row' x _ HP'.out hx1 hx2).mono ?_; rintro e w3 ⟨rfl, hp⟩; have HP3 := Lib.hid (PakPost.trans (s1 := s) HM.out HR.out hp); clear hp)
        go_roundw
        case rel => exact ⟨k + 1, by omega, by go_num, by rw [HPP.out]; exact HP3.out⟩
        case measure => simp [intOf]; omega
      · obtain rfl : k = l.length := by omega
        go_wp2
        refine leaves_cons (f := 37) (args := #[.pointer (some ⟨w.heap.size, 0, none⟩)]) (by simp) (by simp [go_sem]) ?_
        refine (catch_int ⟨w.heap.size, 0, none⟩ _).mono ?_
        rintro e u' w'' ⟨rfl, rfl, rfl⟩
        simp [Leaves, settle, results, Try.results20, go_sem]
        rw [HL.out]
        have := HPk.out
        rw [List.take_length] at this
        exact this.later (below_alloc _ _)
end Go.Proofs.Ytnphmejmcnihoaa
