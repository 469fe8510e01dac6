/- Walks of package pack: lists of texts are packed. -/
import Derived.Test.YtnphmejmcnihoaaPakI
set_option linter.unusedSimpArgs false
set_option linter.unusedVariables false
namespace Go.Proofs.Ytnphmejmcnihoaa
open Go.ChangeShapes Go.WideShapes Go.ChangeAt Go.RowKit Go.Base Go.Pk

theorem catch_str (p : Addr) (w : World) :
    CallsD Try.prog 48 #[.pointer (some p)] .returning w fun e u' w' => e = .returned (.tuple #[]) ∧ u' = .returning ∧ w' = w := by
  refine callsD_of_wpS Try.func48 rfl fun c₀ cs hu => ?_
  apply wpS_seq
  apply wpS_region
  simp [wpOpsS, go_sem, recoverD, hu, Try.ntmps48, Exit.thenS]
  refine wpS_cond (t := false) (by simp [Act.eval, Array.replicate]) ?_
  simp only [Bool.false_eq_true, if_false]
  refine wpS_of_wp (wp_skip ?_)
  cases c₀
  simp_all [bodyPostS, results, Try.results48]

def putTexts (s : Option (List UInt8)) (l : List (List UInt8)) : Option (List UInt8) := l.foldl putText s
def putListT (s : Option (List UInt8)) (l : List (List UInt8)) : Option (List UInt8) := if 4096 < l.length then none else putTexts (putB s (numB l.length)) l
theorem putTexts_succ (s : Option (List UInt8)) (l : List (List UInt8)) (k : Nat) (hk : k < l.length) : putTexts s (l.take (k + 1)) = putText (putTexts s (l.take k)) l[k] := by
  unfold putTexts
  rw [List.take_succ_eq_append_getElem hk, List.foldl_append]
  rfl

set_option maxHeartbeats 4000000 in
theorem putList_str (B : Nat) (s : Option (List UInt8)) (row : Option Nat) (A : Option Addr) (l : List (List UInt8)) (c : Nat) (w : World) (h : Pak w B s row) (hi : Strs w A l) (hm : l.length ≤ maxLen)
    (hA : ∀ b o, A = some ⟨b, o, none⟩ → 0 < l.length → b ≠ B ∧ row ≠ some b) :
    Calls Try.prog 32 #[.pointer (some ⟨B, 0, none⟩), .slice A l.length c, .func (.func 18) #[] #[]] w fun e w' => e = .returned (.tuple #[]) ∧ PakPost w B row (putListT s l) w' := by
  have hmf : ∀ (fn : Fn) (first cap : Array Value) (w : World), (Instr.makeFunc fn first cap).run Try.prog w = .ok (.func fn first cap) w := fun _ _ _ _ => rfl
  have HP := Lib.hid h
  have HI := Lib.hid hi
  have HA := Lib.hid hA
  unfold maxLen at hm
  have hm' : (l.length : Int) ≤ 9223372036854775807 := by omega
  clear h hi hA hm
  by_cases h4 : 4096 < l.length
  · have h4' : (4096 : Int) < (l.length : Int) := by omega
    have HL : Hid (putListT s l = none) := Lib.hid (by unfold putListT; rw [if_pos h4])
    go_enter_defers Try.func32, Try.ntmps32
    go_wp2_with (go_at_call 36; refine (fail_any B s row _ (HP.out.later (below_alloc _ _))).mono ?_; rintro e w1 ⟨rfl, hp⟩; have HQ := Lib.hid (PakPost.later (below_alloc _ _) hp); clear hp)
    simp [bodyPostD, Leaves, settle, results, Try.results32, go_sem]
    rw [HL.out]
    exact HQ.out
  · have h4' : (l.length : Int) ≤ 4096 := by omega
    have HL : Hid (putListT s l = putTexts (putB s (numB l.length)) l) := Lib.hid (by unfold putListT; rw [if_neg h4])
    go_enter_defers Try.func32, Try.ntmps32
    go_wp2_with (go_at_call 11; refine (number_any B s row l.length _ (HP.out.later (below_alloc _ _)) (by omega)).mono ?_; rintro e w1 ⟨rfl, hp⟩; have HQ := Lib.hid hp; clear hp)
    go_loopw [23] (fun i wr => ∃ k : Nat, k ≤ l.length ∧ i = .int .i64 (k : Int) ∧ PakPost (w.alloc (.cells #[.pointer (some ⟨B, 0, none⟩)] 23)) B row (putTexts (putB s (numB l.length)) (l.take k)) wr) (fun i _ => l.length - (intOf i).toNat)
    case atStart => exact ⟨0, Nat.zero_le _, rfl, HQ.out⟩
    case round =>
      obtain ⟨k, hk, rfl, hp⟩ := hrel
      have hbox : wr.cell? ⟨w.heap.size, 0, none⟩ = some (.pointer (some ⟨B, 0, none⟩)) := by
        obtain ⟨_, _, hmv, _⟩ := hp
        refine hmv.cell (cell_new _ _ _ _ 0) (fun e => ?_)
        rcases e with e | e
        · have := HP.out.lt; simp at e; omega
        · have := HP.out.row_lt _ e; simp at this
      have HPk := Lib.hid hp
      clear hp
      by_cases hlt : k < l.length
      · have hlt' : (k : Int) < (l.length : Int) := by omega
        have HPP := Lib.hid (putTexts_succ (putB s (numB l.length)) l k hlt)
        obtain ⟨b, o, rfl, hc, hx1⟩ := HI.out k hlt
        have hA2 := HA.out b o rfl (by omega)
        obtain ⟨row', hp', hmv, hr'⟩ := HPk.out
        have hcell := (hmv.cell (cell_old (.cells #[.pointer (some ⟨B, 0, none⟩)] 23) hc) (fun e => by rcases e with e | e; exact hA2.1 e; exact hA2.2 e))
        have HP' := Lib.hid hp'
        have HM := Lib.hid hmv
        have HR := Lib.hid hr'
        generalize l[k] = x at *
        clear hc hA2 hp' hmv hr' HPk HQ
        go_wp2_with (go_at_call 18; refine (text_any B _ row' ⟨x.toArray⟩ _ HP'.out (by simpa [ByteArray.size] using hx1)).mono ?_; rintro e w3 ⟨rfl, hp⟩; have HP3 := Lib.hid (PakPost.trans (s1 := s) HM.out HR.out hp); clear hp)
        go_roundw
        case rel => exact ⟨k + 1, by omega, by go_num, by rw [HPP.out]; exact HP3.out⟩
        case measure => simp [intOf]; omega
      · obtain rfl : k = l.length := by omega
        go_wp2
        refine leaves_cons (f := 48) (args := #[.pointer (some ⟨w.heap.size, 0, none⟩)]) (by simp) (by simp [go_sem]) ?_
        refine (catch_str ⟨w.heap.size, 0, none⟩ _).mono ?_
        rintro e u' w'' ⟨rfl, rfl, rfl⟩
        simp [Leaves, settle, results, Try.results32, go_sem]
        rw [HL.out]
        have := HPk.out
        rw [List.take_length] at this
        exact this.later (below_alloc _ _)
end Go.Proofs.Ytnphmejmcnihoaa
