/- Walks of package pack: a packer and a reader that are nil. -/
import Derived.Test.YtnphmejmcnihoaaPakO
import Derived.Test.YtnphmejmcnihoaaPakH
set_option linter.unusedSimpArgs false
set_option linter.unusedVariables false
namespace Go.Proofs.Ytnphmejmcnihoaa
open Go.ChangeShapes Go.WideShapes Go.ChangeAt Go.RowKit Go.Base Go.Pk

theorem take_nil (A : Option Addr) (n c : Nat) (w : World) :
    Calls Try.prog 34 #[.pointer none, .slice A n c] w fun e w' => e = .returned (.tuple #[]) ∧ w = w' := by
  go_enter Try.func34, Try.ntmps34
  go_wp2
  go_returns
  exact ⟨rfl, rfl⟩
theorem fail_nil (w : World) :
    Calls Try.prog 36 #[.pointer none] w fun e w' => e = .returned (.tuple #[]) ∧ w = w' := by
  go_enter Try.func36, Try.ntmps36
  go_wp2
  go_returns
  exact ⟨rfl, rfl⟩
set_option maxHeartbeats 1000000 in
set_option maxRecDepth 20000 in
theorem number_nil (z : Int) (n : Nat) (w : World) (hz : z = (n : Int)) (hn : n < 18446744073709551616) :
    Calls Try.prog 11 #[.pointer none, .int .u64 z] w fun e w' => e = .returned (.tuple #[]) ∧ Below w.heap.size w w' := by
  subst hz
  have HT := Lib.hid (numB_ten hn)
  go_enter Try.func11, Try.ntmps11
  go_wp2
  go_loopw [1, 5] (fun m size wr => NumRel n w m size wr) (fun m _ _ => (intOf m).toNat)
  case atStart => exact ⟨[], n, _, rfl, rfl, rfl, hn, heap_new w _, rfl, rfl, below_alloc w _⟩
  case round =>
    obtain ⟨pre, m, cs, rfl, rfl, he, hm, hb, hs, ht, hB⟩ := hrel
    have hl9 : pre.length + 1 ≤ 10 := by
      have h1 := HT.out; rw [he, List.length_append] at h1
      have h2 := numB_pos m; omega
    have hl9' : (pre.length : Int) < 10 := by omega
    obtain ⟨v0, hv0⟩ : ∃ v0, cs[pre.length]? = some v0 := ⟨cs[pre.length]'(by omega), by simp⟩
    obtain ⟨hc, hf⟩ := cells_of_heap hb
    have c0 := (hc pre.length).trans hv0
    have f0 := hf pre.length
    have hor : bits BinOp.or IntKind.u8 ((m : Int) % 256) 128 = ((m % 128 + 128 : Nat) : Int) := by
      have := or128 (m % 256) (by omega)
      rw [show m % 256 % 128 = m % 128 by omega] at this
      rw [← this]; congr 1
    have HE := Lib.hid he
    have HB := Lib.hid hb
    have HS := Lib.hid hs
    have HC := Lib.hid ht
    have HW := Lib.hid hB
    clear hc hf hv0 he hb hs ht hB
    by_cases hlt : 128 ≤ m
    · have hlt' : (128 : Int) ≤ (m : Int) := by omega
      go_wp2
      go_roundw
      case rel =>
        refine ⟨pre ++ [UInt8.ofNat (m % 128 + 128)], m / 128, cs.setIfInBounds pre.length (.int .u8 ((m : Int) % 128 + 128)), by go_num, by simp, ?_, by omega, heap_set HB.out _ _, by simpa using HS.out, ?_, HW.out.setCell (Nat.le_refl _) _⟩
        · rw [HE.out, numB_hi hlt]; simp
        · have h1 := HC.out
          have h2 := HS.out
          have h3 : (UInt8.ofNat (m % 128 + 128)).toNat = m % 128 + 128 := ofNat_nat (by omega)
          rw [List.length_append, List.length_singleton, Array.toList_setIfInBounds, List.take_succ_eq_append_getElem (by simp; omega), List.take_set_of_le (Nat.le_refl _), h1]
          simp only [List.map_append, List.map_cons, List.map_nil, List.getElem_set_self, u8v, h3]
          rfl
      case measure => simp [intOf]; omega
    · have hlt' : (m : Int) < 128 := by omega
      clear hor hm
      have hl0 : (0 : Int) ≤ (pre.length : Int) + 1 := by omega
      have hl1 : (pre.length : Int) + 1 ≤ 10 := by omega
      have hl2 : ((pre.length : Int) + 1).toNat = pre.length + 1 := by omega
      have HB2 : Hid (Below w.heap.size w (wr.setCell ⟨w.heap.size, pre.length, none⟩ (.int .u8 (m : Int)))) := Lib.hid (HW.out.setCell (Nat.le_refl _) _)
      go_wp2_with (go_at_call 34; refine (take_nil _ _ _ _).mono ?_; rintro e w2 ⟨rfl, rfl⟩)
      go_returns
      exact ⟨rfl, HB2.out⟩

set_option maxHeartbeats 1000000 in
theorem int_nil (n : Int) (w : World) (h1 : -9223372036854775808 ≤ n) (h2 : n ≤ 9223372036854775807) :
    Calls Try.prog 14 #[.pointer none, .int .i64 n] w fun e w' => e = .returned (.tuple #[]) ∧ Below w.heap.size w w' := by
  have HW := Lib.hid (whole_lt h1 h2)
  by_cases h0 : 0 ≤ n
  · have HZ := Lib.hid (zig_pos n h0 h2)
    go_enter Try.func14, Try.ntmps14
    go_wp2_with (go_at_call 11; refine (number_nil _ _ _ HZ.out HW.out).mono ?_; rintro e w1 ⟨rfl, hp⟩; have HQ := Lib.hid hp; clear hp)
    go_returns
    exact ⟨rfl, HQ.out⟩
  · have h0' : n < 0 := by omega
    have HZ := Lib.hid (zig_neg n h0' h1)
    clear h0
    go_enter Try.func14, Try.ntmps14
    go_wp2_with (go_at_call 11; refine (number_nil _ _ _ HZ.out HW.out).mono ?_; rintro e w1 ⟨rfl, hp⟩; have HQ := Lib.hid hp; clear hp)
    go_returns
    exact ⟨rfl, HQ.out⟩
theorem flag_nil (b : Bool) (w : World) :
    Calls Try.prog 16 #[.pointer none, .bool b] w fun e w' => e = .returned (.tuple #[]) ∧ Below w.heap.size w w' := by
  cases b
  all_goals
    go_enter Try.func16, Try.ntmps16
    go_wp2_with (go_at_call 34; refine (take_nil _ _ _ _).mono ?_; rintro e w2 ⟨rfl, rfl⟩)
    go_returns
    exact ⟨rfl, by first | exact below_alloc w _ | exact (below_alloc w _).setCell (Nat.le_refl _) _ | go_grown⟩
set_option maxHeartbeats 1000000 in
theorem text_nil (t : ByteArray) (w : World) (hm : t.size ≤ maxLen) :
    Calls Try.prog 18 #[.pointer none, .string t] w fun e w' => e = .returned (.tuple #[]) ∧ Below w.heap.size w w' := by
  unfold maxLen at hm
  by_cases h4 : 4096 < t.size
  · have h4' : 4096 < (t.size : Int) := by omega
    go_enter Try.func18, Try.ntmps18
    go_wp2_with (go_at_call 36; refine (fail_nil _).mono ?_; rintro e w1 ⟨rfl, rfl⟩)
    go_returns
    exact ⟨rfl, Below.refl _ _⟩
  · have h4' : (t.size : Int) ≤ 4096 := by omega
    go_enter Try.func18, Try.ntmps18
    go_wp2_with (first | (go_at_call 11; refine (number_nil _ t.size _ rfl (by omega)).mono ?_; rintro e w1 ⟨rfl, hp⟩; have HP1 := Lib.hid hp; clear hp) | (go_at_call 34; refine (take_nil _ _ _ _).mono ?_; rintro e w3 ⟨rfl, rfl⟩) | (refine wpList_bytes_of (by rfl) (.tmp 15) 9 26 5 (by rfl) Try.underlying9 Try.underlying26 Try.underlying5 t (by rfl) ?_; intro cap2 w2 hy hb2 hz2; have HB2 := Lib.hid hb2; clear hy hb2 hz2))
    go_returns
    exact ⟨rfl, HP1.out.trans (HB2.out.mono HP1.out.size)⟩
set_option maxHeartbeats 1000000 in
theorem putList_nil (A : Option Addr) (n c : Nat) (w : World) :
    Calls Try.prog 20 #[.pointer none, .slice A n c, .func (.func 14) #[] #[]] w fun e w' => e = .returned (.tuple #[]) ∧ Below w.heap.size w w' := by
  have hmf : ∀ (fn : Fn) (first cap : Array Value) (w : World), (Instr.makeFunc fn first cap).run Try.prog w = .ok (.func fn first cap) w := fun _ _ _ _ => rfl
  go_enter_defers Try.func20, Try.ntmps20
  go_wp2
  simp [bodyPostD, Leaves, settle, results, Try.results20, go_sem]
  exact below_alloc _ _
theorem done_nil (w : World) :
    Calls Try.prog 22 #[.pointer none] w fun e w' => e = .returned (.tuple #[.slice none 0 0, .int .i64 6]) ∧ w = w' := by
  go_enter Try.func22, Try.ntmps22
  go_wp2
  go_returns
  exact ⟨rfl, rfl⟩

theorem failed_nil (w : World) :
    Calls Try.prog 29 #[.pointer none] w fun e w' => e = .returned (.bool true) ∧ w = w' := by
  go_enter Try.func29, Try.ntmps29
  go_wp2
  go_ret
  exact ⟨rfl, rfl⟩
theorem left_nil (w : World) :
    Calls Try.prog 30 #[.pointer none] w fun e w' => e = .returned (.int .i64 0) ∧ w = w' := by
  go_enter Try.func30, Try.ntmps30
  go_wp2
  go_ret
  exact ⟨rfl, rfl⟩
theorem rdone_nil (w : World) :
    Calls Try.prog 28 #[.pointer none] w fun e w' => e = .returned (.int .i64 6) ∧ w = w' := by
  go_enter Try.func28, Try.ntmps28
  go_wp2
  go_ret
  exact ⟨rfl, rfl⟩
theorem next_num_nil (F : Value) (w : World) :
    Calls Try.prog 39 #[.pointer none, F] w fun e w' => e = .returned (.int .u64 0) ∧ w = w' := by
  go_enter Try.func39, Try.ntmps39
  go_wp2_with (go_at_call 29; refine (failed_nil _).mono ?_; rintro e w' ⟨rfl, rfl⟩)
  go_ret
  exact ⟨rfl, rfl⟩
theorem next_flag_nil (F : Value) (w : World) :
    Calls Try.prog 41 #[.pointer none, F] w fun e w' => e = .returned (.bool false) ∧ w = w' := by
  go_enter Try.func41, Try.ntmps41
  go_wp2_with (go_at_call 29; refine (failed_nil _).mono ?_; rintro e w' ⟨rfl, rfl⟩)
  go_ret
  exact ⟨rfl, rfl⟩
theorem next_text_nil (F : Value) (w : World) :
    Calls Try.prog 43 #[.pointer none, F] w fun e w' => e = .returned (.string ⟨#[]⟩) ∧ w = w' := by
  go_enter Try.func43, Try.ntmps43
  go_wp2_with (go_at_call 29; refine (failed_nil _).mono ?_; rintro e w' ⟨rfl, rfl⟩)
  go_ret
  exact ⟨rfl, rfl⟩
theorem rnum_nil (w : World) :
    Calls Try.prog 24 #[.pointer none] w fun e w' => e = .returned (.int .u64 0) ∧ w = w' := by
  go_enter Try.func24, Try.ntmps24
  go_wp2_with (go_at_call 39; refine (next_num_nil _ _).mono ?_; rintro e w' ⟨rfl, rfl⟩)
  go_ret
  exact ⟨rfl, rfl⟩
theorem rint_nil (w : World) :
    Calls Try.prog 25 #[.pointer none] w fun e w' => e = .returned (.int .i64 0) ∧ w = w' := by
  have hz : bits BinOp.xor IntKind.i64 0 0 = 0 := by decide
  have hz2 : bits BinOp.and IntKind.u64 0 1 = 0 := by decide
  go_enter Try.func25, Try.ntmps25
  go_wp2_with (go_at_call 24; refine (rnum_nil _).mono ?_; rintro e w' ⟨rfl, rfl⟩)
  go_ret
  exact ⟨rfl, rfl⟩
theorem rflag_nil (w : World) :
    Calls Try.prog 26 #[.pointer none] w fun e w' => e = .returned (.bool false) ∧ w = w' := by
  go_enter Try.func26, Try.ntmps26
  go_wp2_with (go_at_call 41; refine (next_flag_nil _ _).mono ?_; rintro e w' ⟨rfl, rfl⟩)
  go_ret
  exact ⟨rfl, rfl⟩
theorem rtext_nil (w : World) :
    Calls Try.prog 27 #[.pointer none] w fun e w' => e = .returned (.string ⟨#[]⟩) ∧ w = w' := by
  go_enter Try.func27, Try.ntmps27
  go_wp2_with (go_at_call 43; refine (next_text_nil _ _).mono ?_; rintro e w' ⟨rfl, rfl⟩)
  go_ret
  exact ⟨rfl, rfl⟩
end Go.Proofs.Ytnphmejmcnihoaa
