/- The laws' Do: act 0. -/
import Derived.Test.YtihkjdoajfjnpaaSesS
set_option linter.unusedSimpArgs false
set_option linter.unusedVariables false
namespace Go.Proofs.Ytihkjdoajfjnpaa
open Go.ChangeShapes Go.WideShapes Go.ChangeAt Go.RowKit Go.Base Go.Ses

section
variable {B pp i : Nat} {w w1 w' : World} {X : Nat → Side} {P : Nat → Nat} {F : Nat → Nat → Prop} {G : Nat → Prop} {Q S C : Nat → Value} {q : Nat → Prop}
set_option maxHeartbeats 8000000 in
set_option maxRecDepth 20000 in
theorem do_other (h : PairX B w pp X P F G Q S C) (hi : i < 2) (k : Int) (b now : Int) (hby : bits BinOp.and IntKind.i64 b 1 = (i : Int)) (hnow : -9223372036854775808 ≤ now ∧ now ≤ 9223372036854775807) (A0 : Option Addr) (body : Bytes) (c0 : Nat) (hy : Bd B w A0 body) (hbl : body.length ≤ 140737488355328) (v3 v4 v5 v6 v7 v8 : Value)
    {NN : Nat} (hs0 : Small NN (X i)) (hs1 : Small NN (X (1 - i))) (hk : k ≠ 1 ∧ k ≠ 3 ∧ k ≠ 4 ∧ k ≠ 5 ∧ k ≠ 6 ∧ k ≠ 7) :
    Calls Try.prog 8 #[.pointer (some ⟨pp, 0, none⟩), .agg #[.int .i64 k, .int .i64 b, .slice A0 body.length c0, v3, v4, v5, v6, v7, v8, .int .i64 now]] w (DoPost B pp i X k now body w) := by
  obtain ⟨n0, hn0⟩ : ∃ n, n = body.length := ⟨_, rfl⟩
  obtain ⟨W1, hW1⟩ : ∃ W1, W1 = w.alloc (.cells #[.int .i64 k, .int .i64 b, .slice A0 n0 c0, v3, v4, v5, v6, v7, v8, .int .i64 now] 31) := ⟨_, rfl⟩
  have hB1 : Below w.heap.size w W1 := by rw [hW1]; exact below_alloc _ _
  have kO : OpBox W1 w.heap.size k b now A0 n0 c0 v3 v4 v5 v6 v7 v8 := by rw [hW1]; exact heap_new w _
  have HX := Lib.hid h
  have HB1 := Lib.hid hB1
  have HO1 := Lib.hid kO
  have HX1 := Lib.hid (h.later hB1)
  have HW1 := Lib.hid hW1
  have HY := Lib.hid hy
  have HN0 := Lib.hid hn0
  have HBl : Hid (n0 ≤ 140737488355328) := Lib.hid (by rw [hn0]; exact hbl)
  have HS0 := Lib.hid hs0
  have HS1 := Lib.hid hs1
  have HNow := Lib.hid hnow
  obtain ⟨Aq, cq, es, hq, hqe, hqo, hqb⟩ := h.q i hi
  obtain ⟨nl, hnq⟩ : ∃ n, n = (X i).q.length := ⟨_, rfl⟩
  rw [← hnq] at hq hqo
  have HQ := Lib.hid (And.intro hq (And.intro hqe (And.intro hqo (And.intro hqb hnq))))
  obtain ⟨o0, o1, o2, o9⟩ := kO.cells
  have q4 : W1.cell? ⟨pp, 4 + i, none⟩ = some (.slice Aq nl cq) := by rw [← hq]; exact ((h.later hB1).cell hi).2.2.1
  have hi' : (i : Int) < 2 := by omega
  have hi0 : (0 : Int) ≤ (i : Int) := by omega
  have hq64 : (nl : Int) ≤ 1000000 := by rw [hnq]; have := hs0.1; have := hs0.2.2.2; omega
  have HQ64 := Lib.hid hq64
  rw [← hn0]
  clear h hy hs0 hs1 hnow hq hqe hqo hqb hnq hW1 hB1 kO hn0 hbl
  obtain ⟨k1, k3, k4, k5, k6, k7⟩ := hk
  have HK : Hid (doX k now body i X = X) := Lib.hid (by
    unfold doX doS
    rw [if_neg k1, if_neg k3, if_neg (by omega), if_neg k7]
    simp only [upd_self])
  have d1 : (k == 1) = false := by simpa using k1
  have d3 : (k == 3) = false := by simpa using k3
  have d4 : (k == 4) = false := by simpa using k4
  have d5 : (k == 5) = false := by simpa using k5
  have d6 : (k == 6) = false := by simpa using k6
  have d7 : (k == 7) = false := by simpa using k7
  clear k1 k3 k4 k5 k6 k7
  go_enter Try.func8, Try.ntmps8
  go_upto_if 20 with (rw [← HW1.out])
  go_cut [6] from 20 to 41 (fun v wx => ∃ a : Nat, v = .int .i64 (a : Int) ∧ Hid (Below W1.heap.size W1 wx ∧ AtIs now nl a))
  case first =>
    by_cases hz : nl = 0
    · subst hz
      go_wp2
      go_meet
      exact ⟨0, rfl, Lib.hid ⟨Below.refl _ _, .inl rfl⟩⟩
    · have hz1 : (0 : Int) < (nl : Int) := by omega
      have hz2 : ((nl : Int) == 0) = false := by simp; omega
      have hz3 : ¬ (nl : Int) = 0 := by omega
      have HZ := Lib.hid hz
      by_cases ht : now.tmod (nl : Int) < 0
      · have HA := Lib.hid (at_neg hz ht)
        have hlt : -(nl : Int) < now.tmod (nl : Int) := Int.lt_tmod_of_pos now hz1
        have kw : IntKind.i64.wrap (now.tmod (nl : Int) + (nl : Int)) = now.tmod (nl : Int) + (nl : Int) := by rw [IntKind.wrap_i64]; omega
        clear hz
        go_wp2_with fail
        go_quiet (fail)
        go_wp2
        go_meet
        exact ⟨(now.tmod (nl : Int) + nl).toNat, by go_num, Lib.hid ⟨below_drewN (Below.refl _ _) _, HA.out⟩⟩
      · have HA := Lib.hid (at_pos hz ht)
        clear hz
        go_wp2_with fail
        go_quiet (fail)
        go_wp2
        go_meet
        exact ⟨(now.tmod (nl : Int)).toNat, by go_num, Lib.hid ⟨below_drewN (Below.refl _ _) _, HA.out⟩⟩
  case rest =>
    obtain ⟨a, rfl, HC⟩ := hcut
    have HXc := Lib.hid (HX1.out.later HC.out.1)
    have hOc : OpBox wc w.heap.size k b now A0 n0 c0 v3 v4 v5 v6 v7 v8 := (HC.out.1.block _ (heap_lt HO1.out)).trans HO1.out
    have HOc := Lib.hid hOc
    have hbw : Below w.heap.size w wc := HB1.out.trans (HC.out.1.mono HB1.out.size)
    have HBw := Lib.hid hbw
    clear o0 o1 o2 o9 q4
    obtain ⟨o0, o1, o2, o9⟩ := hOc.cells
    clear hOc hbw
    go_wp2
    go_ret
    refine ⟨rfl, ?_, HBw.out.mono HX.out.lowle, Below.ku HBw.out⟩
    rw [HK.out]
    exact HXc.out.to
end
end Go.Proofs.Ytihkjdoajfjnpaa
