/- Walks of package store: mayBe. -/
import Derived.Test.YtobgiialecgpnaaStoC
set_option linter.unusedSimpArgs false
set_option linter.unusedVariables false
namespace Go.Proofs.Ytobgiialecgpnaa
open Go.ChangeShapes Go.WideShapes Go.ChangeAt Go.RowKit Go.Base Go.Sto

def okS (s : ByteArray) : Bool := okName s.data.toList
theorem okS_short {s : ByteArray} (h : s.size < 1 ∨ 24 < s.size) : okS s = false := by
  have hl : s.data.toList.length = s.size := by simp
  unfold okS okName
  rw [hl]
  rcases h with h | h
  · rw [show decide (1 ≤ s.size) = false by rw [decide_eq_false_iff_not]; omega]; rfl
  · rw [show decide (s.size ≤ 24) = false by rw [decide_eq_false_iff_not]; omega]; simp
theorem okS_bad {s : ByteArray} {k : Nat} (hk : k < s.size) (h : okByte s[k] = false) : okS s = false := by
  unfold okS okName
  have : s.data.toList.all okByte = false := by
    rw [List.all_eq_false]
    refine ⟨s[k], ?_, by rw [h]; simp⟩
    have hl : k < s.data.toList.length := by simpa using hk
    exact List.mem_of_getElem (i := k) (h := hl) rfl
  rw [this]; simp
theorem okS_good {s : ByteArray} (h1 : ¬ s.size < 1) (h2 : ¬ 24 < s.size) (h : ∀ k, (hk : k < s.size) → okByte s[k] = true) : okS s = true := by
  have hl : s.data.toList.length = s.size := by simp
  unfold okS okName
  rw [hl, Bool.and_eq_true, Bool.and_eq_true, decide_eq_true_eq, decide_eq_true_eq, List.all_eq_true]
  refine ⟨⟨by omega, by omega⟩, fun c hc => ?_⟩
  obtain ⟨i, hi, rfl⟩ := List.getElem_of_mem hc
  exact h i (by simpa using hi)
set_option maxHeartbeats 2000000 in
theorem mayBe_any (g n : Nat) (ss : List ByteArray) (w : World) (hn : ss.length = n) (hc : ∀ (i : Nat) (h : i < ss.length), w.cell? ⟨g, i, none⟩ = some (.string ss[i])) (hm : n ≤ 64) (hl : ∀ s ∈ ss, s.size ≤ maxLen) :
    Calls Try.prog 26 #[.slice (some ⟨g, 0, none⟩) n n] w fun e w' => e = .returned (.bool (ss.all okS)) ∧ w = w' := by
  have HC := Lib.hid hc
  have HN := Lib.hid hn
  have HL := Lib.hid hl
  generalize hI : ss.all okS = I
  have HI := Lib.hid hI
  have hm' : (n : Int) ≤ 64 := by omega
  clear hc hn hl hI
  go_enter Try.func26, Try.ntmps26
  go_wp2
  go_loopw [8] (fun iv wr => ∃ k : Nat, k ≤ n ∧ iv = .int .i64 (k : Int) ∧ Hid (∀ s ∈ ss.take k, okS s = true) ∧ wr = w) (fun iv _ => n - (intOf iv).toNat)
  case atStart => exact ⟨0, Nat.zero_le _, rfl, Lib.hid (by simp), rfl⟩
  case round =>
    obtain ⟨k, hk, rfl, HK, rfl⟩ := hrel
    have hkz : (0 : Int) ≤ (k : Int) := by omega
    by_cases hlt : k < n
    · have hlt' : (k : Int) < (n : Int) := by omega
      have hkl : k < ss.length := by have := HN.out; omega
      have c0 := HC.out k hkl
      have hmem : ss[k] ∈ ss := List.getElem_mem hkl
      have hsz := HL.out _ hmem
      have HT : Hid (ss.take (k + 1) = ss.take k ++ [ss[k]]) := Lib.hid (List.take_succ_eq_append_getElem hkl)
      obtain ⟨s, hs⟩ : ∃ s, s = ss[k] := ⟨_, rfl⟩
      rw [← hs] at c0 hmem hsz HT
      clear hs hkl
      have HM := Lib.hid hmem
      clear hmem
      unfold maxLen at hsz
      by_cases hs1 : s.size < 1
      · have HB : Hid (I = false) := Lib.hid (by rw [← HI.out, List.all_eq_false]; exact ⟨s, HM.out, by rw [okS_short (.inl hs1)]; simp⟩)
        have hs1' : (s.size : Int) < 1 := by omega
        go_wp2
        go_ret
        exact ⟨by rw [HB.out]; rfl, rfl⟩
      · by_cases hs2 : 24 < s.size
        · have HB : Hid (I = false) := Lib.hid (by rw [← HI.out, List.all_eq_false]; exact ⟨s, HM.out, by rw [okS_short (.inr hs2)]; simp⟩)
          have hs1' : ¬ (s.size : Int) < 1 := by omega
          have hs2' : (24 : Int) < (s.size : Int) := by omega
          go_wp2
          go_ret
          exact ⟨by rw [HB.out]; rfl, rfl⟩
        · have hs1' : ¬ (s.size : Int) < 1 := by omega
          have hs2' : ¬ (24 : Int) < (s.size : Int) := by omega
          go_wp2
          go_loopw [22] (fun jv wx => ∃ j : Nat, j ≤ s.size ∧ jv = .int .i64 (j : Int) ∧ Hid (∀ i, (h : i < s.size) → i < j → okByte s[i] = true) ∧ wx = wr) (fun jv _ => s.size - (intOf jv).toNat)
          case atStart => exact ⟨0, Nat.zero_le _, rfl, Lib.hid (fun i h h2 => by omega), rfl⟩
          case round =>
            obtain ⟨j, hj, rfl, HJ, rfl⟩ := hrel
            have hjz : (0 : Int) ≤ (j : Int) := by omega
            by_cases hjl : j < s.size
            · have hjl' : (j : Int) < (s.size : Int) := by omega
              cases hb : okByte s[j]
              · have HB : Hid (I = false) := Lib.hid (by rw [← HI.out, List.all_eq_false]; exact ⟨s, HM.out, by rw [okS_bad hjl hb]; simp⟩)
                have HY := Lib.hid (fun w => nameByte_any s[j] w)
                rw [hb] at HY
                clear hb
                go_wp2_with (go_at_call 51; refine (HY.out _).mono ?_; rintro e w1 ⟨rfl, rfl⟩)
                go_ret
                exact ⟨by rw [HB.out]; rfl, rfl⟩
              · have HY := Lib.hid (fun w => nameByte_any s[j] w)
                rw [hb] at HY
                have HJ2 : Hid (∀ i, (h : i < s.size) → i < j + 1 → okByte s[i] = true) := Lib.hid (fun i h h2 => by
                  by_cases e : i = j
                  · subst e; exact hb
                  · exact HJ.out i h (by omega))
                clear hb
                go_wp2_with (go_at_call 51; refine (HY.out _).mono ?_; rintro e w1 ⟨rfl, rfl⟩)
                go_roundw
                case rel => exact ⟨j + 1, by omega, by go_num, HJ2, trivial⟩
                case measure => simp [intOf]; omega
            · obtain rfl : j = s.size := by omega
              have HK2 : Hid (∀ t ∈ ss.take (k + 1), okS t = true) := Lib.hid (fun t ht => by
                rw [HT.out, List.mem_append, List.mem_singleton] at ht
                rcases ht with ht | rfl
                · exact HK.out t ht
                · exact okS_good hs1 hs2 (fun i h => HJ.out i h h))
              go_wp2
              go_roundw
              case rel => exact ⟨k + 1, by omega, by go_num, HK2, trivial⟩
              case measure => simp [intOf]; omega
    · obtain rfl : k = n := by omega
      have HB : Hid (I = true) := Lib.hid (by rw [← HI.out, List.all_eq_true]; intro s hs; refine HK.out s ?_; rw [List.take_of_length_le (by rw [HN.out]; omega)]; exact hs)
      go_wp2
      go_ret
      exact ⟨by rw [HB.out]; rfl, rfl⟩
end Go.Proofs.Ytobgiialecgpnaa
