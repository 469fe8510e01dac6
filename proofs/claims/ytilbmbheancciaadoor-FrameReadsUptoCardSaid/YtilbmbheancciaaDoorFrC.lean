/- Walks of package frame: firstSize, wholeSize, payloadOf. -/
import Derived.Test.YtilbmbheancciaaDoorFrB
import Derived.WalkMore
set_option linter.unusedSimpArgs false
set_option linter.unusedVariables false
namespace Go.Proofs.YtilbmbheancciaaDoor
open Go.ChangeShapes Go.WideShapes Go.ChangeAt Go.RowKit Go.Base Go.Mx Go.Fr

theorem firstSize_any (A : Option Addr) (b : List UInt8) (n c : Nat) (w : World) (hbn : b.length = n) (hT : Tab w) (hb : Byt w A b) (hc : n ≤ c) (hcm : c ≤ maxLen) :
    Calls Tryd.prog 22 #[.slice A n c] w fun e w' => e = .returned (.int .i64 (firstSz b : Nat)) ∧ Below w.heap.size w w' := by
  subst hbn
  unfold maxLen at hcm
  by_cases h8 : b.length < 8
  · have := fs_none A b b.length c w h8
    have e : firstSz b = 0 := by unfold firstSz; rw [if_pos h8]
    rw [e]; exact this
  have hS := saidSize_any A b c w hb (by omega) (by unfold maxLen; omega)
  by_cases hbig : 65536 < getN b
  · have e : firstSz b = 0 := by unfold firstSz; rw [if_neg h8, if_pos (.inl hbig)]
    rw [e]; exact fs_big A (8 + getN b) b.length c w h8 (by omega) hS (by omega)
  by_cases hsh : b.length < 8 + getN b
  · have e : firstSz b = 0 := by unfold firstSz; rw [if_neg h8, if_pos (.inr hsh)]
    rw [e]; exact fs_short A (8 + getN b) b.length c w h8 (by omega) hS (by omega) hsh
  obtain ⟨g, o, rfl, _⟩ := hb 0 (by omega)
  have l4 : ((b.drop 4).take 4).length = 4 := by rw [List.length_take, List.length_drop]; omega
  have hG : ∀ V, Below w.heap.size w V → Calls Tryd.prog 30 #[.slice (some ⟨g, o + 4, none⟩) 4 (c - 4)] V fun e w' => e = .returned (.int .u32 (getN (b.drop 4) : Nat)) ∧ Below V.heap.size V w' := fun V hv => by
    have := getNumber_any (some ⟨g, o + 4, none⟩) ((b.drop 4).take 4) (c - 4) V (((hb.later hv).drop 4).take 4) (by omega) (by rw [l4]; unfold maxLen; decide)
    rw [getN_take4, l4] at this
    exact this
  have hpl : ((b.drop 8).take (getN b)).length = getN b := by rw [List.length_take, List.length_drop]; omega
  have l4b : (b.take 4).length = 4 := by rw [List.length_take]; omega
  have hR : firstSz b = if getN (b.drop 4) = sum (b.take 4 ++ (b.drop 8).take (getN b)) then 8 + getN b else 0 := by
    unfold firstSz; rw [if_neg h8, if_neg (by omega)]
  have hsum : ∀ V h, Below w.heap.size w V → ∀ (B : Option Addr) (m cb : Nat), m = getN b → Byt V B ((b.drop 8).take (getN b)) → V.heap[h]? = some (.cells #[.slice (some ⟨g, o, none⟩) 4 c, .slice B m cb] 22 (0, 0)) →
      Calls Tryd.prog 18 #[.slice (some ⟨h, 0, none⟩) 2 2] V fun e w' => e = .returned (.int .u32 (sum (b.take 4 ++ (b.drop 8).take (getN b)) : Nat)) ∧ V = w' := fun V h hv B m cb hmm hB hh => by
    have := sum_any (some ⟨h, 0, none⟩) [b.take 4, (b.drop 8).take (getN b)] 2 V (hT.later hv) (two_parts hh l4b.symm (by rw [hpl, hmm]) ((hb.later hv).take 4) hB (by rw [l4b]; unfold maxLen; decide) (by rw [hpl]; unfold maxLen; omega)) (by show 2 ≤ maxLen; unfold maxLen; decide)
    simp only [List.flatten_cons, List.flatten_nil, List.append_nil] at this
    exact this
  by_cases hc8 : c = 8
  · subst hc8
    have hb8 : b.length = 8 := by omega
    have hg0 : getN b = 0 := by omega
    rw [hg0] at hS hR
    rw [hb8]
    refine fs_go8 g o (getN (b.drop 4)) _ (firstSz b) [] [] w hT (by rw [hb8] at hS; exact hS) (fun V hv => hG V hv) (fun V h hv hh => ?_) hR
    have := hsum V h hv (some ⟨g, o, none⟩) 0 0 hg0.symm (by rw [hg0]; exact Byt.nil _ _) hh
    rw [hg0] at this
    exact this
  · exact fs_go g o (8 + getN b) b.length c (getN (b.drop 4)) _ (firstSz b) [] [] w hT h8 (by omega) hS (by omega) hsh (by omega) hc hcm hc8 hG
      (fun V h hv hh => hsum V h hv (some ⟨g, o + 8, none⟩) (8 + getN b - 8) (c - 8) (by omega) (((hb.later hv).drop 8).take _) hh) hR

/-- How many bytes the whole part has. -/
def wholeGo : Nat → List UInt8 → Nat
  | 0, _ => 0
  | f + 1, b => if firstSz b = 0 then 0 else firstSz b + wholeGo f (b.drop (firstSz b))
def wholeSz (b : List UInt8) : Nat := wholeGo b.length b
theorem firstSz_ge {b : List UInt8} (h : firstSz b ≠ 0) : 8 ≤ firstSz b := by have := (first_frame h).1; omega
theorem wholeGo_fuel : ∀ (f g : Nat) (b : List UInt8), b.length ≤ f → b.length ≤ g → wholeGo f b = wholeGo g b
  | 0, 0, _, _, _ => rfl
  | 0, g + 1, b, h, _ => by
    have : b = [] := List.eq_nil_of_length_eq_zero (by omega)
    subst this
    have e : firstSz [] = 0 := by unfold firstSz; rw [if_pos (by simp)]
    unfold wholeGo; rw [e, if_pos rfl]
  | f + 1, 0, b, _, h => by
    have : b = [] := List.eq_nil_of_length_eq_zero (by omega)
    subst this
    have e : firstSz [] = 0 := by unfold firstSz; rw [if_pos (by simp)]
    unfold wholeGo; rw [e, if_pos rfl]
  | f + 1, g + 1, b, h1, h2 => by
    unfold wholeGo
    split
    · rfl
    · next hn =>
      have := firstSz_ge hn
      rw [wholeGo_fuel f g (b.drop (firstSz b)) (by rw [List.length_drop]; omega) (by rw [List.length_drop]; omega)]
theorem wholeSz_step {b : List UInt8} (h : firstSz b ≠ 0) : wholeSz b = firstSz b + wholeSz (b.drop (firstSz b)) := by
  have h8 := firstSz_ge h
  have hl := firstSz_le b
  unfold wholeSz
  cases hb : b.length with
  | zero => omega
  | succ n =>
    rw [show wholeGo (n + 1) b = if firstSz b = 0 then 0 else firstSz b + wholeGo n (b.drop (firstSz b)) from rfl, if_neg h]
    rw [wholeGo_fuel n _ (b.drop (firstSz b)) (by rw [List.length_drop]; omega) (Nat.le_refl _)]
theorem wholeSz_stop {b : List UInt8} (h : firstSz b = 0) : wholeSz b = 0 := by
  unfold wholeSz
  cases b.length with
  | zero => rfl
  | succ n => rw [show wholeGo (n + 1) b = if firstSz b = 0 then 0 else firstSz b + wholeGo n (b.drop (firstSz b)) from rfl, if_pos h]
theorem wholeSz_le (b : List UInt8) : wholeSz b ≤ b.length := by
  have key : ∀ (f : Nat) (b : List UInt8), wholeGo f b ≤ b.length := by
    intro f
    induction f with
    | zero => intro b; exact Nat.zero_le _
    | succ f ih =>
      intro b
      unfold wholeGo
      split
      · exact Nat.zero_le _
      · have := ih (b.drop (firstSz b))
        have hl := firstSz_le b
        rw [List.length_drop] at this; omega
  exact key _ _
set_option maxHeartbeats 2000000 in
theorem wholeSize_any (A : Option Addr) (b : List UInt8) (n c : Nat) (w : World) (hbn : b.length = n) (hT : Tab w) (hb : Byt w A b) (hc : n ≤ c) (hcm : c ≤ maxLen) (hA : (A = none ∧ c = 0) ∨ ∃ g o, A = some ⟨g, o, none⟩) :
    Calls Tryd.prog 25 #[.slice A n c] w fun e w' => e = .returned (.int .i64 (wholeSz b : Nat)) ∧ Below w.heap.size w w' := by
  have HB := Lib.hid hb
  have HT := Lib.hid hT
  have HN := Lib.hid hbn
  have HCM := Lib.hid hcm
  have HA := Lib.hid hA
  unfold maxLen at hcm
  have hn' : (n : Int) ≤ 9223372036854775807 := by omega
  have hc' : (c : Int) ≤ 9223372036854775807 := by omega
  clear hb hT hbn hA
  go_enter Tryd.func25, Tryd.ntmps25
  go_wp2
  go_step3
  go_wp2
  go_step3
  go_wp2
  go_loopw [3] (fun x wr => ∃ t : Nat, t ≤ n ∧ x = .int .i64 (t : Int) ∧ Hid (wholeSz b = t + wholeSz (b.drop t)) ∧ Hid (Below w.heap.size w wr)) (fun x _ => n - (intOf x).toNat)
  case atStart => exact ⟨0, Nat.zero_le _, rfl, Lib.hid (by simp), Lib.hid (Below.refl _ _)⟩
  case round =>
    obtain ⟨t, ht, rfl, HW, HBw⟩ := hrel
    have ht0 : (0 : Int) ≤ (t : Int) := by omega
    have ht' : (t : Int) ≤ (n : Int) := by omega
    have htc : (t : Int) ≤ (c : Int) := by omega
    have htl : t ≤ b.length := by have := HN.out; omega
    have HFs : Hid (∀ (B : Option Addr) (cb : Nat), Byt wr B (b.drop t) → n - t ≤ cb → cb ≤ maxLen → Calls Tryd.prog 22 #[.slice B (n - t) cb] wr fun e w' => e = .returned (.int .i64 (firstSz (b.drop t) : Nat)) ∧ Below wr.heap.size wr w') := Lib.hid (fun B cb h1 h2 h3 =>
      firstSize_any B (b.drop t) (n - t) cb wr (by rw [List.length_drop, HN.out]) (HT.out.later HBw.out) h1 h2 h3)
    have hle := firstSz_le (b.drop t)
    rw [List.length_drop, HN.out] at hle
    have HSt := Lib.hid (@wholeSz_step (b.drop t))
    have HSp := Lib.hid (@wholeSz_stop (b.drop t))
    rw [List.drop_drop] at HSt
    have HByt := Lib.hid (HB.out.later HBw.out)
    have HF0 := Lib.hid (@firstSz_ge (b.drop t))
    generalize firstSz (b.drop t) = sz at *
    rcases HA.out with ⟨rfl, rfl⟩ | ⟨g, o, rfl⟩
    · obtain rfl : n = 0 := by omega
      obtain rfl : t = 0 := by omega
      obtain rfl : sz = 0 := by omega
      have HR : Hid (wholeSz b = 0) := Lib.hid (by rw [HW.out, HSp.out rfl])
      have HC := Lib.hid (HFs.out none 0 (by have := HN.out; rw [List.drop_of_length_le (by omega)]; exact Byt.nil _ _) (by omega) (by unfold maxLen; omega))
      clear HFs
      go_wp2_with (go_at_call 22; refine Calls.mono (by with_reducible exact HC.out) ?_; rintro e w1 ⟨rfl, hb⟩; have HB1 := Lib.hid (HBw.out.trans (hb.mono HBw.out.size)); clear hb)
      rw [Exit.noGoto_ret]
      go_ret
      exact ⟨ret_int (by rw [HR.out]; rfl), HB1.out⟩
    · by_cases hct : c = t
      · obtain rfl : c = n := by omega
        obtain rfl : t = c := by omega
        have HC0 := HFs.out (some ⟨g, o, none⟩) 0 (by rw [List.drop_of_length_le (by have := HN.out; omega)]; exact Byt.nil _ _) (by omega) (by unfold maxLen; omega)
        rw [Nat.sub_self] at HC0
        have HC := Lib.hid HC0
        clear HC0
        obtain rfl : sz = 0 := by omega
        clear HFs
        have HR : Hid (wholeSz b = t) := Lib.hid (by rw [HW.out, HSp.out rfl]; rfl)
        go_wp2_with (go_at_call 22; refine Calls.mono (by with_reducible exact HC.out) ?_; rintro e w1 ⟨rfl, hb⟩; have HB1 := Lib.hid (HBw.out.trans (hb.mono HBw.out.size)); clear hb)
        rw [Exit.noGoto_ret]
        go_ret
        exact ⟨ret_int (by rw [HR.out]), HB1.out⟩
      · have HC := Lib.hid (HFs.out (some ⟨g, o + t, none⟩) (c - t) (HByt.out.drop t) (by omega) (by unfold maxLen; omega))
        clear HFs
        by_cases hz : sz = 0
        · subst hz
          have HR : Hid (wholeSz b = t) := Lib.hid (by rw [HW.out, HSp.out rfl]; rfl)
          go_wp2_with (go_at_call 22; refine Calls.mono (by with_reducible exact HC.out) ?_; rintro e w1 ⟨rfl, hb⟩; have HB1 := Lib.hid (HBw.out.trans (hb.mono HBw.out.size)); clear hb)
          rw [Exit.noGoto_ret]
          go_ret
          exact ⟨ret_int (by rw [HR.out]), HB1.out⟩
        · have hz' : ((sz : Int) == 0) = false := by simp only [beq_eq_false_iff_ne]; omega
          have h8 := HF0.out hz
          have hsum : (t : Int) + (sz : Int) ≤ 9223372036854775807 := by omega
          have HW2 := Lib.hid (HSt.out hz)
          go_wp2_with (go_at_call 22; refine Calls.mono (by with_reducible exact HC.out) ?_; rintro e w1 ⟨rfl, hb⟩; have HB1 := Lib.hid (HBw.out.trans (hb.mono HBw.out.size)); clear hb)
          go_roundw
          case rel => exact ⟨t + sz, by omega, by go_num, Lib.hid (by rw [HW.out, HW2.out]; omega), HB1⟩
          case measure => simp [intOf]; omega
end Go.Proofs.YtilbmbheancciaaDoor
