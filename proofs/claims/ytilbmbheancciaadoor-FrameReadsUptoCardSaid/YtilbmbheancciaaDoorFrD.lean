/- Walks of package frame: payloadOf, First, All. -/
import Derived.Test.YtilbmbheancciaaDoorFrC
import Derived.Test.YtilbmbheancciaaDoorAppendK
set_option linter.unusedSimpArgs false
set_option linter.unusedVariables false
namespace Go.Proofs.YtilbmbheancciaaDoor
open Go.ChangeShapes Go.WideShapes Go.ChangeAt Go.RowKit Go.Base Go.Mx Go.Fr

set_option maxHeartbeats 1000000 in
theorem payloadOf_any (g o n c : Nat) (w : World) (hn : 8 ≤ n) (hc : n ≤ c) (hcm : c ≤ maxLen) :
    Calls Tryd.prog 23 #[.slice (some ⟨g, o, none⟩) n c] w fun e w' => (∃ B, e = .returned (.slice B (n - 8) (n - 8)) ∧ (n = 8 ∨ B = some ⟨g, o + 8, none⟩)) ∧ w = w' := by
  unfold maxLen at hcm
  have hn' : (8 : Int) ≤ (n : Int) := by omega
  have hc' : (n : Int) ≤ (c : Int) := by omega
  have hcm' : (c : Int) ≤ 9223372036854775807 := by omega
  by_cases h8 : n = 8
  · subst h8
    go_enter Tryd.func23, Tryd.ntmps23
    go_wp2
    go_ret
    exact ⟨⟨_, rfl, by simp⟩, rfl⟩
  · go_enter Tryd.func23, Tryd.ntmps23
    go_wp2
    go_ret
    exact ⟨⟨_, rfl, .inr rfl⟩, rfl⟩
theorem byt_pay {w : World} {g o n : Nat} {B : Option Addr} {x : List UInt8} (h : Byt w (some ⟨g, o, none⟩) x) (hn : x.length = n) (hB : n = 8 ∨ B = some ⟨g, o + 8, none⟩) : Byt w B (x.drop 8) := by
  rcases hB with h8 | rfl
  · rw [List.drop_of_length_le (by omega)]; exact Byt.nil _ _
  · exact h.drop 8
def FirstPost (b : List UInt8) (w : World) (e : Ending) (w' : World) : Prop :=
  (firstSz b = 0 → e = .returned (.tuple #[.slice none 0 0, .int .i64 0, .bool false])) ∧
  (firstSz b ≠ 0 → ∃ A c, e = .returned (.tuple #[.slice A (firstSz b - 8) c, .int .i64 (firstSz b : Nat), .bool true]) ∧ Byt w' A ((b.take (firstSz b)).drop 8)) ∧ Below w.heap.size w w'
set_option maxHeartbeats 2000000 in
theorem first_any (A : Option Addr) (b : List UInt8) (n c : Nat) (w : World) (hbn : b.length = n) (hT : Tab w) (hb : Byt w A b) (hc : n ≤ c) (hcm : c ≤ maxLen) :
    Calls Tryd.prog 12 #[.slice A n c] w (FirstPost b w) := by
  have HFs := Lib.hid (firstSize_any A b n c w hbn hT hb hc hcm)
  have HB := Lib.hid hb
  have HN := Lib.hid hbn
  have hle := firstSz_le b
  rw [hbn] at hle
  unfold maxLen at hcm
  have hc' : (n : Int) ≤ (c : Int) := by omega
  have hcm' : (c : Int) ≤ 9223372036854775807 := by omega
  clear hb hbn hT
  by_cases hz : firstSz b = 0
  · have HZ := Lib.hid hz
    rw [hz] at HFs
    clear hz hle
    go_enter Tryd.func12, Tryd.ntmps12
    go_wp2_with (go_at_call 22; refine Calls.mono (by with_reducible exact HFs.out) ?_; rintro e w1 ⟨rfl, hb⟩; have HB1 := Lib.hid hb; clear hb)
    go_ret3
    exact ⟨(fun _ => rfl), (fun h => absurd HZ.out h), HB1.out⟩
  · have h8 := firstSz_ge hz
    have HZ := Lib.hid hz
    have hfr := (first_frame hz)
    have h65 : firstSz b ≤ 65544 := by omega
    clear hfr hz
    obtain ⟨g, o, rfl, _⟩ := HB.out 0 (by have := HN.out; omega)
    have hsn : ((firstSz b : Int) == 0) = false := by simp only [beq_eq_false_iff_ne]; omega
    have hs8 : (8 : Int) ≤ (firstSz b : Int) := by omega
    have hsc : (firstSz b : Int) ≤ (c : Int) := by omega
    have HLen : Hid ((b.take (firstSz b)).length = firstSz b) := Lib.hid (by rw [List.length_take, HN.out]; omega)
    have HCl : Hid (∀ V, Below w.heap.size w V → Calls Tryd.prog 24 #[.slice (some ⟨g, o, none⟩) (firstSz b) c] V (ClonePost V (b.take (firstSz b)))) := Lib.hid (fun V hv => by
      have := clone_any (some ⟨g, o, none⟩) (b.take (firstSz b)) c V ((HB.out.later hv).take _) (by rw [HLen.out]; omega)
      rw [HLen.out] at this; exact this)
    go_enter Tryd.func12, Tryd.ntmps12
    go_wp2_with (first
      | (go_at_call 22; refine Calls.mono (by with_reducible exact HFs.out) ?_; rintro e w1 ⟨rfl, hb⟩; have HB1 := Lib.hid hb; clear hb)
      | (go_at_call 24; refine Calls.mono (by with_reducible exact HCl.out _ HB1.out) ?_; rintro e w2 ⟨A2, c2, rfl, hy, hb, _, hc2, hcm2⟩; rw [HLen.out] at hc2 ⊢; have HB2 := Lib.hid (HB1.out.trans (hb.mono HB1.out.size)); have HY := Lib.hid hy; have HC2 := Lib.hid (And.intro hc2 hcm2); clear hy hb hc2 hcm2; obtain ⟨g2, o2, rfl, _⟩ := HY.out 0 (by rw [HLen.out]; omega))
      | (go_at_call 23; refine Calls.mono (by with_reducible exact payloadOf_any g2 o2 (firstSz b) c2 _ h8 HC2.out.1 HC2.out.2) ?_; rintro e w3 ⟨⟨B3, rfl, hB3⟩, rfl⟩; have HB3 := Lib.hid hB3; clear hB3))
    go_ret3
    refine ⟨(fun h => absurd h HZ.out), (fun _ => ⟨_, _, rfl, byt_pay HY.out HLen.out HB3.out⟩), HB2.out⟩
end Go.Proofs.YtilbmbheancciaaDoor
