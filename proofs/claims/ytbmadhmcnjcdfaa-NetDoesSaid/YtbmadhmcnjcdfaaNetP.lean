/- The law NetCounts. -/
import Derived.Test.YtbmadhmcnjcdfaaNetN
import Derived.Test.YtbmadhmcnjcdfaaNetOps
set_option linter.unusedSimpArgs false
set_option linter.unusedVariables false
namespace Go.Net
/-- How many are lost or on their way. -/
def cnt (s : St) : Int := s.lost + (s.l.length : Int)
structure CStep (s s2 : St) (r : Int) : Prop where
  yes : (r = 0 ∨ r = 2) → cnt s2 = cnt s + 1
  no : ¬ (r = 0 ∨ r = 2) → cnt s2 = cnt s
  last : s2.last ≤ s.last + 1
theorem step_add (s : St) (fr dst : Int) (b : List UInt8) : CStep s (addS s fr dst b).2 (addS s fr dst b).1.2 := by
  unfold addS
  by_cases h : 4096 ≤ s.l.length
  · rw [if_pos h]; exact ⟨fun _ => by show s.lost + 1 + (s.l.length : Int) = s.lost + (s.l.length : Int) + 1; omega, fun h => absurd (.inr rfl) h, by show s.last ≤ _; omega⟩
  · rw [if_neg h]; exact ⟨fun _ => by show s.lost + ((s.l ++ [_]).length : Int) = s.lost + (s.l.length : Int) + 1; simp only [List.length_append, List.length_singleton]; omega, fun h => absurd (.inl rfl) h, Int.le_refl _⟩
theorem step_send (s : St) (fr dst : Int) (b : List UInt8) : CStep s (sendS s fr dst b).2 (sendS s fr dst b).1.2 := by
  unfold sendS
  by_cases h : ¬ (isP s fr ∧ isP s dst)
  · rw [if_pos h]; exact ⟨(fun h => by rcases h with h | h <;> cases h), fun _ => rfl, by show s.last ≤ _; omega⟩
  · rw [if_neg h]
    by_cases h2 : 32832 < b.length
    · rw [if_pos h2]; exact ⟨(fun h => by rcases h with h | h <;> cases h), fun _ => rfl, by show s.last ≤ _; omega⟩
    · rw [if_neg h2]; exact step_add s fr dst b
theorem step_again (s : St) (i : Int) : CStep s (againS s i).2 (againS s i).1.2 := by
  unfold againS
  by_cases h : idx s.l i < s.l.length
  · rw [dif_pos h]; exact step_add s _ _ _
  · rw [dif_neg h]; exact ⟨(fun h => by rcases h with h | h <;> cases h), fun _ => rfl, by show s.last ≤ _; omega⟩
theorem cnt_take {s : St} {i : Int} {q : Pk} (h : s.l[idx s.l i]? = some q) : cnt s = cnt (takeS s i) + 1 := by
  have hl : idx s.l i < s.l.length := (List.getElem?_eq_some_iff.1 h).1
  unfold cnt takeS
  simp only [List.length_eraseIdx_of_lt hl]
  omega
theorem cnt_drop (s : St) (i : Int) : cnt (dropS s i).2 = cnt s ∧ (dropS s i).2.last = s.last := by
  unfold dropS
  by_cases h : idx s.l i < s.l.length
  · rw [if_pos h]
    refine ⟨?_, rfl⟩
    unfold cnt takeS
    simp only [List.length_eraseIdx_of_lt h]
    omega
  · rw [if_neg h]; exact ⟨rfl, rfl⟩
theorem cnt_part (s : St) (a b : Int) : cnt (partS s a b).2 = cnt s ∧ (partS s a b).2.last = s.last := by
  unfold partS
  by_cases h : ¬ (isP s a ∧ isP s b)
  · rw [if_pos h]; exact ⟨rfl, rfl⟩
  · rw [if_neg h]; exact ⟨by unfold cnt; show s.lost + ((s.l.length : Int) - ((left s.l a b).length : Int)) + ((left s.l a b).length : Int) = _; omega, rfl⟩
end Go.Net
namespace Go.Proofs.Ytbmadhmcnjcdfaa
open Go.ChangeShapes Go.WideShapes Go.ChangeAt Go.RowKit Go.Base Go.Net

section
variable {T : TypeId} {B : Nat} {w : World} {p : Nat} {s : St}
theorem NL.ok (h : NL T B w p s) : NOk s := h.1.good
theorem partL (h : NL T B w p s) (a b : Int) (hk2 : s.lost + 4096 ≤ 9223372036854775807) :
    Calls Try.prog 19 #[.pointer (some ⟨p, 0, none⟩), .int .i64 a, .int .i64 b] w fun e w' => e = .returned (.tuple #[.int .i64 (partS s a b).1.1, .int .i64 (partS s a b).1.2]) ∧ NL T B w' p (partS s a b).2 ∧ Below B w w' := by
  obtain ⟨⟨A, c, vs, hx⟩, hB⟩ := h
  exact (part_any hx a b hk2).mono fun e w' h => NL.op hB h
/-- What a call comes to, where it may count. -/
def Coming (T : TypeId) (B : Nat) (w : World) (p : Nat) (s : St) (f : Nat) (args : Array Value) : Prop :=
  ∃ (r1 r2 : Int) (s2 : St), CStep s s2 r2 ∧ Calls Try.prog f args w fun e w' => e = .returned (.tuple #[.int .i64 r1, .int .i64 r2]) ∧ NL T B w' p s2 ∧ Below B w w'
end
set_option maxHeartbeats 16000000 in
set_option maxRecDepth 20000 in
theorem law_counts (A0 : Option Addr) (l : List NOp) (n c0 : Nat) (w : World) (hl : NOps w A0 l) (hn : l.length = n) (hm : n ≤ maxLen) :
    Calls Try.prog 4 #[.slice A0 n c0] w fun e w' => e = .returned (.bool true) ∧ Below w.heap.size w w' := by
  have HLi := Lib.hid (fun V => nlives_any V)
  have HL := Lib.hid hl
  have HLn := Lib.hid hn
  unfold maxLen at hm
  clear hl hn
  go_enter Try.func4, Try.ntmps4
  go_wp2_with (first
    | (go_at_call 7; refine Calls.mono (newL (by decide) (by decide) _) ?_; rintro e w1 ⟨p, rfl, hn, hb⟩; have HN := Lib.hid hn; have HB := Lib.hid hb; clear hn hb)
    | (go_at_call 9; refine Calls.mono (HLi.out _) ?_; rintro e w2 ⟨rfl, hb⟩; have HN2 := Lib.hid (HN.out.later hb); have HB2 := Lib.hid (HB.out.trans (hb.mono HB.out.size)); clear hb))
  go_loopw [5, 6, 7] (fun mv tv iv wr => ∃ (k : Nat) (md tk : Int) (s : St), (k : Int) ≤ 400 ∧ k ≤ n ∧ 0 ≤ tk ∧ tk ≤ 400 ∧ 0 ≤ md ∧ md ≤ 400 ∧ mv = .int .i64 md ∧ tv = .int .i64 tk ∧ iv = .int .i64 (k : Int) ∧ Hid (md = tk + cnt s ∧ md ≤ k ∧ tk ≤ k ∧ s.last ≤ k) ∧ Hid (NL 55 w.heap.size wr p s) ∧ Hid (Below w.heap.size w wr)) (fun _ _ iv _ => n - (intOf iv).toNat)
  case atStart => exact ⟨0, 0, 0, ⟨4, 0, 0, []⟩, by decide, Nat.zero_le _, by decide, by decide, by decide, by decide, rfl, rfl, rfl, Lib.hid ⟨rfl, by decide, by decide, by decide⟩, HN2, HB2⟩
  case round =>
    obtain ⟨k, md, tk, s, hk4, hkn, ht0, ht4, hm0, hm4, rfl, rfl, rfl, HI, HNr, HBr⟩ := hrel
    have hkz : (0 : Int) ≤ (k : Int) := by omega
    by_cases hk1 : k < n ∧ (k : Int) < 400
    · obtain ⟨hk1, hk3⟩ := hk1
      have hk1' : (k : Int) < (n : Int) := by omega
      have hh : k < l.length := by rw [HLn.out]; exact hk1
      obtain ⟨g, o, rfl, hc, hfit⟩ := HL.out k hh
      have HBx := Lib.hid (below_alloc wr (.cells #[.int .i64 l[k].kind, .int .i64 l[k].a, .int .i64 l[k].b, .slice l[k].bA l[k].bl.length l[k].bc] 33))
      have HNx := Lib.hid (HNr.out.later HBx.out)
      obtain ⟨p0, p1, p2, p3⟩ := hc
      have r0 := cell_later (HBr.out) p0
      have r1 := cell_later (HBr.out) p1
      have r2 := cell_later (HBr.out) p2
      have r3 := cell_later (HBr.out) p3
      clear p0 p1 p2 p3
      have hok := HNr.out.ok
      have hl0 := hok.lost0
      have hcs : cnt s = s.lost + (s.l.length : Int) := rfl
      have hin := HI.out
      have HS1 : Hid (Coming 55 w.heap.size (wr.alloc (.cells #[.int .i64 l[k].kind, .int .i64 l[k].a, .int .i64 l[k].b, .slice l[k].bA l[k].bl.length l[k].bc] 33)) p s 10 #[.pointer (some ⟨p, 0, none⟩), .int .i64 l[k].a, .int .i64 l[k].b, .slice l[k].bA l[k].bl.length l[k].bc]) := Lib.hid
        ⟨_, _, _, step_send s l[k].a l[k].b l[k].bl, sendL HNx.out _ _ _ _ _ (hfit.y.later (HBr.out.trans (HBx.out.mono HBr.out.size))) (by have := hfit.m; unfold maxLen at this; omega) (by omega) (by omega)⟩
      have HS4 : Hid (Coming 55 w.heap.size (wr.alloc (.cells #[.int .i64 l[k].kind, .int .i64 l[k].a, .int .i64 l[k].b, .slice l[k].bA l[k].bl.length l[k].bc] 33)) p s 17 #[.pointer (some ⟨p, 0, none⟩), .int .i64 l[k].a]) := Lib.hid
        ⟨_, _, _, step_again s l[k].a, againL HNx.out _ (by omega) (by omega)⟩
      have HS3 := Lib.hid (dropL HNx.out l[k].a (by omega))
      have HS5 := Lib.hid (partL HNx.out l[k].a l[k].b (by omega))
      obtain ⟨z, hz⟩ : ∃ z, z = l[k] := ⟨_, rfl⟩
      rw [← hz] at r0 r1 r2 r3 HS1 HS3 HS4 HS5 HBx HNx
      clear hz hfit hin hcs hl0 hok hh
      obtain ⟨x0, hx0⟩ : ∃ x, x = z.kind := ⟨_, rfl⟩
      rw [← hx0] at r0 HS1 HS3 HS4 HS5 HBx HNx
      clear hx0
      have hnx : ∀ s2 : St, cnt s2 = s2.lost + (s2.l.length : Int) := fun _ => rfl
      have HC := Lib.hid hnx
      clear hnx
      by_cases h1 : x0 = 1
      · subst h1
        obtain ⟨q1, q2, s2, hst, hcall⟩ := HS1.out
        have HCa := Lib.hid hcall
        have HSt := Lib.hid hst
        clear hcall hst HS1 HS3 HS4 HS5
        by_cases hq : q2 = 0 ∨ q2 = 2
        · have hcn : cnt s2 = cnt s + 1 := HSt.out.yes hq
          have hE : (md + 1 != tk + s2.lost + (s2.l.length : Int)) = false := by
            have h3 := HC.out s2
            have h2 := HI.out.1
            have : md + 1 = tk + s2.lost + (s2.l.length : Int) := by omega
            simp [this]
          have HJ : Hid (md + 1 = tk + cnt s2 ∧ md + 1 ≤ k + 1 ∧ tk ≤ k + 1 ∧ s2.last ≤ ((k + 1 : Nat) : Int)) := Lib.hid (by
            have h2 := HI.out
            have h4 := HNr.out.ok.lost0
            have h5 := HSt.out.last
            refine ⟨by omega, by omega, by omega, by omega⟩)
          have hlc : s2.lost + (s2.l.length : Int) ≤ 800 := by
            have h3 := HC.out s2
            have h2 := HI.out
            omega
          clear hcn
          rcases hq with rfl | rfl
          · go_wp2_with (first
              | (go_at_call 10; refine Calls.mono HCa.out ?_; rintro e w3 ⟨rfl, hn3, hb3⟩; have hok3 := hn3.ok; have hlo := hok3.lost0; have hfe := hok3.few; have HN3 := Lib.hid hn3; have HB3 := Lib.hid ((HBr.out.trans (HBx.out.mono HBr.out.size)).trans hb3); clear hn3 hb3 hok3)
              | (go_at_call 22; refine Calls.mono (lostL HN3.out) ?_; rintro e w4 ⟨rfl, rfl⟩)
              | (go_at_call 23; refine Calls.mono (lenL HN3.out) ?_; rintro e w4 ⟨rfl, rfl⟩))
            go_roundw
            case rel => exact ⟨k + 1, md + 1, tk, s2, by omega, by omega, by omega, (by have := HJ.out; omega), by omega, (by have := HJ.out; omega), rfl, rfl, by go_num, HJ, HN3, HB3⟩
            case measure => simp [intOf]; omega
          · go_wp2_with (first
              | (go_at_call 10; refine Calls.mono HCa.out ?_; rintro e w3 ⟨rfl, hn3, hb3⟩; have hok3 := hn3.ok; have hlo := hok3.lost0; have hfe := hok3.few; have HN3 := Lib.hid hn3; have HB3 := Lib.hid ((HBr.out.trans (HBx.out.mono HBr.out.size)).trans hb3); clear hn3 hb3 hok3)
              | (go_at_call 22; refine Calls.mono (lostL HN3.out) ?_; rintro e w4 ⟨rfl, rfl⟩)
              | (go_at_call 23; refine Calls.mono (lenL HN3.out) ?_; rintro e w4 ⟨rfl, rfl⟩))
            go_roundw
            case rel => exact ⟨k + 1, md + 1, tk, s2, by omega, by omega, by omega, (by have := HJ.out; omega), by omega, (by have := HJ.out; omega), rfl, rfl, by go_num, HJ, HN3, HB3⟩
            case measure => simp [intOf]; omega
        · have hcn : cnt s2 = cnt s := HSt.out.no hq
          have hE : (md != tk + s2.lost + (s2.l.length : Int)) = false := by
            have h3 := HC.out s2
            have h2 := HI.out.1
            have : md = tk + s2.lost + (s2.l.length : Int) := by omega
            simp [this]
          have HJ : Hid (md = tk + cnt s2 ∧ md ≤ k + 1 ∧ tk ≤ k + 1 ∧ s2.last ≤ ((k + 1 : Nat) : Int)) := Lib.hid (by
            have h2 := HI.out
            have h4 := HNr.out.ok.lost0
            have h5 := HSt.out.last
            refine ⟨by omega, by omega, by omega, by omega⟩)
          have hlc : s2.lost + (s2.l.length : Int) ≤ 800 := by
            have h3 := HC.out s2
            have h2 := HI.out
            omega
          clear hcn
          have hq0 : (q2 == 0) = false := by simp; omega
          have hq2 : (q2 == 2) = false := by simp; omega
          clear hq
          go_wp2_with (first
            | (go_at_call 10; refine Calls.mono HCa.out ?_; rintro e w3 ⟨rfl, hn3, hb3⟩; have hok3 := hn3.ok; have hlo := hok3.lost0; have hfe := hok3.few; have HN3 := Lib.hid hn3; have HB3 := Lib.hid ((HBr.out.trans (HBx.out.mono HBr.out.size)).trans hb3); clear hn3 hb3 hok3)
            | (go_at_call 22; refine Calls.mono (lostL HN3.out) ?_; rintro e w4 ⟨rfl, rfl⟩)
            | (go_at_call 23; refine Calls.mono (lenL HN3.out) ?_; rintro e w4 ⟨rfl, rfl⟩))
          go_roundw
          case rel => exact ⟨k + 1, md, tk, s2, by omega, by omega, by omega, (by have := HJ.out; omega), by omega, (by have := HJ.out; omega), rfl, rfl, by go_num, HJ, HN3, HB3⟩
          case measure => simp [intOf]; omega
      by_cases h4 : x0 = 4
      · subst h4
        obtain ⟨q1, q2, s2, hst, hcall⟩ := HS4.out
        have HCa := Lib.hid hcall
        have HSt := Lib.hid hst
        clear hcall hst HS1 HS3 HS4 HS5
        by_cases hq : q2 = 0 ∨ q2 = 2
        · have hcn : cnt s2 = cnt s + 1 := HSt.out.yes hq
          have hE : (md + 1 != tk + s2.lost + (s2.l.length : Int)) = false := by
            have h3 := HC.out s2
            have h2 := HI.out.1
            have : md + 1 = tk + s2.lost + (s2.l.length : Int) := by omega
            simp [this]
          have HJ : Hid (md + 1 = tk + cnt s2 ∧ md + 1 ≤ k + 1 ∧ tk ≤ k + 1 ∧ s2.last ≤ ((k + 1 : Nat) : Int)) := Lib.hid (by
            have h2 := HI.out
            have h4 := HNr.out.ok.lost0
            have h5 := HSt.out.last
            refine ⟨by omega, by omega, by omega, by omega⟩)
          have hlc : s2.lost + (s2.l.length : Int) ≤ 800 := by
            have h3 := HC.out s2
            have h2 := HI.out
            omega
          clear hcn
          rcases hq with rfl | rfl
          · go_wp2_with (first
              | (go_at_call 17; refine Calls.mono HCa.out ?_; rintro e w3 ⟨rfl, hn3, hb3⟩; have hok3 := hn3.ok; have hlo := hok3.lost0; have hfe := hok3.few; have HN3 := Lib.hid hn3; have HB3 := Lib.hid ((HBr.out.trans (HBx.out.mono HBr.out.size)).trans hb3); clear hn3 hb3 hok3)
              | (go_at_call 22; refine Calls.mono (lostL HN3.out) ?_; rintro e w4 ⟨rfl, rfl⟩)
              | (go_at_call 23; refine Calls.mono (lenL HN3.out) ?_; rintro e w4 ⟨rfl, rfl⟩))
            go_roundw
            case rel => exact ⟨k + 1, md + 1, tk, s2, by omega, by omega, by omega, (by have := HJ.out; omega), by omega, (by have := HJ.out; omega), rfl, rfl, by go_num, HJ, HN3, HB3⟩
            case measure => simp [intOf]; omega
          · go_wp2_with (first
              | (go_at_call 17; refine Calls.mono HCa.out ?_; rintro e w3 ⟨rfl, hn3, hb3⟩; have hok3 := hn3.ok; have hlo := hok3.lost0; have hfe := hok3.few; have HN3 := Lib.hid hn3; have HB3 := Lib.hid ((HBr.out.trans (HBx.out.mono HBr.out.size)).trans hb3); clear hn3 hb3 hok3)
              | (go_at_call 22; refine Calls.mono (lostL HN3.out) ?_; rintro e w4 ⟨rfl, rfl⟩)
              | (go_at_call 23; refine Calls.mono (lenL HN3.out) ?_; rintro e w4 ⟨rfl, rfl⟩))
            go_roundw
            case rel => exact ⟨k + 1, md + 1, tk, s2, by omega, by omega, by omega, (by have := HJ.out; omega), by omega, (by have := HJ.out; omega), rfl, rfl, by go_num, HJ, HN3, HB3⟩
            case measure => simp [intOf]; omega
        · have hcn : cnt s2 = cnt s := HSt.out.no hq
          have hE : (md != tk + s2.lost + (s2.l.length : Int)) = false := by
            have h3 := HC.out s2
            have h2 := HI.out.1
            have : md = tk + s2.lost + (s2.l.length : Int) := by omega
            simp [this]
          have HJ : Hid (md = tk + cnt s2 ∧ md ≤ k + 1 ∧ tk ≤ k + 1 ∧ s2.last ≤ ((k + 1 : Nat) : Int)) := Lib.hid (by
            have h2 := HI.out
            have h4 := HNr.out.ok.lost0
            have h5 := HSt.out.last
            refine ⟨by omega, by omega, by omega, by omega⟩)
          have hlc : s2.lost + (s2.l.length : Int) ≤ 800 := by
            have h3 := HC.out s2
            have h2 := HI.out
            omega
          clear hcn
          have hq0 : (q2 == 0) = false := by simp; omega
          have hq2 : (q2 == 2) = false := by simp; omega
          clear hq
          go_wp2_with (first
            | (go_at_call 17; refine Calls.mono HCa.out ?_; rintro e w3 ⟨rfl, hn3, hb3⟩; have hok3 := hn3.ok; have hlo := hok3.lost0; have hfe := hok3.few; have HN3 := Lib.hid hn3; have HB3 := Lib.hid ((HBr.out.trans (HBx.out.mono HBr.out.size)).trans hb3); clear hn3 hb3 hok3)
            | (go_at_call 22; refine Calls.mono (lostL HN3.out) ?_; rintro e w4 ⟨rfl, rfl⟩)
            | (go_at_call 23; refine Calls.mono (lenL HN3.out) ?_; rintro e w4 ⟨rfl, rfl⟩))
          go_roundw
          case rel => exact ⟨k + 1, md, tk, s2, by omega, by omega, by omega, (by have := HJ.out; omega), by omega, (by have := HJ.out; omega), rfl, rfl, by go_num, HJ, HN3, HB3⟩
          case measure => simp [intOf]; omega
      by_cases h3 : x0 = 3
      · subst h3
        obtain ⟨hcn, hla⟩ := cnt_drop s z.a
        obtain ⟨q1, hq1⟩ : ∃ q, q = (dropS s z.a).1 := ⟨_, rfl⟩
        obtain ⟨s2, hs2⟩ : ∃ s2, s2 = (dropS s z.a).2 := ⟨_, rfl⟩
        have HCa := HS3
        rw [← hq1, ← hs2] at HCa
        rw [← hs2] at hcn hla
        have HLa : Hid (s2.last ≤ s.last + 1) := Lib.hid (by omega)
        clear hq1 hs2 hla HS1 HS3 HS4 HS5
        have hE : (md != tk + s2.lost + (s2.l.length : Int)) = false := by
          have h3 := HC.out s2
          have h2 := HI.out.1
          have : md = tk + s2.lost + (s2.l.length : Int) := by omega
          simp [this]
        have HJ : Hid (md = tk + cnt s2 ∧ md ≤ k + 1 ∧ tk ≤ k + 1 ∧ s2.last ≤ ((k + 1 : Nat) : Int)) := Lib.hid (by
          have h2 := HI.out
          have h4 := HNr.out.ok.lost0
          have h5 := HLa.out
          refine ⟨by omega, by omega, by omega, by omega⟩)
        have hlc : s2.lost + (s2.l.length : Int) ≤ 800 := by
          have h3 := HC.out s2
          have h2 := HI.out
          omega
        clear hcn
        go_wp2_with (first
          | (go_at_call 15; refine Calls.mono HCa.out ?_; rintro e w3 ⟨rfl, hn3, hb3⟩; have hok3 := hn3.ok; have hlo := hok3.lost0; have hfe := hok3.few; have HN3 := Lib.hid hn3; have HB3 := Lib.hid ((HBr.out.trans (HBx.out.mono HBr.out.size)).trans hb3); clear hn3 hb3 hok3)
          | (go_at_call 22; refine Calls.mono (lostL HN3.out) ?_; rintro e w4 ⟨rfl, rfl⟩)
          | (go_at_call 23; refine Calls.mono (lenL HN3.out) ?_; rintro e w4 ⟨rfl, rfl⟩))
        go_roundw
        case rel => exact ⟨k + 1, md, tk, s2, by omega, by omega, by omega, (by have := HJ.out; omega), by omega, (by have := HJ.out; omega), rfl, rfl, by go_num, HJ, HN3, HB3⟩
        case measure => simp [intOf]; omega
      by_cases h5 : x0 = 5
      · subst h5
        obtain ⟨hcn, hla⟩ := cnt_part s z.a z.b
        obtain ⟨q1, hq1⟩ : ∃ q, q = (partS s z.a z.b).1.1 := ⟨_, rfl⟩
        obtain ⟨q2, hq2⟩ : ∃ q, q = (partS s z.a z.b).1.2 := ⟨_, rfl⟩
        obtain ⟨s2, hs2⟩ : ∃ s2, s2 = (partS s z.a z.b).2 := ⟨_, rfl⟩
        have HCa := HS5
        rw [← hq1, ← hq2, ← hs2] at HCa
        rw [← hs2] at hcn hla
        have HLa : Hid (s2.last ≤ s.last + 1) := Lib.hid (by omega)
        clear hq1 hq2 hs2 hla HS1 HS3 HS4 HS5
        have hE : (md != tk + s2.lost + (s2.l.length : Int)) = false := by
          have h3 := HC.out s2
          have h2 := HI.out.1
          have : md = tk + s2.lost + (s2.l.length : Int) := by omega
          simp [this]
        have HJ : Hid (md = tk + cnt s2 ∧ md ≤ k + 1 ∧ tk ≤ k + 1 ∧ s2.last ≤ ((k + 1 : Nat) : Int)) := Lib.hid (by
          have h2 := HI.out
          have h4 := HNr.out.ok.lost0
          have h5 := HLa.out
          refine ⟨by omega, by omega, by omega, by omega⟩)
        have hlc : s2.lost + (s2.l.length : Int) ≤ 800 := by
          have h3 := HC.out s2
          have h2 := HI.out
          omega
        clear hcn
        go_wp2_with (first
          | (go_at_call 19; refine Calls.mono HCa.out ?_; rintro e w3 ⟨rfl, hn3, hb3⟩; have hok3 := hn3.ok; have hlo := hok3.lost0; have hfe := hok3.few; have HN3 := Lib.hid hn3; have HB3 := Lib.hid ((HBr.out.trans (HBx.out.mono HBr.out.size)).trans hb3); clear hn3 hb3 hok3)
          | (go_at_call 22; refine Calls.mono (lostL HN3.out) ?_; rintro e w4 ⟨rfl, rfl⟩)
          | (go_at_call 23; refine Calls.mono (lenL HN3.out) ?_; rintro e w4 ⟨rfl, rfl⟩))
        go_roundw
        case rel => exact ⟨k + 1, md, tk, s2, by omega, by omega, by omega, (by have := HJ.out; omega), by omega, (by have := HJ.out; omega), rfl, rfl, by go_num, HJ, HN3, HB3⟩
        case measure => simp [intOf]; omega
      by_cases h2 : x0 = 2
      · subst h2
        clear HS1 HS3 HS4 HS5
        rcases hq : s.l[idx s.l z.a]? with _ | q
        · have HCa := Lib.hid (takeL_miss HNx.out z.a hq)
          have hcn : cnt s = cnt s := rfl
          have hE : (md != tk + s.lost + (s.l.length : Int)) = false := by
            have h3 := HC.out s
            have h2 := HI.out.1
            have : md = tk + s.lost + (s.l.length : Int) := by omega
            simp [this]
          have HJ : Hid (md = tk + cnt s ∧ md ≤ k + 1 ∧ tk ≤ k + 1 ∧ s.last ≤ ((k + 1 : Nat) : Int)) := Lib.hid (by
            have h2 := HI.out
            have h4 := HNr.out.ok.lost0
            refine ⟨by omega, by omega, by omega, by omega⟩)
          have hlc : s.lost + (s.l.length : Int) ≤ 800 := by
            have h3 := HC.out s
            have h2 := HI.out
            omega
          clear hcn
          go_wp2_with (first
            | (go_at_call 12; refine Calls.mono HCa.out ?_; rintro e w3 ⟨rfl, hn3, hb3⟩; have hok3 := hn3.ok; have hlo := hok3.lost0; have hfe := hok3.few; have HN3 := Lib.hid (hn3.later (below_alloc w3 (.cells #[.int .i64 0, .int .i64 0, .int .i64 0, .slice none 0 0] 37))); have HB3 := Lib.hid (((HBr.out.trans (HBx.out.mono HBr.out.size)).trans hb3).alloc ((HBr.out.trans (HBx.out.mono HBr.out.size)).trans hb3).size (.cells #[.int .i64 0, .int .i64 0, .int .i64 0, .slice none 0 0] 37)); clear hn3 hb3 hok3)
            | (go_at_call 22; refine Calls.mono (lostL HN3.out) ?_; rintro e w4 ⟨rfl, rfl⟩)
            | (go_at_call 23; refine Calls.mono (lenL HN3.out) ?_; rintro e w4 ⟨rfl, rfl⟩))
          go_roundw
          case rel => exact ⟨k + 1, md, tk, s, by omega, by omega, by omega, (by have := HJ.out; omega), by omega, (by have := HJ.out; omega), rfl, rfl, by go_num, HJ, HN3, HB3⟩
          case measure => simp [intOf]; omega
        · have HCa := Lib.hid (takeL_hit HNx.out z.a q hq)
          have hcn := cnt_take hq
          have HLa : Hid ((takeS s z.a).last ≤ s.last + 1) := Lib.hid (by show s.last ≤ _; omega)
          obtain ⟨s2, hs2⟩ : ∃ s2, s2 = takeS s z.a := ⟨_, rfl⟩
          rw [← hs2] at HCa hcn HLa
          clear hs2 hq
          have hE : (md != (tk + 1) + s2.lost + (s2.l.length : Int)) = false := by
            have h3 := HC.out s2
            have h2 := HI.out.1
            have : md = (tk + 1) + s2.lost + (s2.l.length : Int) := by omega
            simp [this]
          have HJ : Hid (md = (tk + 1) + cnt s2 ∧ md ≤ k + 1 ∧ (tk + 1) ≤ k + 1 ∧ s2.last ≤ ((k + 1 : Nat) : Int)) := Lib.hid (by
            have h2 := HI.out
            have h4 := HNr.out.ok.lost0
            have h5 := HLa.out
            refine ⟨by omega, by omega, by omega, by omega⟩)
          have hlc : s2.lost + (s2.l.length : Int) ≤ 800 := by
            have h3 := HC.out s2
            have h2 := HI.out
            omega
          clear hcn
          go_wp2_with (first
            | (go_at_call 12; refine Calls.mono HCa.out ?_; rintro e w3 ⟨A3, d3, rfl, _, hn3, hb3⟩; have hok3 := hn3.ok; have hlo := hok3.lost0; have hfe := hok3.few; have HN3 := Lib.hid (hn3.later (below_alloc w3 (.cells #[.int .i64 q.id, .int .i64 q.fr, .int .i64 q.dst, .slice A3 q.body.length d3] 37))); have HB3 := Lib.hid (((HBr.out.trans (HBx.out.mono HBr.out.size)).trans hb3).alloc ((HBr.out.trans (HBx.out.mono HBr.out.size)).trans hb3).size (.cells #[.int .i64 q.id, .int .i64 q.fr, .int .i64 q.dst, .slice A3 q.body.length d3] 37)); clear hn3 hb3 hok3)
            | (go_at_call 22; refine Calls.mono (lostL HN3.out) ?_; rintro e w4 ⟨rfl, rfl⟩)
            | (go_at_call 23; refine Calls.mono (lenL HN3.out) ?_; rintro e w4 ⟨rfl, rfl⟩))
          go_roundw
          case rel => exact ⟨k + 1, md, (tk + 1), s2, by omega, by omega, by omega, (by have := HJ.out; omega), by omega, (by have := HJ.out; omega), rfl, rfl, by go_num, HJ, HN3, HB3⟩
          case measure => simp [intOf]; omega
      · have e1 : (x0 == 1) = false := by simpa using h1
        have e2 : (x0 == 2) = false := by simpa using h2
        have e3 : (x0 == 3) = false := by simpa using h3
        have e4 : (x0 == 4) = false := by simpa using h4
        have e5 : (x0 == 5) = false := by simpa using h5
        have hcn : cnt s = cnt s := rfl
        clear h1 h2 h3 h4 h5 HS1 HS3 HS4 HS5
        have hE : (md != tk + s.lost + (s.l.length : Int)) = false := by
          have h3 := HC.out s
          have h2 := HI.out.1
          have : md = tk + s.lost + (s.l.length : Int) := by omega
          simp [this]
        have HJ : Hid (md = tk + cnt s ∧ md ≤ k + 1 ∧ tk ≤ k + 1 ∧ s.last ≤ ((k + 1 : Nat) : Int)) := Lib.hid (by
          have h2 := HI.out
          have h4 := HNr.out.ok.lost0
          refine ⟨by omega, by omega, by omega, by omega⟩)
        have HN3 := HNx
        have HB3 := Lib.hid (HBr.out.trans (HBx.out.mono HBr.out.size))
        have hlo := HNr.out.ok.lost0
        have hfe := HNr.out.ok.few
        have hlc : s.lost + (s.l.length : Int) ≤ 800 := by
          have h3 := HC.out s
          have h2 := HI.out
          omega
        clear hcn
        go_wp2_with (first
          | (go_at_call 22; refine Calls.mono (lostL HN3.out) ?_; rintro e w4 ⟨rfl, rfl⟩)
          | (go_at_call 23; refine Calls.mono (lenL HN3.out) ?_; rintro e w4 ⟨rfl, rfl⟩))
        go_roundw
        case rel => exact ⟨k + 1, md, tk, s, by omega, by omega, by omega, (by have := HJ.out; omega), by omega, (by have := HJ.out; omega), rfl, rfl, by go_num, HJ, HN3, HB3⟩
        case measure => simp [intOf]; omega
    · by_cases hk2 : k < n
      · have hk3 : ¬ (k : Int) < 400 := by omega
        have hk2' : (k : Int) < (n : Int) := by omega
        go_wp2
        go_ret
        exact ⟨rfl, HBr.out⟩
      · have hk3 : ¬ (k : Int) < (n : Int) := by omega
        go_wp2
        go_ret
        exact ⟨rfl, HBr.out⟩
end Go.Proofs.Ytbmadhmcnjcdfaa
