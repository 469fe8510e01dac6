/- Walks of the reference's own items. -/
import Derived.Test.YtbbleedepmcdfaaDoorCrpJ
set_option linter.unusedSimpArgs false
set_option linter.unusedVariables false
namespace Go.Proofs.YtbbleedepmcdfaaDoor
open Go.ChangeShapes Go.WideShapes Go.ChangeAt Go.RowKit Go.Base Go.Cro Go.Civ

abbrev itemV (r : Int × Bool × Int) : Value := .tuple #[.int .u64 r.1, .bool r.2.1, .int .i64 r.2.2]
/-- Of a span: what the numbers are where it is at fault in no way. -/
theorem refSpan_bd (k : Nat) (hk : k < 5) (l : Bytes) (st : Bool) (h : (refSpan k l st).2.2 = 0) : 0 ≤ (refSpan k l st).1 ∧ (refSpan k l st).1 ≤ 99 ∧ (refSpan k l st).2.1 ≤ (scB k).said := by
  have hn : ∀ x, (refNum k x).2 = 0 → 0 ≤ (refNum k x).1 ∧ (refNum k x).1 ≤ (scB k).said := fun x hx => by
    rw [refNum_eq k hk] at hx ⊢
    have := scB_bd k
    cases hr : rdB k x with
    | none => rw [hr] at hx; simp at hx
    | some n =>
      rw [hr] at hx
      simp only at hx ⊢
      split at hx
      · simp at hx
      · rename_i hc; rw [if_neg hc]; simp only; omega
  have hb := scB_bd k
  have hsc : (scB k).least ≤ (scB k).most ∧ (scB k).most ≤ (scB k).said := by
    rcases (by omega : k = 0 ∨ k = 1 ∨ k = 2 ∨ k = 3 ∨ k = 4) with rfl | rfl | rfl | rfl | rfl <;> simp [scB]
  unfold refSpan at h ⊢
  split
  · simp only; omega
  · rename_i h42
    rw [if_neg h42] at h
    split
    · rename_i h2
      rw [if_pos h2] at h
      unfold refTwo at h ⊢
      split
      · rename_i h3; rw [if_pos h3] at h; simp at h
      · rename_i h3
        rw [if_neg h3] at h
        split
        · rename_i h4; rw [if_pos h4] at h; simp at h
        · rename_i h4
          have e1 := hn (cutB 45 l).1 (by omega)
          have e2 := hn (cutB 45 l).2.1 (by omega)
          simp only; omega
    · rename_i h2
      rw [if_neg h2] at h
      unfold refOne at h ⊢
      split
      · rename_i h3
        have e1 := hn (cutB 45 l).1 h3.2.1
        simp only; omega
      · rename_i h3
        rw [if_neg h3] at h
        have e1 := hn (cutB 45 l).1 h
        simp only; omega
theorem stepB_none {b : Bytes} (h : stepB b = none) : numB b = none ∨ ∃ c, b = [48, c] ∧ ∃ n, numB b = some n := by
  unfold stepB at h
  split at h
  · rename_i hc
    match b, hc with
    | [x, y], ⟨_, hh⟩ =>
      simp at hh; subst hh
      cases hn : numB [48, y] with
      | none => exact .inl rfl
      | some n => exact .inr ⟨y, rfl, n, rfl⟩
    | x :: y :: z :: r, _ => exact .inl rfl
  · exact .inl h
theorem stepB_some {b : Bytes} {n : Int} (h : stepB b = some n) : numB b = some n ∧ ((∃ c, b = [c]) ∨ ∃ c d, b = [c, d] ∧ c ≠ 48) := by
  unfold stepB at h
  split at h
  · cases h
  · rename_i hc
    refine ⟨h, ?_⟩
    match b, h, hc with
    | [], h, _ => cases h
    | [c], _, _ => exact .inl ⟨c, rfl⟩
    | [c, d], _, hc => exact .inr ⟨c, d, rfl, fun e => hc ⟨by simp, by simp [e]⟩⟩
    | _ :: _ :: _ :: _, h, _ => cases h
/-- The bits of a range by steps: a value of 7 among the days of the week is 0. -/
theorem week_seven (k : Nat) (hk : k < 5) (v : Int) (h1 : 0 ≤ v) (h2 : v ≤ (scB k).said) : (if (scB k).most < v then (scB k).least else v) = if k = 4 ∧ v = 7 then 0 else v := by
  rcases (by omega : k = 0 ∨ k = 1 ∨ k = 2 ∨ k = 3 ∨ k = 4) with rfl | rfl | rfl | rfl | rfl
  · simp only [scB] at h2 ⊢; rw [if_neg (by omega), if_neg (by omega)]
  · simp only [scB] at h2 ⊢; rw [if_neg (by omega), if_neg (by omega)]
  · simp only [scB] at h2 ⊢; rw [if_neg (by omega), if_neg (by omega)]
  · simp only [scB] at h2 ⊢; rw [if_neg (by omega), if_neg (by omega)]
  · simp only [scB] at h2 ⊢
    by_cases h : v = 7
    · rw [if_pos (by omega), if_pos ⟨by first | rfl | trivial, h⟩]
    · rw [if_neg (by omega), if_neg (by omega)]
set_option maxHeartbeats 8000000 in
theorem refItem_any (k : Nat) (hk : k < 5) (l : Bytes) (hl : l.length ≤ maxLen) (w : World) :
    Calls Tryd.prog 45 #[.int .i64 k, .string ⟨l.toArray⟩] w fun e w' => e = .returned (itemV (refItem k l)) ∧ Below w.heap.size w w' := by
  have HC := Lib.hid (refCut_any 47 l hl)
  have hal := (cutB_len 47 l)
  have hdef : refItem k l = refItem k l := rfl
  conv at hdef => rhs; unfold refItem
  generalize hc : cutB 47 l = c at *
  obtain ⟨a, b, st⟩ := c
  simp only at hal hdef
  have HS := Lib.hid (refSpan_any k hk a (Nat.le_trans hal.1 hl) st)
  have HD := Lib.hid (fun w => refDigits_any b w (Nat.le_trans hal.2 hl))
  have hbd := refSpan_bd k hk a st
  have HW7 : Hid (∀ v, 0 ≤ v → v ≤ (scB k).said → (if (scB k).most < v then (scB k).least else v) = if k = 4 ∧ v = 7 then 0 else v) := Lib.hid (week_seven k hk)
  have hsb := scB_bd k
  have hvs : ∀ s, valsB (scB k) (refSpan k a st).1 (refSpan k a st).2.1 s = valsFrom (scB k).least (scB k).most (refSpan k a st).2.1 s 100 (refSpan k a st).1 0 := fun s => rfl
  simp only [hvs] at hdef
  clear hvs hc hal
  generalize refSpan k a st = r at *
  obtain ⟨x, y, e⟩ := r
  simp only at hbd hdef
  generalize (scB k).least = least at *
  generalize (scB k).most = most at *
  generalize (scB k).said = said at *
  by_cases h20 : e = 20
  · subst h20
    rw [if_pos rfl] at hdef
    have H := Lib.hid hdef
    clear hdef hbd
    go_enter Tryd.func45, Tryd.ntmps45
    go_wp2_with (first | (go_at_call 44; refine (HC.out _).mono ?_; rintro e W2 ⟨rfl, nd, rfl⟩) | (go_at_call 60; refine (HS.out _).mono ?_; rintro e W3 ⟨rfl, hb⟩; have HB := Lib.hid hb; clear hb))
    go_ret3
    exact ⟨by rw [H.out]; rfl, (below_drewN (Below.refl _ _) _).trans HB.out⟩
  · have b20 : (e == 20) = false := by rw [beq_eq_false_iff_ne]; exact h20
    rw [if_neg h20] at hdef
    cases st
    · simp only [Bool.false_eq_true, if_false] at hdef
      by_cases h0 : e = 0
      · subst h0
        obtain ⟨hx1, hx2, hy1⟩ := hbd rfl
        rw [if_neg (by simp)] at hdef
        have H := Lib.hid hdef
        clear hdef hbd h20 b20
        obtain ⟨s, hs⟩ : ∃ s : Int, s = 1 := ⟨1, rfl⟩
        rw [← hs] at H
        subst hs
        go_enter Tryd.func45, Tryd.ntmps45
        go_wp2_with (first | (go_at_call 44; refine (HC.out _).mono ?_; rintro e W2 ⟨rfl, nd, rfl⟩) | (go_at_call 60; refine (HS.out _).mono ?_; rintro e W3 ⟨rfl, hb⟩; have HB := Lib.hid hb; clear hb))
        go_loop [16, 17] (fun A n => ∃ (q v : Int) (f : Nat), A = .int .u64 q ∧ n = .int .i64 v ∧ 0 ≤ v ∧ v ≤ 200 ∧ y - v < f ∧ valsFrom least most y 1 f v q = valsFrom least most y 1 100 x 0) (fun _ n => (300 - intOf n).toNat)
        case atStart => exact ⟨0, x, 100, rfl, rfl, by omega, by omega, by omega, rfl⟩
        case round =>
          obtain ⟨q, v, f, rfl, rfl, hv1, hv2, hv3, hv⟩ := hrel
          have HV := Lib.hid hv
          clear hv
          by_cases hl : v ≤ y
          · obtain ⟨f, rfl⟩ : ∃ g, f = g + 1 := ⟨f - 1, by omega⟩
            have HW := Lib.hid (HW7.out v hv1 (by omega))
            have HV2 : Hid (valsFrom least most y 1 (f + 1) v q = valsFrom least most y 1 f (v + 1) (setB q (if k = 4 ∧ v = 7 then 0 else v))) := Lib.hid (by simp only [valsFrom]; rw [if_pos hl, HW.out])
            by_cases hk4 : k = 4
            · by_cases hv7 : v = 7
              · subst hv7
                subst hk4
                go_wp2
                go_round
                case rel => exact ⟨_, _, f, rfl, rfl, by omega, by omega, by omega, by rw [← HV.out, HV2.out, if_pos ⟨rfl, rfl⟩]; rfl⟩
                case measure => first | (simp [intOf]; done) | (simp [intOf]; omega)
              · have b7 : (v == 7) = false := by rw [beq_eq_false_iff_ne]; exact hv7
                subst hk4
                go_wp2
                go_round
                case rel => exact ⟨_, _, f, rfl, rfl, by omega, by omega, by omega, by rw [← HV.out, HV2.out, if_neg (fun h => hv7 h.2)]; rfl⟩
                case measure => first | (simp [intOf]; done) | (simp [intOf]; omega)
            · have b4 : ((k : Int) == 4) = false := by rw [beq_eq_false_iff_ne]; omega
              go_wp2
              go_round
              case rel => exact ⟨_, _, f, rfl, rfl, by omega, by omega, by omega, by rw [← HV.out, HV2.out, if_neg (fun h => hk4 h.1)]; rfl⟩
              case measure => first | (simp [intOf]; done) | (simp [intOf]; omega)
          · go_wp2
            go_ret3
            refine ⟨?_, (below_drewN (Below.refl _ _) _).trans HB.out⟩
            have hend : valsFrom least most y 1 f v q = q := by cases f with
              | zero => rfl
              | succ f => simp only [valsFrom]; rw [if_neg (by omega)]
            rw [H.out, ← HV.out, hend]
            rfl
      · have b0 : (e != 0) = true := by simpa using h0
        rw [if_pos (Or.inl h0)] at hdef
        have H := Lib.hid hdef
        clear hdef hbd
        go_enter Tryd.func45, Tryd.ntmps45
        go_wp2_with (first | (go_at_call 44; refine (HC.out _).mono ?_; rintro e W2 ⟨rfl, nd, rfl⟩) | (go_at_call 60; refine (HS.out _).mono ?_; rintro e W3 ⟨rfl, hb⟩; have HB := Lib.hid hb; clear hb))
        go_ret3
        exact ⟨by rw [H.out]; rfl, (below_drewN (Below.refl _ _) _).trans HB.out⟩
    · simp only [if_true] at hdef
      cases hs : stepB b with
      | none =>
        rw [hs] at hdef
        have H := Lib.hid hdef
        clear hdef hbd
        rcases stepB_none hs with hn | ⟨c, rfl, n, hn⟩
        · rw [hn] at HD
          clear hs hn
          go_enter Tryd.func45, Tryd.ntmps45
          go_wp2_with (first | (go_at_call 44; refine (HC.out _).mono ?_; rintro e W2 ⟨rfl, nd, rfl⟩) | (go_at_call 60; refine (HS.out _).mono ?_; rintro e W3 ⟨rfl, hb⟩; have HB := Lib.hid hb; clear hb) | (go_at_call 61; refine (HD.out _).mono ?_; rintro e W4 ⟨rfl, rfl⟩; simp only [opt]))
          go_ret3
          exact ⟨by rw [H.out]; rfl, (below_drewN (Below.refl _ _) _).trans HB.out⟩
        · rw [hn] at HD
          clear hs hn
          go_enter Tryd.func45, Tryd.ntmps45
          go_wp2_with (first | (go_at_call 44; refine (HC.out _).mono ?_; rintro e W2 ⟨rfl, nd, rfl⟩) | (go_at_call 60; refine (HS.out _).mono ?_; rintro e W3 ⟨rfl, hb⟩; have HB := Lib.hid hb; clear hb) | (go_at_call 61; refine (HD.out _).mono ?_; rintro e W4 ⟨rfl, rfl⟩; simp only [opt]))
          go_ret3
          exact ⟨by rw [H.out]; rfl, (below_drewN (Below.refl _ _) _).trans HB.out⟩
      | some s =>
        rw [hs] at hdef
        simp only at hdef
        obtain ⟨hn, hsh⟩ := stepB_some hs
        rw [hn] at HD
        have hnb := numB_bd hn
        clear hs hn
        by_cases h0 : e = 0
        · subst h0
          obtain ⟨hx1, hx2, hy1⟩ := hbd rfl
          by_cases hs0 : s = 0
          · subst hs0
            rw [if_pos (Or.inr rfl)] at hdef
            have H := Lib.hid hdef
            clear hdef hbd h20 b20
            rcases hsh with ⟨c, rfl⟩ | ⟨c, d, rfl, hc48⟩
            · go_enter Tryd.func45, Tryd.ntmps45
              go_wp2_with (first | (go_at_call 44; refine (HC.out _).mono ?_; rintro e W2 ⟨rfl, nd, rfl⟩) | (go_at_call 60; refine (HS.out _).mono ?_; rintro e W3 ⟨rfl, hb⟩; have HB := Lib.hid hb; clear hb) | (go_at_call 61; refine (HD.out _).mono ?_; rintro e W4 ⟨rfl, rfl⟩; simp only [opt]))
              go_ret3
              exact ⟨by rw [H.out]; rfl, (below_drewN (Below.refl _ _) _).trans HB.out⟩
            · have hc1 : ∀ h : 0 < (⟨#[c, d]⟩ : ByteArray).size, ((((⟨#[c, d]⟩ : ByteArray)[0]'h).toNat : Int) == 48) = false := fun _ => by show ((c.toNat : Int) == 48) = false; rw [beq_eq_false_iff_ne]; intro h; exact hc48 (UInt8.toNat_inj.1 (by show c.toNat = 48; omega))
              clear hc48
              go_enter Tryd.func45, Tryd.ntmps45
              go_wp2_with (first | (go_at_call 44; refine (HC.out _).mono ?_; rintro e W2 ⟨rfl, nd, rfl⟩) | (go_at_call 60; refine (HS.out _).mono ?_; rintro e W3 ⟨rfl, hb⟩; have HB := Lib.hid hb; clear hb) | (go_at_call 61; refine (HD.out _).mono ?_; rintro e W4 ⟨rfl, rfl⟩; simp only [opt]))
              go_ret3
              exact ⟨by rw [H.out]; rfl, (below_drewN (Below.refl _ _) _).trans HB.out⟩
          · have bs0 : (s == 0) = false := by rw [beq_eq_false_iff_ne]; exact hs0
            have hs1 : 1 ≤ s := by omega
            rw [if_neg (by omega)] at hdef
            have H := Lib.hid hdef
            clear hdef hbd h20 b20 hs0
            rcases hsh with ⟨c, rfl⟩ | ⟨c, d, rfl, hc48⟩
            · skip
              go_enter Tryd.func45, Tryd.ntmps45
              go_wp2_with (first | (go_at_call 44; refine (HC.out _).mono ?_; rintro e W2 ⟨rfl, nd, rfl⟩) | (go_at_call 60; refine (HS.out _).mono ?_; rintro e W3 ⟨rfl, hb⟩; have HB := Lib.hid hb; clear hb) | (go_at_call 61; refine (HD.out _).mono ?_; rintro e W4 ⟨rfl, rfl⟩; simp only [opt]))
              go_loop [16, 17] (fun A n => ∃ (q v : Int) (f : Nat), A = .int .u64 q ∧ n = .int .i64 v ∧ 0 ≤ v ∧ v ≤ 200 ∧ y - v < f ∧ valsFrom least most y s f v q = valsFrom least most y s 100 x 0) (fun _ n => (300 - intOf n).toNat)
              case atStart => exact ⟨0, x, 100, rfl, rfl, by omega, by omega, by omega, rfl⟩
              case round =>
                obtain ⟨q, v, f, rfl, rfl, hv1, hv2, hv3, hv⟩ := hrel
                have HV := Lib.hid hv
                clear hv
                by_cases hl : v ≤ y
                · obtain ⟨f, rfl⟩ : ∃ g, f = g + 1 := ⟨f - 1, by omega⟩
                  have HW := Lib.hid (HW7.out v hv1 (by omega))
                  have HV2 : Hid (valsFrom least most y s (f + 1) v q = valsFrom least most y s f (v + s) (setB q (if k = 4 ∧ v = 7 then 0 else v))) := Lib.hid (by simp only [valsFrom]; rw [if_pos hl, HW.out])
                  by_cases hk4 : k = 4
                  · by_cases hv7 : v = 7
                    · subst hv7
                      subst hk4
                      go_wp2
                      go_round
                      case rel => exact ⟨_, _, f, rfl, rfl, by omega, by omega, by omega, by rw [← HV.out, HV2.out, if_pos ⟨rfl, rfl⟩]; rfl⟩
                      case measure => first | (simp [intOf]; done) | (simp [intOf]; omega)
                    · have b7 : (v == 7) = false := by rw [beq_eq_false_iff_ne]; exact hv7
                      subst hk4
                      go_wp2
                      go_round
                      case rel => exact ⟨_, _, f, rfl, rfl, by omega, by omega, by omega, by rw [← HV.out, HV2.out, if_neg (fun h => hv7 h.2)]; rfl⟩
                      case measure => first | (simp [intOf]; done) | (simp [intOf]; omega)
                  · have b4 : ((k : Int) == 4) = false := by rw [beq_eq_false_iff_ne]; omega
                    go_wp2
                    go_round
                    case rel => exact ⟨_, _, f, rfl, rfl, by omega, by omega, by omega, by rw [← HV.out, HV2.out, if_neg (fun h => hk4 h.1)]; rfl⟩
                    case measure => first | (simp [intOf]; done) | (simp [intOf]; omega)
                · go_wp2
                  go_ret3
                  refine ⟨?_, (below_drewN (Below.refl _ _) _).trans HB.out⟩
                  have hend : valsFrom least most y s f v q = q := by cases f with
                    | zero => rfl
                    | succ f => simp only [valsFrom]; rw [if_neg (by omega)]
                  rw [H.out, ← HV.out, hend]
                  rfl
            · have hc1 : ∀ h : 0 < (⟨#[c, d]⟩ : ByteArray).size, ((((⟨#[c, d]⟩ : ByteArray)[0]'h).toNat : Int) == 48) = false := fun _ => by show ((c.toNat : Int) == 48) = false; rw [beq_eq_false_iff_ne]; intro h; exact hc48 (UInt8.toNat_inj.1 (by show c.toNat = 48; omega))
              clear hc48
              go_enter Tryd.func45, Tryd.ntmps45
              go_wp2_with (first | (go_at_call 44; refine (HC.out _).mono ?_; rintro e W2 ⟨rfl, nd, rfl⟩) | (go_at_call 60; refine (HS.out _).mono ?_; rintro e W3 ⟨rfl, hb⟩; have HB := Lib.hid hb; clear hb) | (go_at_call 61; refine (HD.out _).mono ?_; rintro e W4 ⟨rfl, rfl⟩; simp only [opt]))
              go_loop [16, 17] (fun A n => ∃ (q v : Int) (f : Nat), A = .int .u64 q ∧ n = .int .i64 v ∧ 0 ≤ v ∧ v ≤ 200 ∧ y - v < f ∧ valsFrom least most y s f v q = valsFrom least most y s 100 x 0) (fun _ n => (300 - intOf n).toNat)
              case atStart => exact ⟨0, x, 100, rfl, rfl, by omega, by omega, by omega, rfl⟩
              case round =>
                obtain ⟨q, v, f, rfl, rfl, hv1, hv2, hv3, hv⟩ := hrel
                have HV := Lib.hid hv
                clear hv
                by_cases hl : v ≤ y
                · obtain ⟨f, rfl⟩ : ∃ g, f = g + 1 := ⟨f - 1, by omega⟩
                  have HW := Lib.hid (HW7.out v hv1 (by omega))
                  have HV2 : Hid (valsFrom least most y s (f + 1) v q = valsFrom least most y s f (v + s) (setB q (if k = 4 ∧ v = 7 then 0 else v))) := Lib.hid (by simp only [valsFrom]; rw [if_pos hl, HW.out])
                  by_cases hk4 : k = 4
                  · by_cases hv7 : v = 7
                    · subst hv7
                      subst hk4
                      go_wp2
                      go_round
                      case rel => exact ⟨_, _, f, rfl, rfl, by omega, by omega, by omega, by rw [← HV.out, HV2.out, if_pos ⟨rfl, rfl⟩]; rfl⟩
                      case measure => first | (simp [intOf]; done) | (simp [intOf]; omega)
                    · have b7 : (v == 7) = false := by rw [beq_eq_false_iff_ne]; exact hv7
                      subst hk4
                      go_wp2
                      go_round
                      case rel => exact ⟨_, _, f, rfl, rfl, by omega, by omega, by omega, by rw [← HV.out, HV2.out, if_neg (fun h => hv7 h.2)]; rfl⟩
                      case measure => first | (simp [intOf]; done) | (simp [intOf]; omega)
                  · have b4 : ((k : Int) == 4) = false := by rw [beq_eq_false_iff_ne]; omega
                    go_wp2
                    go_round
                    case rel => exact ⟨_, _, f, rfl, rfl, by omega, by omega, by omega, by rw [← HV.out, HV2.out, if_neg (fun h => hk4 h.1)]; rfl⟩
                    case measure => first | (simp [intOf]; done) | (simp [intOf]; omega)
                · go_wp2
                  go_ret3
                  refine ⟨?_, (below_drewN (Below.refl _ _) _).trans HB.out⟩
                  have hend : valsFrom least most y s f v q = q := by cases f with
                    | zero => rfl
                    | succ f => simp only [valsFrom]; rw [if_neg (by omega)]
                  rw [H.out, ← HV.out, hend]
                  rfl
        · have b0 : (e != 0) = true := by simpa using h0
          rw [if_pos (Or.inl h0)] at hdef
          have H := Lib.hid hdef
          clear hdef hbd
          rcases hsh with ⟨c, rfl⟩ | ⟨c, d, rfl, hc48⟩
          · go_enter Tryd.func45, Tryd.ntmps45
            go_wp2_with (first | (go_at_call 44; refine (HC.out _).mono ?_; rintro e W2 ⟨rfl, nd, rfl⟩) | (go_at_call 60; refine (HS.out _).mono ?_; rintro e W3 ⟨rfl, hb⟩; have HB := Lib.hid hb; clear hb) | (go_at_call 61; refine (HD.out _).mono ?_; rintro e W4 ⟨rfl, rfl⟩; simp only [opt]))
            go_ret3
            exact ⟨by rw [H.out]; rfl, (below_drewN (Below.refl _ _) _).trans HB.out⟩
          · have hc1 : ∀ h : 0 < (⟨#[c, d]⟩ : ByteArray).size, ((((⟨#[c, d]⟩ : ByteArray)[0]'h).toNat : Int) == 48) = false := fun _ => by show ((c.toNat : Int) == 48) = false; rw [beq_eq_false_iff_ne]; intro h; exact hc48 (UInt8.toNat_inj.1 (by show c.toNat = 48; omega))
            clear hc48
            go_enter Tryd.func45, Tryd.ntmps45
            go_wp2_with (first | (go_at_call 44; refine (HC.out _).mono ?_; rintro e W2 ⟨rfl, nd, rfl⟩) | (go_at_call 60; refine (HS.out _).mono ?_; rintro e W3 ⟨rfl, hb⟩; have HB := Lib.hid hb; clear hb) | (go_at_call 61; refine (HD.out _).mono ?_; rintro e W4 ⟨rfl, rfl⟩; simp only [opt]))
            go_ret3
            exact ⟨by rw [H.out]; rfl, (below_drewN (Below.refl _ _) _).trans HB.out⟩
end Go.Proofs.YtbbleedepmcdfaaDoor
