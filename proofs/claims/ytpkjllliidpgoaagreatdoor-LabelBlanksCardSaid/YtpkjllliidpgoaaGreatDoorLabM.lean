/- Walks of package label: May. -/
import Derived.Test.YtpkjllliidpgoaaGreatDoorLabL
set_option linter.unusedSimpArgs false
set_option linter.unusedVariables false
namespace Go.Proofs.YtpkjllliidpgoaaGreatDoor
open Go.ChangeShapes Go.WideShapes Go.ChangeAt Go.RowKit Go.Base Go.Lab

def mayB (l : List Lb) : Bool := match sortB l with | .ok o => decide (o = l) | .error _ => false
theorem sortB_perm {l o : List Lb} (h : sortB l = .ok o) : o.Perm l := by
  unfold sortB at h
  split at h
  · cases h
  · cases hi : insAll [] l with
    | none => rw [hi] at h; cases h
    | some x =>
      rw [hi] at h
      have h1 := insAll_some List.Pairwise.nil hi
      rw [List.nil_append] at h1
      simp only at h
      split at h
      · cases h
      · injection h with h; subst h; exact h1.2
set_option maxHeartbeats 2000000 in
theorem labelMay_any (A : Option Addr) (l : List Lb) (c : Nat) (w : World) (hL : Labs w A l) (hm : l.length ≤ 4398046511104) :
    Calls Tryz.prog 14 #[.slice A l.length c] w fun e w' => e = .returned (.bool (mayB l)) ∧ Below w.heap.size w w' := by
  have HL := Lib.hid hL
  have HS := Lib.hid (labelSort_any A l c w hL hm)
  have HM : Hid (mayB l = match sortB l with | .ok o => decide (o = l) | .error _ => false) := Lib.hid rfl
  have hm2 : l.length ≤ maxLen := by unfold maxLen; omega
  have HP := Lib.hid (fun o (h : sortB l = .ok o) => sortB_perm h)
  generalize hr : mayB l = r at *
  clear hL hm hr
  cases hs : sortB l with
  | error q =>
    have hq : q ≠ 0 ∧ (q == 0) = false := by
      unfold sortB at hs
      split at hs
      · injection hs with hs; subst hs; decide
      · split at hs
        · injection hs with hs; subst hs; decide
        · split at hs
          · injection hs with hs; subst hs; decide
          · cases hs
    have hq2 := hq.2
    have HR : Hid (r = false) := Lib.hid (by rw [HM.out, hs])
    have HS2 := Lib.hid hs
    clear hs hq
    go_enter Tryz.func14, Tryz.ntmps14
    go_wp2_with (go_at_call 8; refine HS.out.mono ?_; rintro e w1 ⟨h1, _, hb⟩; obtain rfl := h1 _ HS2.out; have HB := Lib.hid hb; clear h1 hb)
    go_ret
    exact ⟨ret_bool HR.out.symm, HB.out⟩
  | ok o =>
    have HR : Hid (r = decide (o = l)) := Lib.hid (by rw [HM.out, hs])
    have HS2 := Lib.hid hs
    have hol : o.length ≤ maxLen := by rw [(HP.out o hs).length_eq]; exact hm2
    have HO := Lib.hid hol
    have HM2 := Lib.hid hm2
    clear hs hol hm2
    go_enter Tryz.func14, Tryz.ntmps14
    go_wp2_with (first | (go_at_call 8; refine HS.out.mono ?_; rintro e w1 ⟨_, h2, hb⟩; obtain ⟨g, cap, rfl, hlab, hg⟩ := h2 _ HS2.out; have HB := Lib.hid hb; have HLo := Lib.hid hlab; have HL1 := Lib.hid (HL.out.later hb); clear h2 hlab hg hb) | (go_at_call 28; refine (equal_any _ _ o l _ _ _ HLo.out HL1.out HO.out HM2.out).mono ?_; rintro e w2 ⟨rfl, hb⟩; have HB2 := Lib.hid (HB.out.trans (hb.mono HB.out.size)); clear hb))
    go_ret
    exact ⟨ret_bool HR.out.symm, HB2.out⟩
end Go.Proofs.YtpkjllliidpgoaaGreatDoor
