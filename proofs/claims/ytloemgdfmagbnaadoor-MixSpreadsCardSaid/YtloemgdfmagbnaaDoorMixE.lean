/- Walks of the laws of package mix, whose arguments lie still. -/
import Derived.Test.YtloemgdfmagbnaaDoorMixD
set_option linter.unusedSimpArgs false
set_option linter.unusedVariables false
namespace Go.Proofs.YtloemgdfmagbnaaDoor
open Go.ChangeShapes Go.WideShapes Go.ChangeAt Go.RowKit Go.Base Go.Mx

theorem law_mixes (x : Nat) (w : World) (hx : x < 18446744073709551616) (ht : Tab w) :
    Calls Tryd.prog 6 #[.int .u64 x] w fun e w' => e = .returned (.bool true) ∧ Below w.heap.size w w' := by
  have HT := Lib.hid ht
  have lm := mix_lt x
  have lu := unmix_lt x
  have e1 := unmix_mix hx
  have e2 := mix_unmix hx
  clear ht
  go_enter Tryd.func6, Tryd.ntmps6
  go_wp2_with (first | (go_at_call 11; refine (lives_any _ HT.out).mono ?_; rintro e w1 ⟨rfl, hb⟩; have HB := Lib.hid hb; clear hb) | (go_at_call 15; with_reducible refine (mix_any x _ hx).mono ?_; rintro e w' ⟨rfl, rfl⟩) | (go_at_call 16; with_reducible refine (refMix_any x _ hx).mono ?_; rintro e w' ⟨rfl, rfl⟩) | (go_at_call 17; with_reducible refine (unmix_any _ _ lm).mono ?_; rintro e w' ⟨rfl, rfl⟩) | (go_at_call 17; with_reducible refine (unmix_any x _ hx).mono ?_; rintro e w' ⟨rfl, rfl⟩) | (go_at_call 15; with_reducible refine (mix_any _ _ lu).mono ?_; rintro e w' ⟨rfl, rfl⟩))
  go_ret
  exact ⟨rfl, HB.out⟩

theorem law_updates (s : Nat) (a : Option Addr) (bs : List UInt8) (cap : Nat) (w : World) (hs : s < 4294967296) (ht : Tab w) (hb : Byt w a bs) (hm : bs.length ≤ maxLen) :
    Calls Tryd.prog 4 #[.int .u32 s, .slice a bs.length cap] w fun e w' => e = .returned (.bool true) ∧ Below w.heap.size w w' := by
  have HT := Lib.hid ht
  have HY := Lib.hid hb
  clear ht hb
  go_enter Tryd.func4, Tryd.ntmps4
  go_wp2_with (first | (go_at_call 11; refine (lives_any _ HT.out).mono ?_; rintro e w1 ⟨rfl, hb⟩; have HB := Lib.hid hb; clear hb) | (go_at_call 13; refine (update_any _ _ _ _ _ hs (HT.out.later HB.out) (HY.out.later HB.out) hm).mono ?_; rintro e w' ⟨rfl, rfl⟩) | (go_at_call 14; refine (refUpdate_any _ _ _ _ _ hs (HY.out.later HB.out) hm).mono ?_; rintro e w' ⟨rfl, rfl⟩))
  go_ret
  exact ⟨rfl, HB.out⟩

theorem law_hashes (p : Option Addr) (l : List (List UInt8)) (cap : Nat) (n : Int) (w : World) (hn : n ≤ 9223372036854775807) (ht : Tab w) (hs : Strs w p l) (hm : l.length ≤ maxLen) :
    Calls Tryd.prog 7 #[.slice p l.length cap, .int .i64 n] w fun e w' => e = .returned (.bool true) ∧ Below w.heap.size w w' := by
  have HT := Lib.hid ht
  have HS := Lib.hid hs
  have h0 : n < 1 → spr n l = 0 := spr_lo n l
  have h1 : 1 ≤ n → 0 ≤ spr n l ∧ spr n l < n := spr_bd n l
  clear ht hs
  by_cases hn1 : n < 1
  all_goals
    first | have h2 := h0 hn1 | have h2 := h1 (by omega)
    clear h0 h1
    go_enter Tryd.func7, Tryd.ntmps7
    go_wp2_with (first | (go_at_call 11; refine (lives_any _ HT.out).mono ?_; rintro e w1 ⟨rfl, hb⟩; have HB := Lib.hid hb; clear hb) | (go_at_call 18; refine (spread_any _ _ _ _ _ hn HS.out hm).mono ?_; rintro e w' ⟨rfl, rfl⟩) | (go_at_call 21; refine (refSpread_any _ _ _ _ _ hn (HS.out.later HB.out) hm).mono ?_; rintro e w' ⟨rfl, rfl⟩) | (go_at_call 19; refine (hash_any _ _ _ _ (HS.out.later HB.out) hm).mono ?_; rintro e w' ⟨rfl, rfl⟩) | (go_at_call 20; refine (refHash_any _ _ _ _ (HS.out.later HB.out) hm).mono ?_; rintro e w' ⟨rfl, rfl⟩))
    go_ret
    exact ⟨rfl, HB.out⟩

theorem law_spreads (p : Option Addr) (l : List (List UInt8)) (cap : Nat) (a b : Int) (w : World) (ha : a ≤ 9223372036854775807) (hb : b ≤ 9223372036854775807) (ht : Tab w) (hs : Strs w p l) (hm : l.length ≤ maxLen) :
    Calls Tryd.prog 8 #[.slice p l.length cap, .int .i64 a, .int .i64 b] w fun e w' => e = .returned (.bool true) ∧ Below w.heap.size w w' := by
  have HT := Lib.hid ht
  have HS := Lib.hid hs
  clear ht hs
  by_cases hab : b < a
  · have h3 := spr_mono b a l (by omega)
    by_cases hn1 : b < 1
    · have h2 := spr_lo b l hn1
      rw [h2] at h3
      go_enter Tryd.func8, Tryd.ntmps8
      go_wp2_with (first | (go_at_call 11; refine (lives_any _ HT.out).mono ?_; rintro e w1 ⟨rfl, hb⟩; have HB := Lib.hid hb; clear hb) | (go_at_call 18; with_reducible refine (spread_any a _ _ _ _ ha HS.out hm).mono ?_; rintro e w' ⟨rfl, rfl⟩) | (go_at_call 18; with_reducible refine (spread_any b _ _ _ _ hb HS.out hm).mono ?_; rintro e w' ⟨rfl, rfl⟩))
      go_ret
      exact ⟨rfl, HB.out⟩
    · have h2 := spr_bd b l (by omega)
      go_enter Tryd.func8, Tryd.ntmps8
      go_wp2_with (first | (go_at_call 11; refine (lives_any _ HT.out).mono ?_; rintro e w1 ⟨rfl, hb⟩; have HB := Lib.hid hb; clear hb) | (go_at_call 18; with_reducible refine (spread_any a _ _ _ _ ha HS.out hm).mono ?_; rintro e w' ⟨rfl, rfl⟩) | (go_at_call 18; with_reducible refine (spread_any b _ _ _ _ hb HS.out hm).mono ?_; rintro e w' ⟨rfl, rfl⟩))
      go_ret
      exact ⟨rfl, HB.out⟩
  · have h3 := spr_mono a b l (by omega)
    by_cases hn1 : a < 1
    · have h2 := spr_lo a l hn1
      rw [h2] at h3
      go_enter Tryd.func8, Tryd.ntmps8
      go_wp2_with (first | (go_at_call 11; refine (lives_any _ HT.out).mono ?_; rintro e w1 ⟨rfl, hb⟩; have HB := Lib.hid hb; clear hb) | (go_at_call 18; with_reducible refine (spread_any a _ _ _ _ ha HS.out hm).mono ?_; rintro e w' ⟨rfl, rfl⟩) | (go_at_call 18; with_reducible refine (spread_any b _ _ _ _ hb HS.out hm).mono ?_; rintro e w' ⟨rfl, rfl⟩))
      go_ret
      exact ⟨rfl, HB.out⟩
    · have h2 := spr_bd a l (by omega)
      go_enter Tryd.func8, Tryd.ntmps8
      go_wp2_with (first | (go_at_call 11; refine (lives_any _ HT.out).mono ?_; rintro e w1 ⟨rfl, hb⟩; have HB := Lib.hid hb; clear hb) | (go_at_call 18; with_reducible refine (spread_any a _ _ _ _ ha HS.out hm).mono ?_; rintro e w' ⟨rfl, rfl⟩) | (go_at_call 18; with_reducible refine (spread_any b _ _ _ _ hb HS.out hm).mono ?_; rintro e w' ⟨rfl, rfl⟩))
      go_ret
      exact ⟨rfl, HB.out⟩

theorem law_apart (a b : Nat) (w : World) (ha : a < 18446744073709551616) (hb : b < 18446744073709551616) (ht : Tab w) :
    Calls Tryd.prog 9 #[.int .u64 a, .int .u64 b] w fun e w' => e = .returned (.bool true) ∧ Below w.heap.size w w' := by
  have HT := Lib.hid ht
  have e1 := mix_inj ha hb
  have e2 := unmix_inj ha hb
  clear ht
  by_cases hab : a = b
  · subst hab
    clear e1 e2
    go_enter Tryd.func9, Tryd.ntmps9
    go_wp2_with (first | (go_at_call 11; refine (lives_any _ HT.out).mono ?_; rintro e w1 ⟨rfl, hb⟩; have HB := Lib.hid hb; clear hb) | (go_at_call 15; with_reducible refine (mix_any a _ ha).mono ?_; rintro e w' ⟨rfl, rfl⟩) | (go_at_call 17; with_reducible refine (unmix_any a _ ha).mono ?_; rintro e w' ⟨rfl, rfl⟩))
    go_ret
    exact ⟨rfl, HB.out⟩
  · have f1 : ((mix a : Int) == (mix b : Int)) = false := by
      rw [beq_eq_false_iff_ne]; intro h; exact hab (e1.1 (by omega))
    have f2 : ((unmix a : Int) == (unmix b : Int)) = false := by
      rw [beq_eq_false_iff_ne]; intro h; exact hab (e2.1 (by omega))
    have f3 : ((a : Int) == (b : Int)) = false := by
      rw [beq_eq_false_iff_ne]; omega
    clear e1 e2
    go_enter Tryd.func9, Tryd.ntmps9
    go_wp2_with (first | (go_at_call 11; refine (lives_any _ HT.out).mono ?_; rintro e w1 ⟨rfl, hb⟩; have HB := Lib.hid hb; clear hb) | (go_at_call 15; with_reducible refine (mix_any a _ ha).mono ?_; rintro e w' ⟨rfl, rfl⟩) | (go_at_call 15; with_reducible refine (mix_any b _ hb).mono ?_; rintro e w' ⟨rfl, rfl⟩) | (go_at_call 17; with_reducible refine (unmix_any a _ ha).mono ?_; rintro e w' ⟨rfl, rfl⟩) | (go_at_call 17; with_reducible refine (unmix_any b _ hb).mono ?_; rintro e w' ⟨rfl, rfl⟩))
    go_ret
    exact ⟨rfl, HB.out⟩
end Go.Proofs.YtloemgdfmagbnaaDoor
