/- Walks of package next: the days of a month that match; when a day begins. -/
import Derived.Test.YtnijneajlmgkjaaDoorNxtF0
import Derived.Test.YtnijneajlmgkjaaDoorCroN
import Derived.Test.YtnijneajlmgkjaaDoorCvd
import Derived.Test.YtnijneajlmgkjaaDoorNxtD
import Derived.Deep.CutBlock
set_option linter.unusedSimpArgs false
set_option linter.unusedVariables false
namespace Go.Proofs.YtnijneajlmgkjaaDoor
open Go.ChangeShapes Go.WideShapes Go.ChangeAt Go.RowKit Go.Base Go.Civ Go.Nxt Go.Cro

/-- The days of a month on which a spec matches. -/
def mdays (s : Sp) (m : Int) : Nat :=
  if 12 ≤ m ∧ m ≤ 119999 ∧ hasB s.mo (m % 12 + 1) = true then dset (fun d => dayB s (d : Int) (wd (num (m / 12) (m % 12 + 1) d))) (len (m / 12) (m % 12 + 1)).toNat else 0
theorem mdays_lt (s : Sp) (m : Int) : mdays s m < 18446744073709551616 := by
  unfold mdays
  split
  · have := len_bd (m / 12) (m % 12 + 1)
    exact dset_u64 _ (by omega)
  · omega

theorem num_bd' {y m d : Int} (h : okd y m d) : -719162 ≤ num y m d ∧ num y m d ≤ 2932896 := by
  obtain ⟨a1, a2, a3, a4, a5, a6⟩ := h
  obtain ⟨k, hk⟩ : ∃ k : Nat, m = (k : Int) + 1 := ⟨(m - 1).toNat, by omega⟩
  subst hk
  have b1 := ah_bd y (by omega) (by omega)
  have b2 := cum_bd y k
  have c1 : cum y (k + 1) ≤ cum y 12 := cum_mono _ _ _ (by omega)
  have c2 : cum y (k + 1) = cum y k + len y ((k : Int) + 1) := rfl
  have b4 := ah_succ y
  have b5 : ah (y + 1) ≤ ah 10000 := ah_mono _ _ (by omega)
  have b6 : ah 10000 = 3652059 := by simp [ah]
  unfold num
  rw [show ((k : Int) + 1 - 1).toNat = k by omega]
  omega

theorem nxtHas_any (b v : Int) (w : World) (h0 : 0 ≤ v) (h1 : v ≤ 63) (hb : 0 ≤ b) (hb' : b ≤ 18446744073709551615) :
    Calls Tryd.prog 54 #[.int .u64 b, .int .i64 v] w fun e w' => e = .returned (.bool (hasB b v)) ∧ w' = w := by
  have H : Hid (hasB b v = (bits .and .u64 (b / 2 ^ v.toNat) 1 == 1)) := Lib.hid rfl
  go_enter Tryd.func54, Tryd.ntmps54
  go_wp2
  go_ret
  exact ⟨ret_bool H.out.symm, rfl⟩

theorem or_shl {D v : Nat} (hD : D < 18446744073709551616) (hv : v ≤ 62) : bits .or .u64 (D : Int) (IntKind.u64.wrap (2 ^ v)) = ((D ||| 2 ^ v : Nat) : Int) := by
  have hp : (2 : Nat) ^ v ≤ 2 ^ 62 := Nat.pow_le_pow_right (by decide) hv
  have h1 : 1 ≤ (2 : Nat) ^ v := Nat.one_le_two_pow
  have e : IntKind.u64.wrap (2 ^ v) = ((2 ^ v : Nat) : Int) := by
    rw [IntKind.wrap_u64]
    have : ((2 : Int) ^ v) = ((2 ^ v : Nat) : Int) := by simp
    rw [this]; omega
  rw [e, u64_or_nat D _ hD (by omega)]

theorem monthDays_no (s : Sp) (hs : SpOk s) (m : Int) (hm : m = 11 ∨ m = 120000 ∨ (12 ≤ m ∧ m ≤ 119999 ∧ hasB s.mo (m % 12 + 1) = false)) (w : World) (ht : Tab w) :
    Calls Tryd.prog 53 #[spV s, .int .i64 m] w fun e w' => e = .returned (.int .u64 (mdays s m : Nat)) ∧ Below w.heap.size w w' := by
  have H0 : mdays s m = 0 := by
    unfold mdays
    rw [if_neg]
    rintro ⟨a, b, c⟩
    rcases hm with h | h | ⟨_, _, h⟩
    · omega
    · omega
    · rw [h] at c; cases c
  rw [H0]
  obtain ⟨smi, sho, sda, smo, swe, ad, aw⟩ := s
  obtain ⟨_, _, _, ⟨g4, g4'⟩, _⟩ := hs
  simp only [spV] at hm g4 g4' ⊢
  rcases hm with rfl | rfl | ⟨h1, h2, h3⟩
  · have HN := Lib.hid (fun w ht => number_no 0 12 1 w ht (by unfold okd; omega))
    have HT := Lib.hid (fun (w' : World) (hb : Below w.heap.size w w') => ht.later hb)
    clear ht
    go_enter Tryd.func53, Tryd.ntmps53
    go_wp2_with (go_at_call 72; refine (HN.out _ (HT.out _ (below_alloc w _))).mono ?_; rintro e w' ⟨rfl, rfl⟩)
    go_ret
    exact ⟨rfl, below_alloc w _⟩
  · have HN := Lib.hid (fun w ht => number_no 10000 1 1 w ht (by unfold okd; omega))
    have HT := Lib.hid (fun (w' : World) (hb : Below w.heap.size w w') => ht.later hb)
    clear ht
    go_enter Tryd.func53, Tryd.ntmps53
    go_wp2_with (go_at_call 72; refine (HN.out _ (HT.out _ (below_alloc w _))).mono ?_; rintro e w' ⟨rfl, rfl⟩)
    go_ret
    exact ⟨rfl, below_alloc w _⟩
  · have hl := len_lo (m / 12) (m % 12 + 1) (by omega) (by omega)
    have HN := Lib.hid (fun w ht => number_ok (m / 12) (m % 12 + 1) 1 w ht (by unfold okd; omega))
    have HH := Lib.hid (fun w => nxtHas_any smo (m % 12 + 1) w (by omega) (by omega) g4 g4')
    rw [h3] at HH
    have HT := Lib.hid (fun (w' : World) (hb : Below w.heap.size w w') => ht.later hb)
    clear ht h3
    go_enter Tryd.func53, Tryd.ntmps53
    go_wp2_with (first | (go_at_call 72; refine (HN.out _ (HT.out _ (below_alloc w _))).mono ?_; rintro e w' ⟨rfl, rfl⟩) | (go_at_call 54; refine (HH.out _).mono ?_; rintro e w' ⟨rfl, rfl⟩))
    go_ret
    exact ⟨rfl, below_alloc w _⟩

def dayCell (w : World) (g : Nat) : Int := match w.cell? ⟨g, 2, none⟩ with
  | some (.int _ n) => n
  | _ => 0
theorem dayCell_of {w : World} {g : Nat} {n : Int} (h : w.cell? ⟨g, 2, none⟩ = some (.int .i64 n)) : dayCell w g = n := by unfold dayCell; rw [h]

set_option maxHeartbeats 2000000 in
theorem monthDays_ok (s : Sp) (hs : SpOk s) (m : Int) (h1 : 12 ≤ m) (h2 : m ≤ 119999) (h3 : hasB s.mo (m % 12 + 1) = true) (w : World) (ht : Tab w) :
    Calls Tryd.prog 53 #[spV s, .int .i64 m] w fun e w' => e = .returned (.int .u64 (mdays s m : Nat)) ∧ Below w.heap.size w w' := by
  have hl := len_lo (m / 12) (m % 12 + 1) (by omega) (by omega)
  have hl2 := len_bd (m / 12) (m % 12 + 1)
  obtain ⟨L, hL⟩ : ∃ L : Nat, len (m / 12) (m % 12 + 1) = (L : Int) := ⟨(len (m / 12) (m % 12 + 1)).toNat, by omega⟩
  have hokd : okd (m / 12) (m % 12 + 1) 1 := by unfold okd; omega
  obtain ⟨p, hp⟩ : ∃ p : Nat → Bool, p = fun d : Nat => dayB s (d : Int) (wd (num (m / 12) (m % 12 + 1) d)) := ⟨_, rfl⟩
  have H0 : mdays s m = dset p L := by
    unfold mdays
    rw [if_pos ⟨h1, h2, h3⟩, hL, ← hp]; rfl
  obtain ⟨N, hN⟩ : ∃ N : Int, N = num (m / 12) (m % 12 + 1) 1 := ⟨_, rfl⟩
  have hnum : ∀ d : Int, num (m / 12) (m % 12 + 1) d = N + d - 1 := fun d => by rw [hN]; unfold num; omega
  have hb1 : -719162 ≤ N ∧ N ≤ 2932896 := hN ▸ num_bd' hokd
  rw [H0]
  have hs' := hs
  obtain ⟨smi, sho, sda, smo, swe, ad, aw⟩ := s
  obtain ⟨_, _, _, ⟨g4, g4'⟩, _⟩ := hs'
  simp only [spV] at h3 g4 g4' ⊢
  have HN := Lib.hid (fun w ht => number_ok (m / 12) (m % 12 + 1) 1 w ht hokd)
  rw [← hN] at HN
  have HH := Lib.hid (fun w => nxtHas_any smo (m % 12 + 1) w (by omega) (by omega) g4 g4')
  rw [h3] at HH
  have HT := Lib.hid (fun (w' : World) (hb : Below w.heap.size w w') => ht.later hb)
  have HW := Lib.hid (fun w => weekday_any N w (by omega) (by omega))
  have HL := Lib.hid (fun w ht => length_any (m / 12) (m % 12 + 1) w ht)
  rw [hL] at HL
  have HLL := Lib.hid hl2
  have HD := Lib.hid (fun (k : Nat) (hk : k + 1 ≤ 31) w => day_any ⟨smi, sho, sda, smo, swe, ad, aw⟩ hs 0 0 ((k + 1 : Nat) : Int) 0 0 0 (wd (N + k)) w (by omega) (by omega) (wd_bd _).1 (wd_bd _).2)
  have HP : Hid (∀ k : Nat, p (k + 1) = dayB ⟨smi, sho, sda, smo, swe, ad, aw⟩ ((k + 1 : Nat) : Int) (wd (N + k))) := Lib.hid (fun k => by rw [hp]; simp only; rw [hnum]; congr 2; omega)
  have hL31 : L ≤ 31 := by omega
  have HM12 : m / 12 = m / 12 := rfl
  clear ht h3 hokd hL hp hN hnum hb1 H0 hs hl hl2 HM12
  go_enter Tryd.func53, Tryd.ntmps53
  go_wp2_with (first | (go_at_call 72; refine (HN.out _ (HT.out _ (below_alloc w _))).mono ?_; rintro e w' ⟨rfl, rfl⟩) | (go_at_call 54; refine (HH.out _).mono ?_; rintro e w' ⟨rfl, rfl⟩) | (go_at_call 71; refine (HW.out _).mono ?_; rintro e w' ⟨rfl, rfl⟩))
  go_loopw [9] (fun a wr => ∃ k : Nat, k ≤ L ∧ a = .int .u64 (dset p k : Nat) ∧ wr.heap[w.heap.size + 1]? = some (.cells (dateC 0 0 ((k : Int) + 1) 0 0 0 (wd (N + k))) 43 (0, 0)) ∧ Below (w.heap.size + 1) (w.alloc (.cells #[.int .u64 smi, .int .u64 sho, .int .u64 sda, .int .u64 smo, .int .u64 swe, .bool ad, .bool aw] 24)) wr) (fun _ wr => (L + 1 - dayCell wr (w.heap.size + 1)).toNat)
  case atStart =>
    refine ⟨0, by omega, rfl, ?_, by simpa using below_alloc (w.alloc (.cells #[.int .u64 smi, .int .u64 sho, .int .u64 sda, .int .u64 smo, .int .u64 swe, .bool ad, .bool aw] 24)) _⟩
    have h8 := heap_new (w.alloc (.cells #[.int .u64 smi, .int .u64 sho, .int .u64 sda, .int .u64 smo, .int .u64 swe, .bool ad, .bool aw] 24)) (.cells (dateC 0 0 1 0 0 0 (wd N)) 43)
    rw [World.size_alloc] at h8
    simpa using h8
  case round =>
    obtain ⟨k, hk, rfl, hg, hB⟩ := hrel
    have zr := hB.size
    simp at zr
    have hgl := heap_lt hg
    have hsp : wr.heap[w.heap.size]? = some (.cells #[.int .u64 smi, .int .u64 sho, .int .u64 sda, .int .u64 smo, .int .u64 swe, .bool ad, .bool aw] 24 (0, 0)) := (hB.block _ (by omega)).trans (heap_new w _)
    have hTr := HT.out wr ((below_alloc w (.cells #[.int .u64 smi, .int .u64 sho, .int .u64 sda, .int .u64 smo, .int .u64 swe, .bool ad, .bool aw] 24)).trans (hB.mono (by omega)))
    have cD := (cells_of_heap hg).1
    have cS := (cells_of_heap hsp).1
    have c2 := cD 2
    have c6 := cD 6
    simp at c2 c6
    have hmeas := dayCell_of c2
    by_cases hlt : k + 1 ≤ L
    · have hle : ((k : Int) + 1 ≤ (L : Int)) := by omega
      have HDk := Lib.hid (fun nd => HD.out k (by omega) (wr.drewN nd))
      have e1 : (((k + 1 : Nat)) : Int) = (k : Int) + 1 := by omega
      have HPk := Lib.hid (HP.out k)
      rw [e1] at HDk HPk
      have HOr := Lib.hid (or_shl (D := dset p k) (v := k + 1) (dset_u64 p (by omega)) (by omega))
      have hpow : (2 : Int) ^ ((k : Int) + 1).toNat = 2 ^ (k + 1) := by congr 1
      have HS : Hid (dset p (k + 1) = if p (k + 1) then dset p k ||| 2 ^ (k + 1) else dset p k) := Lib.hid rfl
      have HG := Lib.hid hg
      have HLq := Lib.hid (fun nd => ((HL.out (wr.drewN nd) hTr).mono fun e w' h9 => (⟨h9.1, h9.2.symm⟩ : e = .returned (.int .i64 L) ∧ w' = wr.drewN nd)))
      have HBb := Lib.hid hB
      have HM := Lib.hid hmeas
      have HWd := Lib.hid (wd_next (N + k))
      have hwb := wd_bd (N + k)
      generalize hq : wd (N + k) = q at *
      have HQ := Lib.hid hq
      obtain ⟨hq0, hq6⟩ := hwb
      generalize dayB ⟨smi, sho, sda, smo, swe, ad, aw⟩ ((k : Int) + 1) q = b at HDk HPk
      clear hB hmeas hq
      go_wp2_with fail
      go_quiet (exact Calls.quiet_of_same (HLq.out _))
      cases b
      all_goals
        go_wp2_with fail
        go_at_call 27
        refine (HDk.out _).mono ?_
        rintro e w9 ⟨rfl, hb9⟩
        have hg9 : w9.heap[w.heap.size + 1]? = _ := (hb9.block _ (show w.heap.size + 1 < (wr.drewN nq).heap.size from heap_lt HG.out)).trans HG.out
        have HG9 := Lib.hid hg9
        have HB9 := Lib.hid ((below_drewN HBb.out nq).trans (hb9.mono (show w.heap.size + 1 ≤ wr.heap.size by omega)))
        have q2 := (cells_of_heap hg9).1 2
        have q6 := (cells_of_heap hg9).1 6
        have f2 := (cells_of_heap hg9).2 2
        have f6 := (cells_of_heap hg9).2 6
        simp at q2 q6
        clear hg9 hb9
        go_wp2_with fail
        have HB9' : Below (w.heap.size + 1) (w.alloc (.cells #[.int .u64 smi, .int .u64 sho, .int .u64 sda, .int .u64 smo, .int .u64 swe, .bool ad, .bool aw] 24)) ((w9.setCell ⟨w.heap.size + 1, 6, none⟩ (.int .i64 ((q + 1) % 7))).setCell ⟨w.heap.size + 1, 2, none⟩ (.int .i64 ((k : Int) + 1 + 1))) := (HB9.out.setCell (p := ⟨w.heap.size + 1, 6, none⟩) (Nat.le_refl _) _).setCell (p := ⟨w.heap.size + 1, 2, none⟩) (Nat.le_refl _) _
        have hh := heap_set (heap_set HG9.out 6 (.int .i64 ((q + 1) % 7))) 2 (.int .i64 ((k : Int) + 1 + 1))
        simp at hh
        have hd2 := dayCell_of ((cells_of_heap hh).1 2)
        have e2 : ((k + 1 : Nat) : Int) = (k : Int) + 1 := by omega
        refine ⟨⟨k + 1, hlt, ?_, ?_, HB9'⟩, ?_⟩
        · first | rw [HS.out, HPk.out]; rfl | rw [HOr.out, HS.out, HPk.out]; rfl
        · rw [e2, show N + ((k : Int) + 1) = N + k + 1 by omega, ← HWd.out]; exact hh
        · rw [hd2, HM.out]; omega
    · obtain rfl : k = L := by omega
      have hle : ¬ ((k : Int) + 1 ≤ (k : Int)) := by omega
      have HLq := Lib.hid (fun nd => ((HL.out (wr.drewN nd) hTr).mono fun e w' h9 => (⟨h9.1, h9.2.symm⟩ : e = .returned (.int .i64 k) ∧ w' = wr.drewN nd)))
      have HBb := Lib.hid hB
      clear hB hmeas
      go_wp2_with fail
      go_quiet (exact Calls.quiet_of_same (HLq.out _))
      go_wp2_with fail
      go_ret
      exact ⟨rfl, below_drewN ((below_alloc w _).trans (HBb.out.mono (by omega))) _⟩

theorem monthDays_any (s : Sp) (hs : SpOk s) (m : Int) (h1 : 11 ≤ m) (h2 : m ≤ 120000) (w : World) (ht : Tab w) :
    Calls Tryd.prog 53 #[spV s, .int .i64 m] w fun e w' => e = .returned (.int .u64 (mdays s m : Nat)) ∧ Below w.heap.size w w' := by
  by_cases hm : m = 11 ∨ m = 120000 ∨ (12 ≤ m ∧ m ≤ 119999 ∧ hasB s.mo (m % 12 + 1) = false)
  · exact monthDays_no s hs m hm w ht
  · refine monthDays_ok s hs m (by omega) (by omega) ?_ w ht
    cases h : hasB s.mo (m % 12 + 1)
    · exact absurd (.inr (.inr ⟨by omega, by omega, h⟩)) hm
    · rfl

/-- When a day of a month begins. -/
def midA (m : Int) (d : Nat) : Int := num (m / 12) (m % 12 + 1) d * 86400
theorem midnight_any (m : Int) (d : Nat) (h1 : 12 ≤ m) (h2 : m ≤ 119999) (hd : 1 ≤ d) (hd' : (d : Int) ≤ len (m / 12) (m % 12 + 1)) (w : World) (ht : Tab w) :
    Calls Tryd.prog 67 #[.int .i64 m, .int .i64 d] w fun e w' => e = .returned (.int .i64 (midA m d)) ∧ w' = w := by
  have hok : okd (m / 12) (m % 12 + 1) d := by unfold okd; omega
  have HN := Lib.hid (fun w ht => number_ok (m / 12) (m % 12 + 1) d w ht hok)
  have HA : Hid (midA m d = num (m / 12) (m % 12 + 1) d * 86400) := Lib.hid rfl
  have hb : -719162 ≤ num (m / 12) (m % 12 + 1) d ∧ num (m / 12) (m % 12 + 1) d ≤ 2932896 := num_bd' hok
  have HT := Lib.hid ht
  generalize num (m / 12) (m % 12 + 1) d = N at *
  clear hok ht
  go_enter Tryd.func67, Tryd.ntmps67
  go_wp2_with (go_at_call 72; refine (HN.out _ HT.out).mono ?_; rintro e w' ⟨rfl, rfl⟩)
  go_ret
  exact ⟨ret_int (by rw [HA.out]), rfl⟩
end Go.Proofs.YtnijneajlmgkjaaDoor
