/- Walk of the reference's own text of a field. -/
import Derived.Test.YtbbleedepmcdfaaDoorCrpT
set_option linter.unusedSimpArgs false
set_option linter.unusedVariables false
namespace Go.Proofs.YtbbleedepmcdfaaDoor
open Go.ChangeShapes Go.WideShapes Go.ChangeAt Go.RowKit Go.Base Go.Cro Go.Civ

theorem step_item : ∀ k, k < 5 → ∀ n, n < 100 → 2 ≤ n → (itemR k ([42, 47] ++ digB n)).1 = valsB (scB k) (scB k).least (scB k).most n := by decide +kernel
theorem join_snoc (c : UInt8) (x : Bytes) : ∀ xs : List Bytes, xs ≠ [] → Lib.join (xs ++ [x]) [c] = Lib.join xs [c] ++ c :: x
  | [], h => absurd rfl h
  | [y], _ => by rw [List.singleton_append, join_two, Lib.join_one, Lib.join_one]
  | y :: z :: r, _ => by
    have ih := join_snoc c x (z :: r) (by simp)
    rw [List.cons_append, List.cons_append, join_two, ← List.cons_append, ih, join_two]
    simp
theorem hasB_mod {b : Int} (hb : U64 b) (n : Nat) : hasB b (n : Int) = ((b / 2 ^ n).tmod 2 == 1) := by
  rw [Int.tmod_eq_emod_of_nonneg (Int.ediv_nonneg hb.1 (Int.le_of_lt (Int.pow_pos (by omega))))]
  obtain ⟨m, rfl⟩ : ∃ n : Nat, b = (n : Int) := ⟨b.toNat, by have := hb.1; omega⟩
  rw [hasB_test m n (by have := hb.2; omega), Nat.testBit_eq_decide_div_mod_eq, Bool.eq_iff_iff]
  have e : (m : Int) / 2 ^ n = ((m / 2 ^ n : Nat) : Int) := by rw [Int.natCast_ediv, Int.natCast_pow]; rfl
  rw [e]
  simp only [beq_iff_eq, decide_eq_true_eq]
  omega

set_option maxHeartbeats 4000000 in
theorem one_star (k : Nat) (hk : k < 5) (b : Int) (days star : Bool) (w : World) (hb : (b == allB (scB k)) = true) (hd : (!days || star) = true) :
    Calls Tryd.prog 31 #[.int .i64 k, .int .u64 b, .bool days, .bool star] w fun e w' => e = .returned (.string ⟨#[42]⟩) ∧ Below w.heap.size w w' := by
  have HA := Lib.hid (fun w => refAll_any k hk w)
  generalize allB (scB k) = A at *
  cases days <;> cases star
  · go_enter Tryd.func31, Tryd.ntmps31
    go_wp2_with (go_at_call 33; refine (HA.out _).mono ?_; rintro e w1 ⟨rfl, hb1⟩; have HB1 := Lib.hid hb1; clear hb1)
    go_ret
    exact ⟨rfl, HB1.out⟩
  · go_enter Tryd.func31, Tryd.ntmps31
    go_wp2_with (go_at_call 33; refine (HA.out _).mono ?_; rintro e w1 ⟨rfl, hb1⟩; have HB1 := Lib.hid hb1; clear hb1)
    go_ret
    exact ⟨rfl, HB1.out⟩
  · cases hd
  · go_enter Tryd.func31, Tryd.ntmps31
    go_wp2_with (go_at_call 33; refine (HA.out _).mono ?_; rintro e w1 ⟨rfl, hb1⟩; have HB1 := Lib.hid hb1; clear hb1)
    go_ret
    exact ⟨rfl, HB1.out⟩

set_option maxHeartbeats 4000000 in
theorem one_steps (k : Nat) (hk : k < 5) (b : Int) (w : World) (hb : (b == allB (scB k)) = false) :
    Calls Tryd.prog 31 #[.int .i64 k, .int .u64 b, .bool true, .bool true] w fun e w' => e = .returned (.string ⟨(oneT b true (scB k)).toArray⟩) ∧ Below w.heap.size w w' := by
  have HA := Lib.hid (fun w => refAll_any k hk w)
  have HO : Hid (oneT b true (scB k) = match stepFrom b (scB k) 98 2 with | some n => [42, 47] ++ Lib.decDigits n | none => []) := Lib.hid (by unfold oneT; rw [if_pos rfl, if_neg (by rw [hb]; decide)]; cases stepFrom b (scB k) 98 2 <;> rfl)
  have HE : Hid (∀ n : Nat, n < 100 → (⟨#[42, 47]⟩ : ByteArray) ++ itoT n = ⟨([42, 47] ++ digB n).toArray⟩) := Lib.hid (fun n h => by unfold itoT; rw [dec_dig h]; exact bytes_append [42, 47] (digB n))
  have HI : Hid (∀ (n : Nat) (w : World), n < 100 → 2 ≤ n → Calls Tryd.prog 45 #[.int .i64 k, .string ((⟨#[42, 47]⟩ : ByteArray) ++ itoT n)] w fun e w' => e = .returned (.tuple #[.int .u64 (valsB (scB k) (scB k).least (scB k).most n), .bool (itemR k ([42, 47] ++ digB n)).2.1, .int .i64 (itemR k ([42, 47] ++ digB n)).2.2]) ∧ Below w.heap.size w w') := Lib.hid (fun n w h h2 => by
    have := refItem_any k hk ([42, 47] ++ digB n) (by have := digB_len n; unfold maxLen; simp; omega) w
    rw [item_eq k hk] at this
    unfold itemV at this
    rw [step_item k hk n h h2] at this
    rw [HE.out n h]
    exact this)
  have HT := Lib.hid (fun (n : Nat) (h : n ≤ 99) w => refText_any n h w)
  have HL : Hid (∀ n : Nat, n < 100 → (itoT n).size ≤ 2) := Lib.hid (fun n h => by have := dec_len h; simpa [itoT, ByteArray.size] using this)
  generalize hR : oneT b true (scB k) = R at *
  clear hR
  generalize allB (scB k) = A at *
  go_enter Tryd.func31, Tryd.ntmps31
  go_wp2_with (go_at_call 33; refine (HA.out _).mono ?_; rintro e w1 ⟨rfl, hb1⟩; have HB1 := Lib.hid hb1; clear hb1)
  go_loopw [9] (fun i wr => ∃ n f : Nat, 2 ≤ n ∧ n + f = 100 ∧ i = .int .i64 (n : Int) ∧ Hid (stepFrom b (scB k) f n = stepFrom b (scB k) 98 2) ∧ Hid (Below w.heap.size w wr)) (fun i _ => 100 - (intOf i).toNat)
  case atStart => exact ⟨2, 98, Nat.le_refl _, rfl, rfl, Lib.hid rfl, HB1⟩
  case round =>
    obtain ⟨n, f, hn2, hnf, rfl, HS, HB⟩ := hrel
    clear HB1
    by_cases hlt : n < 100
    · have hlt' : (n : Int) ≤ 99 := by omega
      have hl := HL.out n hlt
      obtain ⟨f, rfl⟩ : ∃ g, f = g + 1 := ⟨f - 1, by omega⟩
      have HS2 : Hid (stepFrom b (scB k) (f + 1) n = if b == valsB (scB k) (scB k).least (scB k).most n then some n else stepFrom b (scB k) f (n + 1)) := Lib.hid rfl
      have HTn := Lib.hid (fun w => HT.out n (by omega) w)
      have HIn := Lib.hid (fun w => HI.out n w hlt hn2)
      have HEn := Lib.hid (HE.out n hlt)
      have HDn := Lib.hid (dec_dig hlt)
      clear HT HI HE HL
      generalize (itemR k ([42, 47] ++ digB n)).2.1 = q1 at *
      generalize (itemR k ([42, 47] ++ digB n)).2.2 = q2 at *
      generalize valsB (scB k) (scB k).least (scB k).most n = V at *
      by_cases hV : V = b
      · subst hV
        have HF : Hid (R = [42, 47] ++ digB n) := Lib.hid (by rw [HO.out, ← HS.out, HS2.out, if_pos (by simp)]; simp only; rw [HDn.out])
        have tok1 : True := trivial
        go_wp2_with (first | (go_at_call 52; have _t := tok1; refine (HTn.out _).mono ?_; rintro e w3 ⟨rfl, hb3⟩; have HB3 := Lib.hid (HB.out.trans (hb3.mono HB.out.size)); clear hb3 tok1 _t) | (go_at_call 45; refine (HIn.out _).mono ?_; rintro e w4 ⟨rfl, hb4⟩; have HB4 := Lib.hid (HB3.out.trans (hb4.mono HB3.out.size)); clear hb4) | (go_at_call 52; refine (HTn.out _).mono ?_; rintro e w5 ⟨rfl, hb5⟩; have HB5 := Lib.hid (HB4.out.trans (hb5.mono HB4.out.size)); clear hb5))
        go_ret
        refine ⟨?_, HB5.out⟩
        show Ending.returned (.string ((⟨#[42, 47]⟩ : ByteArray) ++ itoT n)) = _
        rw [HF.out, ← HEn.out]
      · have hV1 : (V == b) = false := by simpa using hV
        have HS3 : Hid (stepFrom b (scB k) f (n + 1) = stepFrom b (scB k) 98 2) := Lib.hid (by rw [← HS.out, HS2.out, if_neg (by simpa using fun h => hV h.symm)])
        clear hV
        go_wp2_with (first | (go_at_call 52; refine (HTn.out _).mono ?_; rintro e w3 ⟨rfl, hb3⟩; have HB3 := Lib.hid (HB.out.trans (hb3.mono HB.out.size)); clear hb3) | (go_at_call 45; refine (HIn.out _).mono ?_; rintro e w4 ⟨rfl, hb4⟩; have HB4 := Lib.hid (HB3.out.trans (hb4.mono HB3.out.size)); clear hb4))
        go_roundw
        case rel => exact ⟨n + 1, f, by omega, by omega, by go_num, HS3, HB4⟩
        case measure => simp [intOf]; omega
    · obtain rfl : n = 100 := by omega
      obtain rfl : f = 0 := by omega
      have HF : Hid (R = []) := Lib.hid (by rw [HO.out, ← HS.out]; rfl)
      go_wp2
      go_ret
      refine ⟨?_, HB.out⟩
      show Ending.returned (.string ⟨#[]⟩) = _
      rw [HF.out]
set_option maxHeartbeats 4000000 in
theorem one_list (k : Nat) (hk : k < 5) (b : Int) (hu : U64 b) (days star : Bool) (w : World) (hb : ((b == allB (scB k)) && (!days || star)) = false) (hd : (days && star) = false) :
    Calls Tryd.prog 31 #[.int .i64 k, .int .u64 b, .bool days, .bool star] w fun e w' => e = .returned (.string ⟨(oneT b false (scB k)).toArray⟩) ∧ Below w.heap.size w w' := by
  have HA := Lib.hid (fun w => refAll_any k hk w)
  have HLo := Lib.hid (fun w => refLow_any k hk w)
  have HLa := Lib.hid (fun w => refLast_any k hk w)
  have HO : Hid (oneT b false (scB k) = listT b (scB k).least.toNat (scB k).most.toNat) := Lib.hid (by unfold oneT; simp)
  have HT := Lib.hid (fun (n : Nat) (h : n ≤ 99) w => refText_any n h w)
  have HL : Hid (∀ n : Nat, n < 100 → (itoT n).size ≤ 2) := Lib.hid (fun n h => by have := dec_len h; simpa [itoT, ByteArray.size] using this)
  obtain ⟨hm1, hm2⟩ := sc_most k hk
  have hl0 := (scB_bd k).1
  have hl1 := (scB_bd k).2.1
  have hmm : 0 ≤ (scB k).most := by rcases (by omega : k = 0 ∨ k = 1 ∨ k = 2 ∨ k = 3 ∨ k = 4) with rfl | rfl | rfl | rfl | rfl <;> simp [scB]
  have hsz : ∀ n : Nat, n ≤ 60 → (Lib.join ((gotN b (scB k).least.toNat n).map Lib.decDigits) [44]).length ≤ 300 := by
    intro n hn
    refine Nat.le_trans (join_le 2 [44] _ ?_) ?_
    · intro x hx
      obtain ⟨v, hv, rfl⟩ := List.mem_map.1 hx
      have := gotN_mem hv
      exact dec_len (by omega)
    · have := gotN_len b (scB k).least.toNat n
      simp only [List.length_map, List.length_cons, List.length_nil]
      omega
  have HSZ := Lib.hid hsz
  generalize hlo : (scB k).least.toNat = lo at *
  generalize hhi : (scB k).most.toNat = hi at *
  have elo : (scB k).least = (lo : Int) := by omega
  have ehi : (scB k).most = (hi : Int) := by omega
  rw [elo] at HLo
  rw [ehi] at HLa
  have hu1 := hu.1
  have hu2 := hu.2
  have HH := Lib.hid (fun n => hasB_mod hu n)
  clear hlo hhi elo ehi hl0 hl1 hmm hsz hu
  generalize oneT b false (scB k) = R at *
  generalize allB (scB k) = A at *
  have hcase : (days = false ∧ star = false ∧ (b == A) = false) ∨ (days = false ∧ star = true ∧ (b == A) = false) ∨ (days = true ∧ star = false ∧ (b == A) = false) ∨ (days = true ∧ star = false ∧ (b == A) = true) := by
    revert hb hd
    generalize (b == A) = q
    cases days <;> cases star <;> cases q <;> simp
  clear hb hd
  rcases hcase with ⟨rfl, rfl, hb⟩ | ⟨rfl, rfl, hb⟩ | ⟨rfl, rfl, hb⟩ | ⟨rfl, rfl, hb⟩
  all_goals
    go_enter Tryd.func31, Tryd.ntmps31
    go_wp2_with (first | (go_at_call 33; refine (HA.out _).mono ?_; rintro e w1 ⟨rfl, hb1⟩; have HB1 := Lib.hid hb1; clear hb1) | (go_at_call 53; refine (HLo.out _).mono ?_; rintro e w1 ⟨rfl, rfl⟩))
    go_loopw [13, 14] (fun t i wr => ∃ n : Nat, lo + n ≤ hi + 1 ∧ i = .int .i64 ((lo + n : Nat) : Int) ∧ t = .string ⟨(Lib.join ((gotN b lo n).map Lib.decDigits) [44]).toArray⟩ ∧ Hid (Below w.heap.size w wr)) (fun _ i _ => 100 - (intOf i).toNat)
    case atStart => exact ⟨0, by omega, rfl, rfl, HB1⟩
    case round =>
      obtain ⟨n, hn, rfl, rfl, HB⟩ := hrel
      clear HB1
      have hjl := HSZ.out n (by omega)
      by_cases hlt : lo + n ≤ hi
      · have hlt' : ((lo + n : Nat) : Int) ≤ (hi : Int) := by omega
        have hn0 : (0 : Int) ≤ ((lo + n : Nat) : Int) ∧ ((lo + n : Nat) : Int) ≤ 59 := by omega
        have HTn := Lib.hid (fun w => HT.out (lo + n) (by omega) w)
        have hl := HL.out (lo + n) (by omega)
        have HG := Lib.hid (gotN_succ b lo n)
        have hh := HH.out (lo + n)
        have htn : ((lo + n : Nat) : Int).toNat = lo + n := by omega
        generalize hm : lo + n = m at *
        cases hhb : hasB b (m : Int)
        · rw [hhb] at HG hh
          have hh2 := hh.symm
          have HG2 : Hid (gotN b lo (n + 1) = gotN b lo n) := Lib.hid (by rw [HG.out]; simp)
          clear hh HG hhb
          go_wp2_with (first | (go_at_call 54; refine (HLa.out _).mono ?_; rintro e w3 ⟨rfl, rfl⟩))
          go_roundw
          case rel => exact ⟨n + 1, by omega, by rw [← hm]; go_num, by rw [HG2.out], HB⟩
          case measure => simp [intOf]; omega
        · rw [hhb] at HG hh
          have hh2 := hh.symm
          have HG2 : Hid (gotN b lo (n + 1) = gotN b lo n ++ [m]) := Lib.hid (by rw [HG.out]; simp)
          clear hh HG hhb
          by_cases he : gotN b lo n = []
          · have HN : Hid (Lib.join ((gotN b lo (n + 1)).map Lib.decDigits) [44] = Lib.decDigits m) := Lib.hid (by rw [HG2.out, he]; simp [Lib.join_one])
            have hj : Lib.join ((gotN b lo n).map Lib.decDigits) [44] = [] := by rw [he]; rfl
            clear he
            generalize Lib.join ((gotN b lo n).map Lib.decDigits) [44] = J at *
            subst hj
            go_wp2_with (first | (go_at_call 54; refine (HLa.out _).mono ?_; rintro e w3 ⟨rfl, rfl⟩) | (go_at_call 52; refine (HTn.out _).mono ?_; rintro e w4 ⟨rfl, hb4⟩; have HB4 := Lib.hid (HB.out.trans (hb4.mono HB.out.size)); clear hb4))
            go_goals
            go_roundw
            case rel => exact ⟨n + 1, by omega, by rw [← hm]; go_num, by rw [HN.out]; unfold itoT; rw [show (⟨#[]⟩ : ByteArray) = ⟨([] : Bytes).toArray⟩ from rfl, bytes_append]; rfl, HB4⟩
            case measure => simp [intOf]; omega
          · have HN : Hid (Lib.join ((gotN b lo (n + 1)).map Lib.decDigits) [44] = Lib.join ((gotN b lo n).map Lib.decDigits) [44] ++ 44 :: Lib.decDigits m) := Lib.hid (by rw [HG2.out, List.map_append, List.map_cons, List.map_nil, join_snoc _ _ _ (by simpa using he)])
            have hj : (!(Lib.join ((gotN b lo n).map Lib.decDigits) [44]).isEmpty) = true := by
              cases hg : gotN b lo n with
              | nil => exact absurd hg he
              | cons x r =>
                rw [List.map_cons, Lib.join_cons]
                have : (Lib.decDigits x) ≠ [] := by
                  have hx : x < 100 := by have := gotN_mem (b := b) (lo := lo) (n := n) (v := x) (by rw [hg]; simp); omega
                  rw [dec_dig hx]; unfold digB; split <;> simp
                cases hd : Lib.decDigits x with
                | nil => exact absurd hd this
                | cons y ys => rfl
            clear he
            generalize Lib.join ((gotN b lo n).map Lib.decDigits) [44] = J at *
            go_wp2_with (first | (go_at_call 54; refine (HLa.out _).mono ?_; rintro e w3 ⟨rfl, rfl⟩) | (go_at_call 52; refine (HTn.out _).mono ?_; rintro e w4 ⟨rfl, hb4⟩; have HB4 := Lib.hid (HB.out.trans (hb4.mono HB.out.size)); clear hb4))
            go_roundw
            case rel => exact ⟨n + 1, by omega, by rw [← hm]; go_num, by rw [HN.out]; unfold itoT; rw [show (⟨#[44]⟩ : ByteArray) = ⟨([44] : Bytes).toArray⟩ from rfl, bytes_append, bytes_append]; simp, HB4⟩
            case measure => simp [intOf]; omega
      · have hnn : lo + n = hi + 1 := by omega
        have HF : Hid (R = Lib.join ((gotN b lo n).map Lib.decDigits) [44]) := Lib.hid (by rw [HO.out]; unfold listT; rw [show hi + 1 - lo = n by omega])
        have hlt' : (hi : Int) < ((lo + n : Nat) : Int) := by omega
        have hn0 : (0 : Int) ≤ ((lo + n : Nat) : Int) ∧ ((lo + n : Nat) : Int) ≤ 60 := by omega
        clear hlt hnn
        generalize lo + n = m at *
        go_wp2_with (first | (go_at_call 54; refine (HLa.out _).mono ?_; rintro e w3 ⟨rfl, rfl⟩))
        go_ret
        exact ⟨by rw [HF.out]; rfl, HB.out⟩
end Go.Proofs.YtbbleedepmcdfaaDoor
