/- Walks of package mix and of its answers by definition: sums alone. (Cut out of MixC, MixF, MixG.) -/
import Derived.Test.YtilbmbheancciaaDoorMixA
import Derived.Test.YtilbmbheancciaaDoorAppend
import Derived.Test.YtilbmbheancciaaDoorProg
import Derived.WalkKit
import Derived.Handy
import Derived.ProofKit
import Derived.Lib.Hide
import Derived.Outline
import Derived.WalkSmall
import Derived.WalkSpells
import Derived.WalkLawsBesides
import Derived.Lib.BufferRead
import Derived.Deep.QuietTactic
import Derived.BigQuiet
import Derived.Laws.ShiftsVar
import Derived.Lib.Strings
set_option linter.unusedSimpArgs false
set_option linter.unusedVariables false
namespace Go.Proofs.YtilbmbheancciaaDoor
open Go.ChangeShapes Go.WideShapes Go.ChangeAt Go.RowKit Go.Base Go.Mx

theorem nat_div (x k : Nat) : ((x : Int) / (k : Int)) = ((x / k : Nat) : Int) := by omega
/-- The table of four bits lies in its variable. -/
def Tab (w : World) : Prop := ∀ k : Nat, k < 16 → w.cell? ⟨0, k, none⟩ = some (.int .u32 (st4 k : Nat))

theorem not32 (s : Nat) (hs : s < 4294967296) : bits BinOp.xor IntKind.u32 IntKind.u32.max (s : Int) = ((4294967295 - s : Nat) : Int) := by
  have h := u32_xor_nat 4294967295 s (by omega) hs
  have e : 4294967295 ^^^ s = 4294967295 - s := by
    apply Nat.eq_of_testBit_eq
    intro i
    rw [Nat.testBit_xor, show 4294967295 - s = 2 ^ 32 - (s + 1) by omega, Nat.testBit_two_pow_sub_succ (by omega), show (4294967295 : Nat) = 2 ^ 32 - 1 by decide, Nat.testBit_two_pow_sub_one]
    by_cases hi : i < 32
    · simp [hi]
    · have : s.testBit i = false := Nat.testBit_lt_two_pow (Nat.lt_of_lt_of_le (show s < 2 ^ 32 by omega) (Nat.pow_le_pow_right (by decide) (by omega)))
      simp [hi, this]
  rw [e] at h
  exact h
theorem and15 (x : Nat) (hx : x < 4294967296) : bits BinOp.and IntKind.u32 (x : Int) 15 = ((x % 16 : Nat) : Int) := by
  have h := u32_and_nat x 15 hx (by omega)
  rw [show x &&& 15 = x % 16 from Nat.and_two_pow_sub_one_eq_mod x 4] at h
  exact h
theorem four_xor (x : Nat) (hx : x < 4294967296) : bits BinOp.xor IntKind.u32 ((x : Int) / 16) (st4 (x % 16) : Nat) = ((st4 x : Nat) : Int) := by
  have hl := st4_low ⟨x % 16, by omega⟩
  have hb := fours_lt ⟨x % 16, by omega⟩
  simp only at hl hb
  rw [← hl] at hb
  have h := u32_xor_nat (x / 16) (st4 (x % 16)) (by omega) (by omega)
  rw [← nat_div x 16] at h
  rw [st4_four x]
  exact h

theorem update_any (s : Nat) (a : Option Addr) (bs : List UInt8) (cap : Nat) (w : World) (hs : s < 4294967296) (ht : Tab w) (hb : Byt w a bs) (hm : bs.length ≤ maxLen) :
    Calls Tryd.prog 27 #[.int .u32 s, .slice a bs.length cap] w fun e w' => e = .returned (.int .u32 (upd s bs : Nat)) ∧ w = w' := by
  have hsg : IntKind.u32.signed = false := rfl
  have hn := not32 s hs
  have hm' : (bs.length : Int) ≤ 9223372036854775807 := by unfold maxLen at hm; omega
  have HB := Lib.hid hb
  have HT := Lib.hid ht
  have HL : ∀ k, Hid (turn (4294967295 - s) (bs.take k) < 4294967296) := fun k => Lib.hid (turn_lt _ _ (by omega))
  have H : Hid (upd s bs = 4294967295 - turn (4294967295 - s) bs) := Lib.hid rfl
  clear hb ht hm
  go_enter Tryd.func27, Tryd.ntmps27
  go_wp2
  clear hn
  go_loop [0, 11] (fun t i => ∃ k : Nat, k ≤ bs.length ∧ i = .int .i64 (k : Int) ∧ t = .int .u32 (turn (4294967295 - s) (bs.take k) : Nat)) (fun _ i => bs.length - (intOf i).toNat)
  case atStart => exact ⟨0, Nat.zero_le _, rfl, rfl⟩
  case round =>
    obtain ⟨k, hk, rfl, rfl⟩ := hrel
    have ht := (HL k).out
    by_cases hlt : k < bs.length
    · have hlt' : (k : Int) < (bs.length : Int) := by omega
      obtain ⟨b, o, rfl, hc⟩ := HB.out k hlt
      have hc0 : bs[k].toNat < 256 := bs[k].toNat_lt
      have HE : Hid (turn (4294967295 - s) (bs.take (k + 1)) = st8 (turn (4294967295 - s) (bs.take k) ^^^ bs[k].toNat)) := Lib.hid (by rw [List.take_succ_eq_append_getElem hlt, turn_snoc])
      generalize turn (4294967295 - s) (bs.take k) = t at *
      generalize hcc : bs[k].toNat = c at *
      have e0 := u32_xor_nat t c ht (by omega)
      have hx0 : t ^^^ c < 4294967296 := xor_lt ht (by omega)
      generalize t ^^^ c = x0 at *
      have e1 := and15 x0 hx0
      have e2 := four_xor x0 hx0
      have e3 := HT.out (x0 % 16) (by omega)
      have hx1 := st4_lt hx0
      have e4 := and15 (st4 x0) hx1
      have e5 := four_xor (st4 x0) hx1
      have e6 := HT.out (st4 x0 % 16) (by omega)
      have l1 : x0 % 16 < 16 := by omega
      have l2 : st4 x0 % 16 < 16 := by omega
      go_wp2
      go_rounds 3
      go_round
      case rel => exact ⟨k + 1, by omega, by go_num, by rw [HE.out]; rfl⟩
      case measure => simp [intOf]; omega
    · obtain rfl : k = bs.length := by omega
      have hn := not32 _ ht
      rw [List.take_length] at hn
      go_wp2
      go_ret
      exact ⟨ret_int (by rw [H.out]), rfl⟩

def st1n : Nat → Nat → Nat
  | 0, x => x
  | k + 1, x => st1 (st1n k x)
theorem st1n_lt {x : Nat} (h : x < 4294967296) : ∀ k, st1n k x < 4294967296
  | 0 => h
  | k + 1 => st1_lt (st1n_lt h k)
theorem st1_odd {x : Nat} (hx : x < 4294967296) (h : x % 2 = 1) : bits BinOp.xor IntKind.u32 ((x : Int) / 2) 3988292384 = ((st1 x : Nat) : Int) := by
  have e := u32_xor_nat (x / 2) 3988292384 (by omega) (by omega)
  unfold st1
  rw [if_pos h]
  exact e
theorem st1_evn {x : Nat} (h : ¬ x % 2 = 1) : ((x : Int) / 2) = ((st1 x : Nat) : Int) := by
  unfold st1
  rw [if_neg h]
  omega

set_option maxHeartbeats 1000000 in
theorem turn_any (s : Nat) (a : Option Addr) (bs : List UInt8) (cap : Nat) (w : World) (hs : s < 4294967296) (hb : Byt w a bs) (hm : bs.length ≤ maxLen) :
    Calls Tryd.prog 29 #[.int .u32 s, .slice a bs.length cap] w fun e w' => e = .returned (.int .u32 (turn s bs : Nat)) ∧ w = w' := by
  have hm' : (bs.length : Int) ≤ 9223372036854775807 := by unfold maxLen at hm; omega
  have HB := Lib.hid hb
  have HL : ∀ k, Hid (turn s (bs.take k) < 4294967296) := fun k => Lib.hid (turn_lt _ _ (by omega))
  clear hb hm
  go_enter Tryd.func29, Tryd.ntmps29
  go_wp2
  go_loop [0, 5] (fun t i => ∃ k : Nat, k ≤ bs.length ∧ i = .int .i64 (k : Int) ∧ t = .int .u32 (turn s (bs.take k) : Nat)) (fun _ i => bs.length - (intOf i).toNat)
  case atStart => exact ⟨0, Nat.zero_le _, rfl, rfl⟩
  case round =>
    obtain ⟨k, hk, rfl, rfl⟩ := hrel
    have ht := (HL k).out
    by_cases hlt : k < bs.length
    · have hlt' : (k : Int) < (bs.length : Int) := by omega
      obtain ⟨b, o, rfl, hc⟩ := HB.out k hlt
      have hc0 : bs[k].toNat < 256 := bs[k].toNat_lt
      have HE : Hid (turn s (bs.take (k + 1)) = st8 (turn s (bs.take k) ^^^ bs[k].toNat)) := Lib.hid (by rw [List.take_succ_eq_append_getElem hlt, turn_snoc])
      generalize turn s (bs.take k) = t at *
      generalize hcc : bs[k].toNat = c at *
      have e0 := u32_xor_nat t c ht (by omega)
      have hx0 : t ^^^ c < 4294967296 := xor_lt ht (by omega)
      generalize t ^^^ c = x0 at *
      clear hcc ht
      go_wp2
      have HX : Hid (∀ j, st1n j x0 < 4294967296) := Lib.hid (fun j => st1n_lt hx0 j)
      go_loop [0, 6] (fun t i => ∃ j : Nat, j ≤ 8 ∧ i = .int .i64 (j : Int) ∧ t = .int .u32 (st1n j x0 : Nat)) (fun _ i => 8 - (intOf i).toNat)
      case atStart => exact ⟨0, Nat.zero_le _, rfl, rfl⟩
      case round =>
        obtain ⟨j, hj, rfl, rfl⟩ := hrel
        have hx := HX.out j
        by_cases hj8 : j < 8
        · have HS : Hid (st1n (j + 1) x0 = st1 (st1n j x0)) := Lib.hid rfl
          generalize st1n j x0 = y at *
          by_cases hy : y % 2 = 1
          · have e1 := st1_odd hx hy
            have hy' : ((y : Int) % 2 == 1) = true := by simp; omega
            go_wp2
            go_round
            case rel => exact ⟨j + 1, by omega, by go_num, by rw [HS.out]⟩
            case measure => simp [intOf]; omega
          · have e1 := st1_evn hy
            have hy' : ((y : Int) % 2 == 1) = false := by simp; omega
            go_wp2
            go_round
            case rel => exact ⟨j + 1, by omega, by go_num, by rw [HS.out]⟩
            case measure => simp [intOf]; omega
        · obtain rfl : j = 8 := by omega
          go_wp2
          go_round
          case rel => exact ⟨k + 1, by omega, by go_num, by rw [HE.out]; rfl⟩
          case measure => simp [intOf]; omega
    · obtain rfl : k = bs.length := by omega
      go_wp2
      go_ret
      exact ⟨rfl, rfl⟩

theorem refSum_any (a : Option Addr) (bs : List UInt8) (cap : Nat) (w : World) (hb : Byt w a bs) (hm : bs.length ≤ maxLen) :
    Calls Tryd.prog 21 #[.slice a bs.length cap] w fun e w' => e = .returned (.int .u32 (sum bs : Nat)) ∧ w = w' := by
  have hsg : IntKind.u32.signed = false := rfl
  have hn := not32 _ (turn_lt bs 4294967295 (by omega))
  have H : Hid (sum bs = 4294967295 - turn 4294967295 bs) := Lib.hid rfl
  have HB := Lib.hid hb
  clear hb
  go_enter Tryd.func21, Tryd.ntmps21
  go_wp2_with (go_at_call 29; refine (turn_any 4294967295 _ _ _ _ (by omega) HB.out hm).mono ?_; rintro e w' ⟨rfl, rfl⟩)
  go_ret
  exact ⟨ret_int (by rw [H.out]), rfl⟩
/-- A list of lists of bytes. -/
def Parts (w : World) (p : Option Addr) (l : List (List UInt8)) : Prop := ∀ (i : Nat) (h : i < l.length), ∃ b o a cap, p = some ⟨b, o, none⟩ ∧ w.cell? ⟨b, o + i, none⟩ = some (.slice a l[i].length cap) ∧ Byt w a l[i] ∧ l[i].length ≤ maxLen
def upds (s : Nat) (l : List (List UInt8)) : Nat := l.foldl upd s
theorem upds_lt (l : List (List UInt8)) : ∀ s, s < 4294967296 → upds s l < 4294967296 := by
  induction l with
  | nil => intro s h; exact h
  | cons c l ih => intro s _; unfold upds; rw [List.foldl_cons]; exact ih _ (upd_lt _ _)
theorem upds_flat (l : List (List UInt8)) : ∀ s, s < 4294967296 → upds s l = upd s l.flatten := by
  induction l with
  | nil => intro s h; exact (upd_nil s h).symm
  | cons c l ih => intro s h; rw [List.flatten_cons, upd_append s _ _ h, ← ih _ (upd_lt _ _)]; rfl

theorem sum_any (p : Option Addr) (l : List (List UInt8)) (cap : Nat) (w : World) (ht : Tab w) (hb : Parts w p l) (hm : l.length ≤ maxLen) :
    Calls Tryd.prog 18 #[.slice p l.length cap] w fun e w' => e = .returned (.int .u32 (sum l.flatten : Nat)) ∧ w = w' := by
  have hm' : (l.length : Int) ≤ 9223372036854775807 := by unfold maxLen at hm; omega
  have HB := Lib.hid hb
  have HT := Lib.hid ht
  have HL : ∀ k, Hid (upds 0 (l.take k) < 4294967296) := fun k => Lib.hid (upds_lt _ _ (by omega))
  have H : Hid (sum l.flatten = upds 0 l) := Lib.hid (upds_flat l 0 (by omega)).symm
  clear hb hm ht
  go_enter Tryd.func18, Tryd.ntmps18
  go_wp2
  go_loop [3, 8] (fun t i => ∃ k : Nat, k ≤ l.length ∧ i = .int .i64 (k : Int) ∧ t = .int .u32 (upds 0 (l.take k) : Nat)) (fun _ i => l.length - (intOf i).toNat)
  case atStart => exact ⟨0, Nat.zero_le _, rfl, rfl⟩
  case round =>
    obtain ⟨k, hk, rfl, rfl⟩ := hrel
    have ht := (HL k).out
    by_cases hlt : k < l.length
    · have hlt' : (k : Int) < (l.length : Int) := by omega
      obtain ⟨b, o, a, cap, rfl, hc, hby, hml⟩ := HB.out k hlt
      have HY := Lib.hid hby
      have HE : Hid (upds 0 (l.take (k + 1)) = upd (upds 0 (l.take k)) l[k]) := Lib.hid (by rw [List.take_succ_eq_append_getElem hlt]; unfold upds; rw [List.foldl_append]; rfl)
      generalize upds 0 (l.take k) = t at *
      generalize l[k] = x at *
      clear hby
      go_wp2_with (go_at_call 27; refine (update_any _ _ _ _ _ ht HT.out HY.out hml).mono ?_; rintro e w' ⟨rfl, rfl⟩)
      go_round
      case rel => exact ⟨k + 1, by omega, by go_num, by rw [HE.out]⟩
      case measure => simp [intOf]; omega
    · obtain rfl : k = l.length := by omega
      go_wp2
      go_ret
      exact ⟨ret_int (by rw [H.out]), rfl⟩

theorem run_convert_byt {P : Program} {src dst e : TypeId} (hs : P.underlying src = some (.slice e)) (he : P.underlying e = some (.int .u8)) (hd : P.underlying dst = some .string) {w : World} {A : Option Addr} {ys : List UInt8} (c : Nat) (h : Byt w A ys) :
    (convert src dst (.slice A ys.length c)).run P w = .ok (.string ⟨ys.toArray⟩) w := by
  rcases A with _ | ad
  · have : ys = [] := by
      cases ys with
      | nil => rfl
      | cons y ys => obtain ⟨_, _, h, _⟩ := h 0 (by simp); cases h
    subst this
    exact Lib.run_convert_nil_bytes w src dst e c hs he hd
  · refine run_convert_bytes_back w src dst e ad c ys hs he hd (fun j hj => ?_)
    obtain ⟨b, o, e, hc⟩ := h j hj
    injection e with e; subst e
    rw [add_off]; exact hc
theorem wpList_convert_byt {P : Program} {w : World} {ops : Array Oper} {rest : List Oper} {o : Oper} {a : Act} {Q : Exit → Act → World → Prop} (hgd : Region.wanted o (yielded ops a.tmps) = true) (x : Operand) (src dst e : TypeId) (ho : o.op = .convert src dst x)
    (hs : P.underlying src = some (.slice e)) (he : P.underlying e = some (.int .u8)) (hd : P.underlying dst = some .string) (A : Option Addr) (ys : List UInt8) (c : Nat) (hx : a.eval x = .slice A ys.length c) (hy : Byt w A ys)
    (h : wpList P ops Q rest (a.put o.dst (.string ⟨ys.toArray⟩)) w) : wpList P ops Q (o :: rest) a w :=
  wpList_step fun K hK => by
    rw [if_pos hgd]
    unfold Oper.wp execOp
    simp only [ho, Sem.run_bind, Sem.run_pure, Result.andThen_ok, hx, run_convert_byt hs he hd c hy]
    exact hK _ _ h

theorem parts_cell2 {w : World} {g ca cb : Nat} {a b : Option Addr} {x y : List UInt8} (hc : w.cell? ⟨g, 0, none⟩ = some (.slice a x.length ca)) (hd : w.cell? ⟨g, 1, none⟩ = some (.slice b y.length cb)) (ha : Byt w a x) (hb : Byt w b y) (hx : x.length ≤ maxLen) (hy : y.length ≤ maxLen) : Parts w (some ⟨g, 0, none⟩) [x, y] := fun i hi => by
  match i, hi with
  | 0, _ => exact ⟨g, 0, a, ca, rfl, by rw [Nat.zero_add]; exact hc, ha, hx⟩
  | 1, _ => exact ⟨g, 0, b, cb, rfl, by rw [Nat.zero_add]; exact hd, hb, hy⟩

theorem refSum_len (A : Option Addr) (l : List UInt8) (n c : Nat) (w : World) (hn : n = l.length) (hb : Byt w A l) (hm : l.length ≤ maxLen) :
    Calls Tryd.prog 21 #[.slice A n c] w fun e w' => e = .returned (.int .u32 (sum l : Nat)) ∧ w = w' := by
  subst hn; exact refSum_any A l c w hb hm

theorem byt_set {w : World} {g k : Nat} {bs : List UInt8} {c : UInt8} (h : Byt w (some ⟨g, 0, none⟩) bs) (hk : k < bs.length) : Byt (w.setCell ⟨g, k, none⟩ (u8v c)) (some ⟨g, 0, none⟩) (bs.set k c) := fun i hi => by
  rw [List.length_set] at hi
  obtain ⟨b', o', e, hc⟩ := h i hi
  injection e with e; injection e with e1 e2 _; subst e1; subst e2
  refine ⟨g, 0, rfl, ?_⟩
  rw [Nat.zero_add] at hc ⊢
  by_cases hik : k = i
  · subst hik
    rw [World.cell?_setCell_same (h := hc)]
    simp
  · rw [World.cell?_setCell_other (h := by intro e; injection e with _ e _; exact hik e), hc]
    simp [hik]
theorem set_split (bs : List UInt8) (k : Nat) (c : UInt8) (hk : k < bs.length) : sum bs = sum (bs.set k c) ↔ bs[k] = c := by
  have h := sum_finds (bs.take k) (bs.drop (k + 1)) bs[k] c
  have e1 : bs.take k ++ bs[k] :: bs.drop (k + 1) = bs := by rw [← List.drop_eq_getElem_cons hk, List.take_append_drop]
  have e2 : bs.take k ++ c :: bs.drop (k + 1) = bs.set k c := by rw [List.set_eq_take_append_cons_drop, if_pos hk]
  rwa [e1, e2] at h

end Go.Proofs.YtilbmbheancciaaDoor
