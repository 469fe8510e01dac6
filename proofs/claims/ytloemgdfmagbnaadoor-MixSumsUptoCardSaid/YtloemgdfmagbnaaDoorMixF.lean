/- Walks of the laws of package mix that copy their arguments. -/
import Derived.Test.YtloemgdfmagbnaaDoorMixD
import Derived.Test.YtloemgdfmagbnaaDoorAppend
import Derived.Deep.RegionHeld3
set_option linter.unusedSimpArgs false
set_option linter.unusedVariables false
namespace Go.Proofs.YtloemgdfmagbnaaDoor
open Go.ChangeShapes Go.WideShapes Go.ChangeAt Go.RowKit Go.Base Go.Mx

theorem law_finds0 (a : Option Addr) (cap : Nat) (at_ : Int) (other : Nat) (w : World) (ht : Tab w) :
    Calls Tryd.prog 5 #[.slice a 0 cap, .int .i64 at_, .int .u8 other] w fun e w' => e = .returned (.bool true) ∧ Below w.heap.size w w' := by
  have HT := Lib.hid ht
  clear ht
  go_enter Tryd.func5, Tryd.ntmps5
  go_wp2_with (go_at_call 11; refine (lives_any _ HT.out).mono ?_; rintro e w1 ⟨rfl, hb⟩; have HB := Lib.hid hb; clear hb)
  go_ret
  exact ⟨rfl, HB.out⟩

theorem parts_cell {w : World} {g ca : Nat} {a : Option Addr} {x : List UInt8} (hc : w.cell? ⟨g, 0, none⟩ = some (.slice a x.length ca)) (hb : Byt w a x) (hx : x.length ≤ maxLen) : Parts w (some ⟨g, 0, none⟩) [x] := fun i hi => by
  match i, hi with
  | 0, _ => exact ⟨g, 0, a, ca, rfl, by rw [Nat.zero_add]; exact hc, hb, hx⟩
/-- One byte is stored. -/
theorem byt_set {w : World} {g k : Nat} {bs : List UInt8} {c : UInt8} (h : Byt w (some ⟨g, 0, none⟩) bs) (hk : k < bs.length) : Byt (w.setCell ⟨g, k, none⟩ (u8v c)) (some ⟨g, 0, none⟩) (bs.set k c) := fun i hi => by
  rw [List.length_set] at hi
  obtain ⟨b', o', e, hc⟩ := h i hi
  injection e with e; injection e with e1 e2 _; subst e1; subst e2
  refine ⟨g, 0, rfl, ?_⟩
  rw [Nat.zero_add] at hc ⊢
  by_cases hik : k = i
  · subst hik
    rw [World.cell?_setCell_same (h := hc)]
    simp
  · rw [World.cell?_setCell_other (h := by intro e; injection e with _ e _; exact hik e), hc]
    simp [hik]
theorem set_split (bs : List UInt8) (k : Nat) (c : UInt8) (hk : k < bs.length) : sum bs = sum (bs.set k c) ↔ bs[k] = c := by
  have h := sum_finds (bs.take k) (bs.drop (k + 1)) bs[k] c
  have e1 : bs.take k ++ bs[k] :: bs.drop (k + 1) = bs := by rw [← List.drop_eq_getElem_cons hk, List.take_append_drop]
  have e2 : bs.take k ++ c :: bs.drop (k + 1) = bs.set k c := by rw [List.set_eq_take_append_cons_drop, if_pos hk]
  rwa [e1, e2] at h

theorem u8_info : (Tryd.prog.info? 5).map (fun i => (i.zero, i.size, i.bytes)) = some (some (.int .u8 0), 1, 1) := by kernel_rfl
set_option maxHeartbeats 1000000 in
theorem law_finds1 (a : Option Addr) (bs : List UInt8) (cap : Nat) (at_ : Int) (c : UInt8) (w : World) (ht : Tab w) (hb : Byt w a bs) (hm : bs.length ≤ 140737488351232) (h0 : 0 < bs.length) (k : Nat) (hk : k < bs.length) (hke : at_.tmod bs.length = k) :
    Calls Tryd.prog 5 #[.slice a bs.length cap, .int .i64 at_, u8v c] w fun e w' => e = .returned (.bool true) ∧ Below w.heap.size w w' := by
  have HT := Lib.hid ht
  have HY := Lib.hid hb
  have h0' : (0 : Int) < (bs.length : Int) := by omega
  have hk0 : (0 : Int) ≤ (k : Int) := by omega
  have hk1 : (k : Int) < (bs.length : Int) := by omega
  obtain ⟨b, o, rfl, hck⟩ := HY.out k hk
  obtain ⟨i0, hi0, hz0, hz1, hz2⟩ := info_parts u8_info
  clear ht hb
  have HC := Lib.hid hck
  clear hck
  go_enter Tryd.func5, Tryd.ntmps5
  go_wp2_with (at_builtin; refine wpList_append_lies _ (by rfl) (.tmp 23) (.tmp 24) _ (by rfl) w.heap.size 5 i0 _ 1 1 Tryd.underlying22 hi0 hz0 hz1 hz2 rfl (by omega) (.slice (some ⟨w.heap.size, 0, none⟩) 0 0) 0 [] (by rfl) (World.ownsRow_made w #[] 0 (Nat.le_refl _) (by decide) rfl) ⟨b, o, none⟩ bs.length cap (bs.map u8v) (by rfl) (by simp) ((HY.out.alloc _).news) (u8v_one bs) h0 (by unfold maxLen; omega) (by omega) (by simp) _ rfl ?_; intro g cap1 w1 hown hgrow hat hlt; clear hat hlt; have HB : Hid (Below w.heap.size w w1) := Lib.hid (((Below.refl _ _).alloc (Nat.le_refl _) _).grown hgrow (by simp) (by intro k hk; simp [Value.ownBlock] at hk; omega)); clear hgrow; have hown' : w1.ownsRow w.heap.size 5 1 (.slice (some ⟨g, 0, none⟩) bs.length cap1) bs.length (bs.map u8v) := (by simpa using hown); clear hown; obtain ⟨hb1, hf1, hg1, hg2⟩ := own_byt hown'; clear hown'; have HB1 := Lib.hid hb1; have HF1 := Lib.hid hf1; have hc1 : w1.cell? ⟨g, k, none⟩ = some (u8v bs[k]) := (by obtain ⟨b', o', e, h⟩ := hb1 k hk; injection e with e; injection e with e1 e2 _; subst e1; subst e2; rwa [Nat.zero_add] at h); have hf := hf1 k hk; clear hb1 hf1)
  obtain ⟨w2, hw2⟩ : ∃ w2, w2 = w1.setCell ⟨g, k, none⟩ (.int .u8 ↑c.toNat) := ⟨_, rfl⟩
  have HB2 : Hid (Below w.heap.size w w2) := Lib.hid (by subst hw2; exact HB.out.setCell hg1 _)
  have HY2 : Hid (Byt w2 (some ⟨b, o, none⟩) bs) := Lib.hid (HY.out.later HB2.out)
  have HG2 : Hid (Byt w2 (some ⟨g, 0, none⟩) (bs.set k c)) := Lib.hid (by subst hw2; exact byt_set HB1.out hk)
  have HT2 : Hid (Tab w2) := Lib.hid (HT.out.later HB2.out)
  have hcell : w2.cell? ⟨b, o + k, none⟩ = some (u8v bs[k]) := by
    obtain ⟨b', o', e, h⟩ := HY2.out k hk
    injection e with e; injection e with e1 e2 _; subst e1; subst e2
    exact h
  rw [← hw2]
  have HS : Hid (((((sum bs : Nat) : Int) == ((sum (bs.set k c) : Nat) : Int)) == (((bs[k].toNat : Nat) : Int) == ((c.toNat : Nat) : Int))) = true) := Lib.hid (by
    have h := set_split bs k c hk
    by_cases e : bs[k] = c
    · rw [show sum bs = sum (bs.set k c) from h.2 e, e]; simp
    · have e1 : ¬ sum bs = sum (bs.set k c) := fun h' => e (h.1 h')
      have e2 : ¬ bs[k].toNat = c.toNat := fun h' => e (UInt8.toNat_inj.1 h')
      have e3 : (((sum bs : Nat) : Int) == ((sum (bs.set k c) : Nat) : Int)) = false := by rw [beq_eq_false_iff_ne]; omega
      have e4 : (((bs[k].toNat : Nat) : Int) == ((c.toNat : Nat) : Int)) = false := by rw [beq_eq_false_iff_ne]; omega
      rw [e3, e4]; rfl)
  have hlen : (bs.set k c).length = bs.length := by simp
  have HL := Lib.hid hlen
  have hml : bs.length ≤ maxLen := by unfold maxLen; omega
  clear hw2 hc1 hf HB1 HF1 hg1 hg2 HC hlen hi0 hz0 hz1 hz2
  have tok1 : True := trivial
  go_region_held3 (fun w' => Below w2.heap.size w2 w' ∧ w'.cell? ⟨b, o + k, none⟩ = some (u8v bs[k])) (((try dsimp only); exact And.intro (by first | assumption | go_grown) (cell_later (by first | assumption | go_grown) hcell))) ((first | (go_at_call 11; refine (lives_any _ (HT2.out.later (‹Below w2.heap.size w2 _ ∧ _›).1)).mono ?_; rintro e w3 ⟨rfl, hb⟩; have hS3 : Below w2.heap.size w2 w3 := (‹Below w2.heap.size w2 _ ∧ _›).1.trans (hb.mono (‹Below w2.heap.size w2 _ ∧ _›).1.size); clear hb; have hz3 := hS3.size) | (go_at_call 12; have _t := tok1; refine (sum_any _ [bs] _ _ (HT2.out.later (by go_grown)) (parts_cell (ca := cap) (by go_simp) (HY2.out.later (by go_grown)) hml) (by simp [maxLen])).mono ?_; rintro e w4 ⟨rfl, rfl⟩; clear tok1) | (go_at_call 12; refine (sum_any _ [bs.set k c] _ _ (HT2.out.later (by go_grown)) (parts_cell (ca := cap1) (by rw [HL.out]; go_simp) (HG2.out.later (by go_grown)) (by rw [HL.out]; exact hml)) (by simp [maxLen])).mono ?_; rintro e w4 ⟨rfl, rfl⟩)))
  all_goals
    go_wp2
    go_ret
    exact ⟨ret_bool HS.out, HB2.out.trans (Below.mono (by go_grown) HB2.out.size)⟩
set_option maxHeartbeats 1000000 in
theorem law_finds2 (a : Option Addr) (bs : List UInt8) (cap : Nat) (at_ : Int) (c : UInt8) (w : World) (ht : Tab w) (hb : Byt w a bs) (hm : bs.length ≤ 140737488351232) (h0 : 0 < bs.length) (k : Nat) (hk : k < bs.length) (hn : at_.tmod bs.length < 0) (hn2 : -(bs.length : Int) < at_.tmod bs.length) (hke : at_.tmod bs.length + bs.length = k) :
    Calls Tryd.prog 5 #[.slice a bs.length cap, .int .i64 at_, u8v c] w fun e w' => e = .returned (.bool true) ∧ Below w.heap.size w w' := by
  have HT := Lib.hid ht
  have HY := Lib.hid hb
  have h0' : (0 : Int) < (bs.length : Int) := by omega
  have hk0 : (0 : Int) ≤ (k : Int) := by omega
  have hk1 : (k : Int) < (bs.length : Int) := by omega
  obtain ⟨b, o, rfl, hck⟩ := HY.out k hk
  obtain ⟨i0, hi0, hz0, hz1, hz2⟩ := info_parts u8_info
  clear ht hb
  have HC := Lib.hid hck
  clear hck
  go_enter Tryd.func5, Tryd.ntmps5
  go_wp2_with (at_builtin; refine wpList_append_lies _ (by rfl) (.tmp 23) (.tmp 24) _ (by rfl) w.heap.size 5 i0 _ 1 1 Tryd.underlying22 hi0 hz0 hz1 hz2 rfl (by omega) (.slice (some ⟨w.heap.size, 0, none⟩) 0 0) 0 [] (by rfl) (World.ownsRow_made w #[] 0 (Nat.le_refl _) (by decide) rfl) ⟨b, o, none⟩ bs.length cap (bs.map u8v) (by rfl) (by simp) ((HY.out.alloc _).news) (u8v_one bs) h0 (by unfold maxLen; omega) (by omega) (by simp) _ rfl ?_; intro g cap1 w1 hown hgrow hat hlt; clear hat hlt; have HB : Hid (Below w.heap.size w w1) := Lib.hid (((Below.refl _ _).alloc (Nat.le_refl _) _).grown hgrow (by simp) (by intro k hk; simp [Value.ownBlock] at hk; omega)); clear hgrow; have hown' : w1.ownsRow w.heap.size 5 1 (.slice (some ⟨g, 0, none⟩) bs.length cap1) bs.length (bs.map u8v) := (by simpa using hown); clear hown; obtain ⟨hb1, hf1, hg1, hg2⟩ := own_byt hown'; clear hown'; have HB1 := Lib.hid hb1; have HF1 := Lib.hid hf1; have hc1 : w1.cell? ⟨g, k, none⟩ = some (u8v bs[k]) := (by obtain ⟨b', o', e, h⟩ := hb1 k hk; injection e with e; injection e with e1 e2 _; subst e1; subst e2; rwa [Nat.zero_add] at h); have hf := hf1 k hk; clear hb1 hf1)
  obtain ⟨w2, hw2⟩ : ∃ w2, w2 = w1.setCell ⟨g, k, none⟩ (.int .u8 ↑c.toNat) := ⟨_, rfl⟩
  have HB2 : Hid (Below w.heap.size w w2) := Lib.hid (by subst hw2; exact HB.out.setCell hg1 _)
  have HY2 : Hid (Byt w2 (some ⟨b, o, none⟩) bs) := Lib.hid (HY.out.later HB2.out)
  have HG2 : Hid (Byt w2 (some ⟨g, 0, none⟩) (bs.set k c)) := Lib.hid (by subst hw2; exact byt_set HB1.out hk)
  have HT2 : Hid (Tab w2) := Lib.hid (HT.out.later HB2.out)
  have hcell : w2.cell? ⟨b, o + k, none⟩ = some (u8v bs[k]) := by
    obtain ⟨b', o', e, h⟩ := HY2.out k hk
    injection e with e; injection e with e1 e2 _; subst e1; subst e2
    exact h
  rw [← hw2]
  have HS : Hid (((((sum bs : Nat) : Int) == ((sum (bs.set k c) : Nat) : Int)) == (((bs[k].toNat : Nat) : Int) == ((c.toNat : Nat) : Int))) = true) := Lib.hid (by
    have h := set_split bs k c hk
    by_cases e : bs[k] = c
    · rw [show sum bs = sum (bs.set k c) from h.2 e, e]; simp
    · have e1 : ¬ sum bs = sum (bs.set k c) := fun h' => e (h.1 h')
      have e2 : ¬ bs[k].toNat = c.toNat := fun h' => e (UInt8.toNat_inj.1 h')
      have e3 : (((sum bs : Nat) : Int) == ((sum (bs.set k c) : Nat) : Int)) = false := by rw [beq_eq_false_iff_ne]; omega
      have e4 : (((bs[k].toNat : Nat) : Int) == ((c.toNat : Nat) : Int)) = false := by rw [beq_eq_false_iff_ne]; omega
      rw [e3, e4]; rfl)
  have hlen : (bs.set k c).length = bs.length := by simp
  have HL := Lib.hid hlen
  have hml : bs.length ≤ maxLen := by unfold maxLen; omega
  clear hw2 hc1 hf HB1 HF1 hg1 hg2 HC hlen hi0 hz0 hz1 hz2
  have tok1 : True := trivial
  go_region_held3 (fun w' => Below w2.heap.size w2 w' ∧ w'.cell? ⟨b, o + k, none⟩ = some (u8v bs[k])) (((try dsimp only); exact And.intro (by first | assumption | go_grown) (cell_later (by first | assumption | go_grown) hcell))) ((first | (go_at_call 11; refine (lives_any _ (HT2.out.later (‹Below w2.heap.size w2 _ ∧ _›).1)).mono ?_; rintro e w3 ⟨rfl, hb⟩; have hS3 : Below w2.heap.size w2 w3 := (‹Below w2.heap.size w2 _ ∧ _›).1.trans (hb.mono (‹Below w2.heap.size w2 _ ∧ _›).1.size); clear hb; have hz3 := hS3.size) | (go_at_call 12; have _t := tok1; refine (sum_any _ [bs] _ _ (HT2.out.later (by go_grown)) (parts_cell (ca := cap) (by go_simp) (HY2.out.later (by go_grown)) hml) (by simp [maxLen])).mono ?_; rintro e w4 ⟨rfl, rfl⟩; clear tok1) | (go_at_call 12; refine (sum_any _ [bs.set k c] _ _ (HT2.out.later (by go_grown)) (parts_cell (ca := cap1) (by rw [HL.out]; go_simp) (HG2.out.later (by go_grown)) (by rw [HL.out]; exact hml)) (by simp [maxLen])).mono ?_; rintro e w4 ⟨rfl, rfl⟩)))
  all_goals
    go_wp2
    go_ret
    exact ⟨ret_bool HS.out, HB2.out.trans (Below.mono (by go_grown) HB2.out.size)⟩
theorem law_finds (a : Option Addr) (bs : List UInt8) (cap : Nat) (at_ : Int) (c : Nat) (w : World) (hc : c < 256) (ht : Tab w) (hb : Byt w a bs) (hm : bs.length ≤ 140737488351232) :
    Calls Tryd.prog 5 #[.slice a bs.length cap, .int .i64 at_, .int .u8 c] w fun e w' => e = .returned (.bool true) ∧ Below w.heap.size w w' := by
  have ec : (c : Int) = ((UInt8.ofNat c).toNat : Int) := by
    have : (UInt8.ofNat c).toNat = c := by simp [Nat.mod_eq_of_lt hc]
    rw [this]
  rw [ec]
  by_cases h0 : 0 < bs.length
  · have hlt := Int.tmod_lt_of_pos at_ (show (0 : Int) < bs.length by omega)
    have hgt : -(bs.length : Int) < at_.tmod bs.length := by
      have h1 := Int.tmod_lt_of_pos (-at_) (show (0 : Int) < bs.length by omega)
      rw [Int.neg_tmod] at h1; omega
    by_cases hn : at_.tmod bs.length < 0
    · exact law_finds2 a bs cap at_ _ w ht hb hm h0 (at_.tmod bs.length + bs.length).toNat (by omega) hn hgt (by omega)
    · exact law_finds1 a bs cap at_ _ w ht hb hm h0 (at_.tmod bs.length).toNat (by omega) (by omega)
  · obtain rfl : bs = [] := List.eq_nil_of_length_eq_zero (by omega)
    exact law_finds0 a cap at_ _ w ht
end Go.Proofs.YtloemgdfmagbnaaDoor
