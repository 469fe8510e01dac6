/- The reference's All; the law FrameReads. -/
import Derived.Test.YtilbmbheancciaaDoorFrR
import Derived.Test.YtilbmbheancciaaDoorFrJ
set_option linter.unusedSimpArgs false
set_option linter.unusedVariables false
namespace Go.Proofs.YtilbmbheancciaaDoor
open Go.ChangeShapes Go.WideShapes Go.ChangeAt Go.RowKit Go.Base Go.Mx Go.Fr

theorem own_apart2 {w : World} {b b' n n' s s' : Nat} {e e' : TypeId} {v v' : Value} {xs xs' : List Value} (h : w.ownsRow b e s v n xs) (h' : w.ownsRow b' e' s' v' n' xs') (hne : e ≠ e') (k : Nat) (hk : v.ownBlock = some k) : ¬ v'.ownBlock = some k := by
  intro hk'
  rcases h.2 with ⟨rfl, _⟩ | ⟨g, cap, cur, hv, _, hg, _⟩
  · cases hk
  rcases h'.2 with ⟨rfl, _⟩ | ⟨g', cap', cur', hv', _, hg', _⟩
  · cases hk'
  rw [hv] at hk; rw [hv'] at hk'
  injection hk with hk; injection hk' with hk'
  subst hk; subst hk'
  rw [hg] at hg'
  injection hg' with hg'
  injection hg' with _ h2
  exact hne h2
theorem own_later {w1 w2 : World} {b n s : Nat} {e : TypeId} {v : Value} {xs : List Value} (h : w1.ownsRow b e s v n xs) (hb : Below w1.heap.size w1 w2) : w2.ownsRow b e s v n xs :=
  own_moved (p := fun k => False) h (Below.movedNew hb) (fun k hk h => h)
/-- Payloads, each in a row of the call's own. -/
def Owns (w : World) (base : Nat) (xs : List Value) (l : List (List UInt8)) : Prop := xs.length = l.length ∧ ∀ (i : Nat) (h : i < l.length), ∃ a cp, xs[i]? = some (.slice a l[i].length cp) ∧ w.ownsRow base 5 1 (.slice a l[i].length cp) l[i].length (l[i].map u8v)
theorem Owns.slics {w : World} {base : Nat} {xs : List Value} {l : List (List UInt8)} (h : Owns w base xs l) : Slics w xs l := ⟨h.1, fun i hi => by
  obtain ⟨a, cp, e, o⟩ := h.2 i hi
  exact ⟨a, cp, e, own_byt_any o, Nat.le_trans (own_cap o).1 (own_cap o).2⟩⟩
theorem Owns.below {w w' : World} {base : Nat} {xs : List Value} {l : List (List UInt8)} (h : Owns w base xs l) (hb : Below w.heap.size w w') : Owns w' base xs l := ⟨h.1, fun i hi => by
  obtain ⟨a, cp, e, o⟩ := h.2 i hi
  exact ⟨a, cp, e, own_later o hb⟩⟩
theorem Owns.grown {w w' : World} {base base2 n s : Nat} {e : TypeId} {v : Value} {ys xs : List Value} {l : List (List UInt8)} (h : Owns w base xs l) (ho : w.ownsRow base2 e s v n ys) (hne : 5 ≠ e) (hg : w.grownBy w' v.ownBlock) : Owns w' base xs l := ⟨h.1, fun i hi => by
  obtain ⟨a, cp, e, o⟩ := h.2 i hi
  exact ⟨a, cp, e, o.kept hg (by
    rcases hq : (Value.slice a l[i].length cp).ownBlock with _ | k
    · exact .inl rfl
    · exact .inr (fun e => own_apart2 o ho hne k hq e.symm))⟩⟩
theorem Owns.add {w : World} {base n cp : Nat} {xs : List Value} {l : List (List UInt8)} {a : Option Addr} {x : List UInt8} (h : Owns w base xs l) (hn : x.length = n) (ho : w.ownsRow base 5 1 (.slice a n cp) n (x.map u8v)) : Owns w base (xs ++ [.slice a n cp]) (l ++ [x]) := by
  subst hn
  refine ⟨by simp [h.1], fun i hi => ?_⟩
  by_cases hi2 : i < l.length
  · obtain ⟨a, cp, e, o⟩ := h.2 i hi2
    refine ⟨a, cp, ?_, ?_⟩
    · rw [List.getElem?_append_left (by rw [h.1]; exact hi2), List.getElem_append_left hi2]; exact e
    · rw [List.getElem_append_left hi2]; exact o
  · have hi3 : i = l.length := by rw [List.length_append] at hi; simp at hi; omega
    subst hi3
    refine ⟨a, cp, ?_, ?_⟩
    · rw [List.getElem?_append_right (by rw [h.1]; omega), h.1]; simp
    · simpa using ho
/-- What a beginning's frame is. -/
def frOf (b : List UInt8) : List UInt8 × Nat × Bool := if firstSz b = 0 then ([], 0, false) else (payB b, firstSz b, true)
def FirstIs (b : List UInt8) (w : World) (e : Ending) (w' : World) : Prop :=
  ∃ A c, e = .returned (.tuple #[.slice A (frOf b).1.length c, .int .i64 ((frOf b).2.1 : Nat), .bool (frOf b).2.2]) ∧ Byt w' A (frOf b).1 ∧ Below w.heap.size w w'
theorem payB_len {b : List UInt8} (h : firstSz b ≠ 0) : (payB b).length = firstSz b - 8 := by
  have hff := first_frame h
  unfold payB; rw [hff.2.2.2.2]; omega
theorem first_is (A : Option Addr) (b : List UInt8) (n c : Nat) (w : World) (hbn : b.length = n) (hT : Tab w) (hb : Byt w A b) (hc : n ≤ c) (hcm : c ≤ maxLen) :
    Calls Tryd.prog 12 #[.slice A n c] w (FirstIs b w) :=
  (first_any A b n c w hbn hT hb hc hcm).mono fun e w' h => by
    unfold FirstIs frOf
    by_cases hz : firstSz b = 0
    · rw [if_pos hz]; exact ⟨none, 0, h.1 hz, Byt.nil _ _, h.2.2⟩
    · obtain ⟨A2, c2, he, hy⟩ := h.2.1 hz
      have hff := first_frame hz
      have hp : (b.take (firstSz b)).drop 8 = payB b := by
        rw [hff.1, List.drop_take, show 8 + getN b - 8 = getN b by omega]; rfl
      rw [if_neg hz]
      exact ⟨A2, c2, by rw [he, payB_len hz], by rw [← hp]; exact hy, h.2.2⟩
theorem refFirst_is (A : Option Addr) (b : List UInt8) (n c : Nat) (w : World) (hbn : b.length = n) (hb : Byt w A b) (hc : n ≤ c) (hcm : c ≤ maxLen) :
    Calls Tryd.prog 13 #[.slice A n c] w (FirstIs b w) :=
  (rf_any A b n c w hbn hb hc hcm).mono fun e w' h => by
    unfold FirstIs frOf
    by_cases hz : firstSz b = 0
    · rw [if_pos hz]; exact ⟨none, 0, h.1 hz, Byt.nil _ _, h.2.2⟩
    · obtain ⟨A2, c2, he, hy⟩ := h.2.1 hz
      rw [if_neg hz]
      exact ⟨A2, c2, by rw [he, payB_len hz], own_byt_any hy, h.2.2⟩
set_option maxHeartbeats 4000000 in
theorem refAll_any (A : Option Addr) (b : List UInt8) (n c : Nat) (w : World) (hbn : b.length = n) (hb : Byt w A b) (hc : n ≤ c) (hcm : c ≤ maxLen) (h6 : n ≤ 6000000) :
    Calls Tryd.prog 15 #[.slice A n c] w (AllPost b w) := by
  have HB := Lib.hid hb
  have HN := Lib.hid hbn
  have HC := Lib.hid hcm
  obtain ⟨i0, hinfo, hz0, hz1, hz2⟩ := info_parts (P := Tryd.prog) (e := 22) (z := .slice none 0 0) (size := 1) (bytes := 24) (by kernel_rfl)
  have HA : Hid (0 < n → ∃ g o, A = some ⟨g, o, none⟩) := Lib.hid (fun h => by obtain ⟨g, o, e, _⟩ := hb 0 (by omega); exact ⟨g, o, e⟩)
  unfold maxLen at hcm
  have hc' : (c : Int) ≤ 9223372036854775807 := by omega
  clear hb hbn
  go_enter Tryd.func15, Tryd.ntmps15
  go_wp2
  go_loopw [4, 5] (fun pv av wr => ∃ (k : Nat) (done : List (List UInt8)) (xs : List Value) (PA : Option Addr) (pc : Nat), k ≤ n ∧ av = .int .i64 (k : Int) ∧ pv = .slice PA done.length pc ∧ Hid (done ++ allB (b.drop k) = allB b) ∧ Hid (k + wholeSz (b.drop k) = wholeSz b) ∧ Hid (Owns wr w.heap.size xs done) ∧ Hid (wr.ownsRow w.heap.size 22 1 (.slice PA done.length pc) done.length xs) ∧ done.length ≤ k ∧ Hid (Below w.heap.size w wr)) (fun _ av _ => n - (intOf av).toNat)
  case atStart => exact ⟨0, [], [], none, 0, Nat.zero_le _, rfl, rfl, Lib.hid (by simp), Lib.hid (by simp), Lib.hid ⟨rfl, fun i hi => by cases hi⟩, Lib.hid (World.ownsRow_nil _ _ _ _), Nat.le_refl _, Lib.hid (Below.refl _ _)⟩
  case round =>
    obtain ⟨k, done, xs, PA, pc, hk, rfl, rfl, HDn, HWh, HOs, HOw, hdk, HBr⟩ := hrel
    have hkz : (0 : Int) ≤ (k : Int) := by omega
    by_cases hlt : k < n
    · have hlt' : (k : Int) < (n : Int) := by omega
      obtain ⟨g, o, rfl⟩ := HA.out (by omega)
      have hkc : ¬ c = k := by omega
      have hkc2 : ¬ k = c := by omega
      have hkn : (k : Int) ≤ (n : Int) := by omega
      have hnc : (n : Int) ≤ (c : Int) := by omega
      obtain ⟨x, hx⟩ : ∃ x, x = b.drop k := ⟨_, rfl⟩
      have HX := Lib.hid hx
      have hxl : x.length = n - k := by rw [hx, List.length_drop, HN.out]
      have HF : Hid (Calls Tryd.prog 13 #[.slice (some ⟨g, o + k, none⟩) (n - k) (c - k)] wr (RefFirstPost x wr)) := Lib.hid (by
        refine rf_any _ x _ _ wr hxl ?_ (by omega) (by have := HC.out; omega)
        rw [hx]; exact (HB.out.later HBr.out).drop k)
      rw [← hx] at HDn HWh
      by_cases hz : firstSz x = 0
      · have HE : Hid (allB x = [] ∧ wholeSz x = 0) := Lib.hid ⟨allB_stop hz, wholeSz_stop hz⟩
        have HZ := Lib.hid hz
        clear hz hx hxl
        go_wp2_with (go_at_call 13; refine Calls.mono (by with_reducible exact HF.out) ?_; rintro e w3 ⟨h1, h2, hb⟩; obtain rfl := h1 HZ.out; have HB3 := Lib.hid (HBr.out.trans (hb.mono HBr.out.size)); have HS3 := Lib.hid (HOs.out.below hb); have HO3 := Lib.hid (own_later HOw.out hb); clear h1 h2 hb)
        go_ret2
        have e1 : done = allB b := by rw [← HDn.out, HE.out.1, List.append_nil]
        have e2 : k = wholeSz b := by rw [← HWh.out, HE.out.2]; rfl
        have HO3 := HO3.out
        have HS3 := HS3.out
        rw [e1] at HO3 HS3
        refine ⟨PA, pc, by rw [← e1, ← e2]; rfl, ?_, HB3.out, ?_⟩
        · exact parts_own (w0 := w) HO3 HS3.slics rfl
        · exact (own_cap HO3).1
      · have h8 := firstSz_ge hz
        have hst := wholeSz_step hz
        have has := allB_step hz
        have hpl := payB_len hz
        have hsx := firstSz_le x
        have HF2 : Hid (Calls Tryd.prog 13 #[.slice (some ⟨g, o + k, none⟩) (n - k) (c - k)] wr fun e w' => (∃ A c, e = .returned (.tuple #[.slice A (firstSz x - 8) c, .int .i64 (firstSz x : Nat), .bool true]) ∧ w'.ownsRow wr.heap.size 5 1 (.slice A (firstSz x - 8) c) (firstSz x - 8) ((payB x).map u8v)) ∧ Below wr.heap.size wr w') := Lib.hid (HF.out.mono fun e w' h => ⟨h.2.1 hz, h.2.2⟩)
        have hsn : firstSz x ≤ n - k := by omega
        have HPl := Lib.hid hpl
        have HDd : Hid ((done ++ [payB x]) ++ allB (x.drop (firstSz x)) = allB b) := Lib.hid (by rw [← HDn.out, has]; simp)
        have HWd : Hid (k + firstSz x + wholeSz (x.drop (firstSz x)) = wholeSz b) := Lib.hid (by rw [← HWh.out, hst]; omega)
        have HDr : Hid (x.drop (firstSz x) = b.drop (k + firstSz x)) := Lib.hid (by rw [hx, List.drop_drop])
        have H6 := Lib.hid h6
        clear hz hst has hpl hsx hx hxl HDn HWh HF
        generalize firstSz x = sz at *
        have hw1 : IntKind.i64.wrap ((k : Int) + (sz : Int)) = (k : Int) + (sz : Int) := by rw [IntKind.wrap_i64]; omega
        go_wp2_with (first
          | (go_at_call 13; refine Calls.mono (by with_reducible exact HF2.out) ?_; rintro e w3 ⟨⟨B3, cB3, rfl, hO3⟩, hb⟩; have HB3 := Lib.hid (HBr.out.trans (hb.mono HBr.out.size)); have HS3 := Lib.hid (HOs.out.below hb); have HO3 := Lib.hid (own_later HOw.out hb); have HP3 := Lib.hid (own_wide hO3 HBr.out.size); clear hb hO3)
          | (at_builtin; refine wpList_append_k _ rfl (.tmp 23) (.tmp 25) 32 rfl 22 i0 (.slice none 0 0) 1 24 Tryd.underlying32 hinfo hz0 hz1 hz2 rfl (by decide) w.heap.size _ done.length xs rfl (HO3.out.alloc _) _ 1 1 [.slice B3 (sz - 8) cB3] rfl rfl (fun _ => ⟨_, rfl, cell_one (heap_new _ _)⟩) slics_one (by have := H6.out; unfold maxLen; omega) (by have := H6.out; omega) (by have := HB3.out.size; simp; omega) ?_; intro A5 c5 w5 hown5 hgrow5 _; have HO5 := Lib.hid hown5; have HS5 := Lib.hid (Owns.grown ((HS3.out.below (below_alloc _ _)).add HPl.out (own_later HP3.out (below_alloc w3 _))) (HO3.out.alloc _) (by decide) hgrow5); have HB5 := Lib.hid ((HB3.out.alloc HB3.out.size _).grown hgrow5 (by have := HB3.out.size; simp; omega) (fun k e => (HO3.out.lt k e).1)); clear hown5 hgrow5))
        go_roundw
        case rel => exact ⟨k + sz, done ++ [payB x], xs ++ [.slice B3 (sz - 8) cB3], A5, c5, by omega, by go_num, by simp, (by rw [← HDr.out]; exact HDd), (by rw [← HDr.out]; exact HWd), HS5, Lib.hid (by rw [List.length_append]; exact HO5.out), by rw [List.length_append]; show done.length + 1 ≤ k + sz; omega, HB5⟩
        case measure => simp [intOf]; omega
    · obtain rfl : k = n := by omega
      have HE : Hid (allB (b.drop k) = [] ∧ wholeSz (b.drop k) = 0) := Lib.hid (by rw [List.drop_of_length_le (by rw [HN.out]; omega)]; exact ⟨allB_nil, wholeSz_nil⟩)
      go_wp2
      go_ret2
      have e1 : done = allB b := by rw [← HDn.out, HE.out.1, List.append_nil]
      have e2 : k = wholeSz b := by rw [← HWh.out, HE.out.2]; rfl
      have HO3 := HOw.out
      have HS3 := HOs.out
      rw [e1] at HO3 HS3
      refine ⟨PA, pc, by rw [← e1, ← e2]; rfl, ?_, HBr.out, ?_⟩
      · exact parts_own (w0 := w) HO3 HS3.slics rfl
      · exact (own_cap HO3).1
theorem allGo_le : ∀ (f : Nat) (b : List UInt8), (allGo f b).length ≤ f
  | 0, _ => Nat.le_refl _
  | f + 1, b => by
    unfold allGo
    split
    · exact Nat.zero_le _
    · simp only [List.length_cons]; have := allGo_le f (b.drop (firstSz b)); omega
theorem allB_le (b : List UInt8) : (allB b).length ≤ b.length := allGo_le _ _
end Go.Proofs.YtilbmbheancciaaDoor
