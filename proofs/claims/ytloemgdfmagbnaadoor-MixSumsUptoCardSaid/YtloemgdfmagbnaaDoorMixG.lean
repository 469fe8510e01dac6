/- Walk of the law of package mix on sums. -/
import Derived.Test.YtloemgdfmagbnaaDoorMixF
import Derived.Lib.BufferRead
set_option linter.unusedSimpArgs false
set_option linter.unusedVariables false
namespace Go.Proofs.YtloemgdfmagbnaaDoor
open Go.ChangeShapes Go.WideShapes Go.ChangeAt Go.RowKit Go.Base Go.Mx

theorem run_convert_byt {P : Program} {src dst e : TypeId} (hs : P.underlying src = some (.slice e)) (he : P.underlying e = some (.int .u8)) (hd : P.underlying dst = some .string) {w : World} {A : Option Addr} {ys : List UInt8} (c : Nat) (h : Byt w A ys) :
    (convert src dst (.slice A ys.length c)).run P w = .ok (.string ⟨ys.toArray⟩) w := by
  rcases A with _ | ad
  · have : ys = [] := by
      cases ys with
      | nil => rfl
      | cons y ys => obtain ⟨_, _, h, _⟩ := h 0 (by simp); cases h
    subst this
    exact Lib.run_convert_nil_bytes w src dst e c hs he hd
  · refine run_convert_bytes_back w src dst e ad c ys hs he hd (fun j hj => ?_)
    obtain ⟨b, o, e, hc⟩ := h j hj
    injection e with e; subst e
    rw [add_off]; exact hc
theorem wpList_convert_byt {P : Program} {w : World} {ops : Array Oper} {rest : List Oper} {o : Oper} {a : Act} {Q : Exit → Act → World → Prop} (hgd : Region.wanted o (yielded ops a.tmps) = true) (x : Operand) (src dst e : TypeId) (ho : o.op = .convert src dst x)
    (hs : P.underlying src = some (.slice e)) (he : P.underlying e = some (.int .u8)) (hd : P.underlying dst = some .string) (A : Option Addr) (ys : List UInt8) (c : Nat) (hx : a.eval x = .slice A ys.length c) (hy : Byt w A ys)
    (h : wpList P ops Q rest (a.put o.dst (.string ⟨ys.toArray⟩)) w) : wpList P ops Q (o :: rest) a w :=
  wpList_step fun K hK => by
    rw [if_pos hgd]
    unfold Oper.wp execOp
    simp only [ho, Sem.run_bind, Sem.run_pure, Result.andThen_ok, hx, run_convert_byt hs he hd c hy]
    exact hK _ _ h

theorem parts_cell2 {w : World} {g ca cb : Nat} {a b : Option Addr} {x y : List UInt8} (hc : w.cell? ⟨g, 0, none⟩ = some (.slice a x.length ca)) (hd : w.cell? ⟨g, 1, none⟩ = some (.slice b y.length cb)) (ha : Byt w a x) (hb : Byt w b y) (hx : x.length ≤ maxLen) (hy : y.length ≤ maxLen) : Parts w (some ⟨g, 0, none⟩) [x, y] := fun i hi => by
  match i, hi with
  | 0, _ => exact ⟨g, 0, a, ca, rfl, by rw [Nat.zero_add]; exact hc, ha, hx⟩
  | 1, _ => exact ⟨g, 0, b, cb, rfl, by rw [Nat.zero_add]; exact hd, hb, hy⟩

theorem refSum_len (A : Option Addr) (l : List UInt8) (n c : Nat) (w : World) (hn : n = l.length) (hb : Byt w A l) (hm : l.length ≤ maxLen) :
    Calls Tryd.prog 10 #[.slice A n c] w fun e w' => e = .returned (.int .u32 (sum l : Nat)) ∧ w = w' := by
  subst hn; exact refSum_any A l c w hb hm

set_option maxHeartbeats 1000000 in
theorem law_sums (A B : Option Addr) (xs ys : List UInt8) (ca cb : Nat) (w : World) (ht : Tab w) (ha : Byt w A xs) (hb : Byt w B ys) (hm : xs.length + ys.length ≤ 140737488351232) :
    Calls Tryd.prog 3 #[.slice A xs.length ca, .slice B ys.length cb] w fun e w' => e = .returned (.bool true) ∧ Below w.heap.size w w' := by
  have HT := Lib.hid ht
  have HA := Lib.hid ha
  have HB := Lib.hid hb
  have ha0 : xs.length ≤ maxLen := by unfold maxLen; omega
  have hb0 : ys.length ≤ maxLen := by unfold maxLen; omega
  have hab : (xs ++ ys).length ≤ maxLen := by rw [List.length_append]; unfold maxLen; omega
  have HAB := Lib.hid hab
  have HU : Hid (upd (sum xs) ys = sum (xs ++ ys)) := Lib.hid (by unfold sum; rw [upd_append _ _ _ (by omega)])
  have hlt := upd_lt 0 xs
  have HL : Hid (sum xs < 4294967296) := Lib.hid hlt
  obtain ⟨i0, hi0, hz0, hz1, hz2⟩ := info_parts u8_info
  have tok1 : True := trivial
  have tak1 : True := trivial
  have tak2 : True := trivial
  have tak3 : True := trivial
  have tok2 : True := trivial
  have tok3 : True := trivial
  have tok4 : True := trivial
  clear ht ha hb hab hlt
  go_enter Tryd.func3, Tryd.ntmps3
  go_wp2_with (first | (at_builtin; have _t := tak1; refine wpList_append_byt _ (by rfl) (.tmp 8) (.tmp 9) 22 (by rfl) 5 i0 Tryd.underlying22 hi0 hz0 hz1 hz2 w.heap.size (.slice (some ⟨w.heap.size, 0, none⟩) 0 0) [] (by rfl) (World.ownsRow_made w #[] 0 (Nat.le_refl _) (by decide) rfl) A ca xs (by rfl) (HA.out.alloc _) (by simp only [List.length_nil]; omega) (by simp) ?_; intro A1 c1 w1 hown hgrow hat; clear tak1 _t; simp only [List.nil_append] at hown ⊢; have HO1 := Lib.hid (own_byt_any hown); have HB1 : Hid (Below w.heap.size w w1) := Lib.hid (((Below.refl _ _).alloc (Nat.le_refl _) _).grown hgrow (by simp) (by intro k hk; simp [Value.ownBlock] at hk; omega)); clear hown hgrow hat) | (at_builtin; have _t := tak2; refine wpList_append_byt _ (by rfl) (.tmp 11) (.tmp 12) 22 (by rfl) 5 i0 Tryd.underlying22 hi0 hz0 hz1 hz2 w1.heap.size (.slice (some ⟨w1.heap.size, 0, none⟩) 0 0) [] (by rfl) (World.ownsRow_made w1 #[] 0 (Nat.le_refl _) (by decide) rfl) A ca xs (by rfl) ((HA.out.later HB1.out).alloc _) (by simp only [List.length_nil]; omega) (by simp) ?_; intro A2 c2 w2 hown hgrow hat; clear tak2 _t; simp only [List.nil_append] at hown ⊢; have HO2 := Lib.hid hown; have HB2 : Hid (Below w1.heap.size w1 w2) := Lib.hid (((Below.refl _ _).alloc (Nat.le_refl _) _).grown hgrow (by simp) (by intro k hk; simp [Value.ownBlock] at hk; omega)); clear hown hgrow hat) | (at_builtin; have _t := tak3; refine wpList_append_byt _ (by rfl) (.tmp 13) (.tmp 14) 22 (by rfl) 5 i0 Tryd.underlying22 hi0 hz0 hz1 hz2 w1.heap.size (.slice A2 xs.length c2) xs (by rfl) HO2.out B cb ys (by rfl) ((HB.out.later HB1.out).later HB2.out) (by omega) HB2.out.size ?_; intro A3 c3 w3 hown hgrow hat; clear tak3 _t; have HO3 := Lib.hid (own_byt_any hown); have HB3 : Hid (Below w1.heap.size w1 w3) := Lib.hid (HB2.out.grown hgrow HB2.out.size (fun k hk => (own_base HO2.out k hk).1)); clear hown hgrow hat HO2 HB2) | (go_at_call 10; refine (refSum_len A3 (xs ++ ys) _ c3 _ (by simp) HO3.out HAB.out).mono ?_; rintro e w' ⟨rfl, rfl⟩) | (go_at_call 11; refine (lives_any _ (HT.out.later (HB1.out.trans (HB3.out.mono HB1.out.size)))).mono ?_; rintro e w4 ⟨rfl, hb4⟩; have HW4 : Hid (Below w.heap.size w w4) := Lib.hid ((HB1.out.trans (HB3.out.mono HB1.out.size)).trans (hb4.mono (Nat.le_trans HB1.out.size HB3.out.size))); have HT4 : Hid (Tab w4) := Lib.hid (HT.out.later HW4.out); have H1 : Hid (Byt w4 A1 xs) := Lib.hid ((HO1.out.later HB3.out).later hb4); have H2 : Hid (Byt w4 B ys) := Lib.hid (HB.out.later HW4.out); have H3 : Hid (Byt w4 A3 (xs ++ ys)) := Lib.hid (HO3.out.later hb4); have H4 : Hid (Byt w4 A xs) := Lib.hid (HA.out.later HW4.out); clear hb4 HO1 HO3 HB1 HB3 HT) | (go_at_call 12; have _t := tok1; refine (sum_any _ [xs, ys] _ _ (HT4.out.later (by go_grown)) (parts_cell2 (ca := c1) (cb := cb) (by go_simp) (by go_simp) (H1.out.later (by go_grown)) (H2.out.later (by go_grown)) ha0 hb0) (by simp [maxLen])).mono ?_; rintro e w5 ⟨rfl, rfl⟩; clear tok1 _t) | (go_at_call 12; have _t := tok2; refine (sum_any _ [xs ++ ys] _ _ (HT4.out.later (by go_grown)) (parts_cell (ca := c3) (by go_simp) (H3.out.later (by go_grown)) HAB.out) (by simp [maxLen])).mono ?_; rintro e w5 ⟨rfl, rfl⟩; clear tok2 _t) | (go_at_call 12; have _t := tok3; refine (sum_any _ [xs] _ _ (HT4.out.later (by go_grown)) (parts_cell (ca := c1) (by go_simp) (H1.out.later (by go_grown)) ha0) (by simp [maxLen])).mono ?_; rintro e w5 ⟨rfl, rfl⟩; simp only [List.flatten_cons, List.flatten_nil, List.append_nil]; clear tok3 _t) | (go_at_call 13; refine (update_any _ B ys cb _ HL.out (HT4.out.later (by go_grown)) (H2.out.later (by go_grown)) hb0).mono ?_; rintro e w5 ⟨rfl, rfl⟩; rw [HU.out]) | (refine wpList_convert_byt (by rfl) (.tmp 44) 22 9 5 (by rfl) Tryd.underlying22 Tryd.underlying5 Tryd.underlying9 A1 xs c1 (by rfl) (H1.out.later (by go_grown)) ?_) | (refine wpList_convert_byt (by rfl) (.tmp 46) 22 9 5 (by rfl) Tryd.underlying22 Tryd.underlying5 Tryd.underlying9 A xs ca (by rfl) (H4.out.later (by go_grown)) ?_))
  go_ret
  exact ⟨rfl, HW4.out.trans (Below.mono (B := w4.heap.size) (by go_grown) HW4.out.size)⟩
end Go.Proofs.YtloemgdfmagbnaaDoor
