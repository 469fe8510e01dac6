/- Walk of package frame: All. -/
import Derived.Test.YtilbmbheancciaaDoorFrD
import Derived.Test.YtilbmbheancciaaDoorAppendK
set_option linter.unusedSimpArgs false
set_option linter.unusedVariables false
namespace Go.Proofs.YtilbmbheancciaaDoor
open Go.ChangeShapes Go.WideShapes Go.ChangeAt Go.RowKit Go.Base Go.Mx Go.Fr

/-- The payload of the frame with which bytes begin. -/
def payB (b : List UInt8) : List UInt8 := (b.drop 8).take (getN b)
def allGo : Nat → List UInt8 → List (List UInt8)
  | 0, _ => []
  | f + 1, b => if firstSz b = 0 then [] else payB b :: allGo f (b.drop (firstSz b))
/-- The payloads of the whole part. -/
def allB (b : List UInt8) : List (List UInt8) := allGo b.length b
theorem firstSz_nil : firstSz [] = 0 := by unfold firstSz; rw [if_pos (by simp)]
theorem allGo_fuel : ∀ (f g : Nat) (b : List UInt8), b.length ≤ f → b.length ≤ g → allGo f b = allGo g b
  | 0, 0, _, _, _ => rfl
  | 0, g + 1, b, h, _ => by
    have : b = [] := List.eq_nil_of_length_eq_zero (by omega)
    subst this
    unfold allGo; rw [firstSz_nil, if_pos rfl]
  | f + 1, 0, b, _, h => by
    have : b = [] := List.eq_nil_of_length_eq_zero (by omega)
    subst this
    unfold allGo; rw [firstSz_nil, if_pos rfl]
  | f + 1, g + 1, b, h1, h2 => by
    unfold allGo
    split
    · rfl
    · next hn =>
      have := firstSz_ge hn
      rw [allGo_fuel f g (b.drop (firstSz b)) (by rw [List.length_drop]; omega) (by rw [List.length_drop]; omega)]
theorem allB_step {b : List UInt8} (h : firstSz b ≠ 0) : allB b = payB b :: allB (b.drop (firstSz b)) := by
  have h8 := firstSz_ge h
  have hl := firstSz_le b
  unfold allB
  cases hb : b.length with
  | zero => omega
  | succ n =>
    rw [show allGo (n + 1) b = if firstSz b = 0 then [] else payB b :: allGo n (b.drop (firstSz b)) from rfl, if_neg h]
    rw [allGo_fuel n _ (b.drop (firstSz b)) (by rw [List.length_drop]; omega) (Nat.le_refl _)]
theorem allB_stop {b : List UInt8} (h : firstSz b = 0) : allB b = [] := by
  unfold allB
  cases b.length with
  | zero => rfl
  | succ n => rw [show allGo (n + 1) b = if firstSz b = 0 then [] else payB b :: allGo n (b.drop (firstSz b)) from rfl, if_pos h]
/-- Slices of bytes, in one row. -/
def Slics (w : World) (xs : List Value) (l : List (List UInt8)) : Prop := xs.length = l.length ∧ ∀ (i : Nat) (h : i < l.length), ∃ a cp, xs[i]? = some (.slice a l[i].length cp) ∧ Byt w a l[i] ∧ l[i].length ≤ maxLen
theorem Slics.nil (w : World) : Slics w [] [] := ⟨rfl, fun i h => by cases h⟩
theorem Slics.later {w w' : World} {xs : List Value} {l : List (List UInt8)} (h : Slics w xs l) (hb : Below w.heap.size w w') : Slics w' xs l := ⟨h.1, fun i hi => by
  obtain ⟨a, cp, e, b, m⟩ := h.2 i hi
  exact ⟨a, cp, e, b.later hb, m⟩⟩
theorem Slics.add {w : World} {xs : List Value} {l : List (List UInt8)} {a : Option Addr} {x : List UInt8} {n cp : Nat} (h : Slics w xs l) (hn : x.length = n) (hb : Byt w a x) (hm : n ≤ maxLen) : Slics w (xs ++ [.slice a n cp]) (l ++ [x]) := by
  refine ⟨by simp [h.1], fun i hi => ?_⟩
  by_cases hi2 : i < l.length
  · obtain ⟨a', cp', e, b, m⟩ := h.2 i hi2
    refine ⟨a', cp', ?_, ?_, ?_⟩
    · rw [List.getElem?_append_left (by rw [h.1]; exact hi2), List.getElem_append_left hi2]; exact e
    · rw [List.getElem_append_left hi2]; exact b
    · rw [List.getElem_append_left hi2]; exact m
  · have : i = l.length := by simp at hi; omega
    subst this
    refine ⟨a, cp, ?_, ?_, ?_⟩
    · rw [List.getElem?_append_right (by rw [h.1]; exact Nat.le_refl _), h.1]; simp [hn]
    · simpa using hb
    · simpa [hn] using hm
theorem parts_own {w w0 : World} {base n cap : Nat} {e : TypeId} {A : Option Addr} {xs : List Value} {l : List (List UInt8)} (h : w.ownsRow base e 1 (.slice A n cap) n xs) (hs : Slics w xs l) (hn : l.length = n) : Parts w A l := fun i hi => by
  obtain ⟨a, cp, e1, b, m⟩ := hs.2 i hi
  obtain ⟨g, e2, hc⟩ := own_cell h rfl i (by omega)
  exact ⟨g, 0, a, cp, e2, by rw [Nat.zero_add, hc, e1], b, m⟩
theorem slics_one {a : Option Addr} {n cp : Nat} : ∀ u ∈ ([.slice a n cp] : List Value), u.oneCell' = true := fun u hu => by
  rw [List.mem_singleton.1 hu]; rfl
theorem cell_one {w : World} {g : Nat} {t : TypeId} {v : Value} (h : w.heap[g]? = some (.cells #[v] t (0, 0))) : ∀ j u, ([v] : List Value)[j]? = some u → w.cell? ((⟨g, 0, none⟩ : Addr).add j) = some u := fun j u hu => by
  match j, hu with
  | 0, hu =>
    have : (⟨g, 0, none⟩ : Addr).add 0 = ⟨g, 0, none⟩ := by simp [Addr.add]
    rw [this, (cells_of_heap h).1]; simpa using hu
def AllPost (b : List UInt8) (w : World) (e : Ending) (w' : World) : Prop :=
  ∃ A c, e = .returned (.tuple #[.slice A (allB b).length c, .int .i64 (wholeSz b : Nat)]) ∧ Parts w' A (allB b) ∧ Below w.heap.size w w' ∧ (allB b).length ≤ c
theorem whole_first {x : List UInt8} (h : wholeSz x ≠ 0) : firstSz x ≠ 0 := fun e => h (wholeSz_stop e)
theorem getN_pre {x : List UInt8} {n : Nat} (h : 4 ≤ n) : getN (x.take n) = getN x := by
  rw [← getN_take4, List.take_take, Nat.min_eq_left h, getN_take4]
def slLen : Value → Nat
  | .slice _ n _ => n
  | _ => 0
theorem whole_zero {x : List UInt8} (h : wholeSz x = 0) : allB x = [] := by
  refine allB_stop ?_
  rcases Nat.eq_zero_or_pos (firstSz x) with h0 | h0
  · exact h0
  · have := wholeSz_step (b := x) (by omega); omega
set_option maxHeartbeats 4000000 in
theorem all_any (A : Option Addr) (b : List UInt8) (n c : Nat) (w : World) (hbn : b.length = n) (hT : Tab w) (hb : Byt w A b) (hc : n ≤ c) (hcm : c ≤ maxLen) (hA : (A = none ∧ c = 0) ∨ ∃ g o, A = some ⟨g, o, none⟩) (h6 : n ≤ 6000000) :
    Calls Tryd.prog 14 #[.slice A n c] w (AllPost b w) := by
  have HWs := Lib.hid (wholeSize_any A b n c w hbn hT hb hc hcm hA)
  have HB := Lib.hid hb
  have HN := Lib.hid hbn
  have hle := wholeSz_le b
  rw [hbn] at hle
  have HLen : Hid ((b.take (wholeSz b)).length = wholeSz b) := Lib.hid (by rw [List.length_take, HN.out]; omega)
  have HCl : Hid (∀ V, Below w.heap.size w V → Calls Tryd.prog 24 #[.slice A (wholeSz b) c] V (ClonePost V (b.take (wholeSz b)))) := Lib.hid (fun V hv => by
    have := clone_any A (b.take (wholeSz b)) c V ((HB.out.later hv).take _) (by rw [HLen.out]; omega)
    rw [HLen.out] at this; exact this)
  obtain ⟨i0, hinfo, hz0, hz1, hz2⟩ := info_parts (P := Tryd.prog) (e := 22) (z := .slice none 0 0) (size := 1) (bytes := 24) (by kernel_rfl)
  have HStart : Hid (wholeSz b = (b.take (wholeSz b)).length ∧ allB b = [] ++ allB b) := Lib.hid ⟨HLen.out.symm, rfl⟩
  unfold maxLen at hcm
  have hwc : (wholeSz b : Int) ≤ (c : Int) := by omega
  have hw0 : (0 : Int) ≤ (wholeSz b : Int) := by omega
  have hc' : (c : Int) ≤ 9223372036854775807 := by omega
  have HWL := Lib.hid hle
  clear hb hbn hT hle
  go_enter Tryd.func14, Tryd.ntmps14
  go_wp2_with (first
    | (go_at_call 25; refine Calls.mono (by with_reducible exact HWs.out) ?_; rintro e w1 ⟨rfl, hb⟩; have HB1 := Lib.hid hb; clear hb)
    | (go_at_call 24; refine Calls.mono (by with_reducible exact HCl.out _ HB1.out) ?_; rintro e w2 ⟨A2, c2, rfl, hy, hb, _, hc2, hcm2⟩; rw [HLen.out] at hc2 ⊢; have HB2 := Lib.hid (HB1.out.trans (hb.mono HB1.out.size)); have HY := Lib.hid hy; have HC2 := Lib.hid (And.intro hc2 hcm2); clear hy hb hc2 hcm2))
  generalize hws : wholeSz b = ws at *
  have HWS := Lib.hid hws
  clear hws
  go_loopw [5, 6] (fun pv lv wr => ∃ (x : List UInt8) (done : List (List UInt8)) (xs : List Value) (L : Option Addr) (rl cl : Nat) (PA : Option Addr) (pc : Nat), lv = .slice L rl cl ∧ pv = .slice PA done.length pc ∧ Hid (rl = wholeSz x) ∧ Hid (Byt w2 L (x.take rl)) ∧ rl ≤ cl ∧ Hid (cl ≤ maxLen) ∧ Hid (done ++ allB x = allB b) ∧ Hid (Slics w2 xs done) ∧ Hid (wr.ownsRow w2.heap.size 22 1 (.slice PA done.length pc) done.length xs) ∧ done.length + rl ≤ 6000000 ∧ Hid (Below w2.heap.size w2 wr)) (fun _ lv _ => slLen lv)
  case atStart => exact ⟨b, [], [], A2, ws, c2, none, 0, rfl, rfl, Lib.hid HWS.out.symm, HY, HC2.out.1, Lib.hid HC2.out.2, Lib.hid rfl, Lib.hid (Slics.nil _), Lib.hid (World.ownsRow_nil _ _ _ _), by have := HWL.out; simp; omega, Lib.hid (Below.refl _ _)⟩
  case round =>
    obtain ⟨x, done, xs, L, rl, cl, PA, pc, rfl, rfl, HRl, HLy, hrc, HCL, HDn, HSl, HOw, hsm, HBr⟩ := hrel
    have hclm := HCL.out
    unfold maxLen at hclm
    have hcl' : (cl : Int) ≤ 9223372036854775807 := by omega
    by_cases hr0 : rl = 0
    · subst hr0
      have HE := Lib.hid (whole_zero HRl.out.symm)
      have HDe : Hid (done = allB b) := Lib.hid (by rw [← HDn.out, HE.out, List.append_nil])
      go_wp2
      go_ret2
      refine ⟨PA, pc, ?_, ?_, HB2.out.trans (HBr.out.mono HB2.out.size), ?_⟩
      · rw [← HDe.out, HWS.out]; rfl
      · rw [← HDe.out]; exact parts_own (w0 := w2) HOw.out (HSl.out.later HBr.out) rfl
      · rw [← HDe.out]; exact (own_cap HOw.out).1
    · have hrp : (0 : Int) < (rl : Int) := by omega
      have hrn : 0 < rl := by omega
      have hfx := whole_first (x := x) (by rw [← HRl.out]; exact hr0)
      have hst := wholeSz_step hfx
      have has := allB_step hfx
      have h8 := firstSz_ge hfx
      have hff := first_frame hfx
      have hxl := wholeSz_le x
      rw [← HRl.out] at hst hxl
      have hlen : (x.take rl).length = rl := by rw [List.length_take]; omega
      obtain ⟨g, o, rfl, hq0⟩ := HLy.out 0 (by omega)
      clear hq0
      have hsr : firstSz x ≤ rl := by omega
      have hscl : firstSz x ≤ cl := by omega
      have hsr' : (firstSz x : Int) ≤ (cl : Int) := by omega
      have hsr2 : (firstSz x : Int) ≤ (rl : Int) := by omega
      have hs0 : (0 : Int) ≤ (firstSz x : Int) := by omega
      have HSd : Hid (Calls Tryd.prog 26 #[.slice (some ⟨g, o, none⟩) rl cl] wr fun e w' => e = .returned (.int .i64 (firstSz x : Nat)) ∧ Below wr.heap.size wr w') := Lib.hid (by
        have := saidSize_any (some ⟨g, o, none⟩) (x.take rl) cl wr (HLy.out.later HBr.out) (by omega) (by rw [hlen]; unfold maxLen; omega)
        rw [getN_pre (by omega), ← hff.1, hlen] at this
        exact this)
      have HPay : Hid ((((x.take rl).take (firstSz x)).drop 8) = payB x) := Lib.hid (by
        rw [List.take_take, Nat.min_eq_left hsr, hff.1, List.drop_take, show 8 + getN x - 8 = getN x by omega]; rfl)
      have HPl : Hid (((x.take rl).take (firstSz x)).length = firstSz x) := Lib.hid (by rw [List.length_take, hlen]; omega)
      have HPn : Hid ((payB x).length = firstSz x - 8) := Lib.hid (by rw [hff.1]; unfold payB; rw [hff.2.2.2.2]; omega)
      have HDr : Hid ((x.take rl).drop (firstSz x) = (x.drop (firstSz x)).take (rl - firstSz x)) := Lib.hid (by rw [List.drop_take])
      have HWn : Hid (rl - firstSz x = wholeSz (x.drop (firstSz x))) := Lib.hid (by omega)
      have HAn : Hid ((done ++ [payB x]) ++ allB (x.drop (firstSz x)) = allB b) := Lib.hid (by rw [← HDn.out, has]; simp)
      have h60 : firstSz x - 8 ≤ 6000000 := by omega
      clear hfx hst has hff hxl hlen HRl HDn
      generalize firstSz x = sz at *
      by_cases hcs : cl = sz
      · subst hcs
        obtain rfl : rl = cl := by omega
        go_wp2_with (first
          | (go_at_call 26; refine Calls.mono (by with_reducible exact HSd.out) ?_; rintro e w3 ⟨rfl, hb⟩; have HB3 := Lib.hid (HBr.out.trans (hb.mono HBr.out.size)); have HO3 := Lib.hid (own_moved (p := fun k => False) HOw.out (Below.movedNew hb |>.weaken (fun k hk h => absurd h (by omega))) (fun k hk h => h)); clear hb)
          | (go_at_call 23; refine Calls.mono (by with_reducible exact payloadOf_any g o rl rl _ h8 hscl HCL.out) ?_; rintro e w4 ⟨⟨B4, rfl, hB4⟩, rfl⟩; have HB4 := Lib.hid hB4; clear hB4)
          | (at_builtin; refine wpList_append_k _ rfl (.tmp 19) (.tmp 24) 32 rfl 22 i0 (.slice none 0 0) 1 24 Tryd.underlying32 hinfo hz0 hz1 hz2 rfl (by decide) w2.heap.size _ done.length xs rfl (HO3.out.alloc _) _ 1 1 [.slice B4 (rl - 8) (rl - 8)] rfl rfl (fun _ => ⟨_, rfl, cell_one (heap_new _ _)⟩) slics_one (by unfold maxLen; omega) (by omega) (by have := HB3.out.size; simp; omega) ?_; intro A5 c5 w5 hown5 hgrow5 _; have HO5 := Lib.hid hown5; have HB5 := Lib.hid ((HB3.out.alloc HB3.out.size _).grown hgrow5 (by have := HB3.out.size; simp; omega) (fun k e => (HO3.out.lt k e).1)); clear hown5 hgrow5))
        refine ⟨⟨x.drop rl, done ++ [payB x], xs ++ [.slice B4 (rl - 8) (rl - 8)], _, _, _, A5, c5, rfl, by simp, Lib.hid (by rw [← HWn.out]; simp), Lib.hid (by rw [List.take_zero]; exact Byt.nil _ _), Nat.le_refl _, Lib.hid (Nat.zero_le _), HAn, Lib.hid (HSl.out.add HPn.out (by have := byt_pay (HLy.out.take rl) HPl.out HB4.out; rw [HPay.out] at this; exact this) (by unfold maxLen; omega)), Lib.hid (by rw [List.length_append]; exact HO5.out), by rw [List.length_append]; show done.length + 1 + 0 ≤ _; omega, HB5⟩, by show 0 < rl; omega⟩
      · have hcn : ¬ sz = cl := fun h => hcs h.symm
        go_wp2_with (first
          | (go_at_call 26; refine Calls.mono (by with_reducible exact HSd.out) ?_; rintro e w3 ⟨rfl, hb⟩; have HB3 := Lib.hid (HBr.out.trans (hb.mono HBr.out.size)); have HO3 := Lib.hid (own_moved (p := fun k => False) HOw.out (Below.movedNew hb |>.weaken (fun k hk h => absurd h (by omega))) (fun k hk h => h)); clear hb)
          | (go_at_call 23; refine Calls.mono (by with_reducible exact payloadOf_any g o sz cl _ h8 hscl HCL.out) ?_; rintro e w4 ⟨⟨B4, rfl, hB4⟩, rfl⟩; have HB4 := Lib.hid hB4; clear hB4)
          | (at_builtin; refine wpList_append_k _ rfl (.tmp 19) (.tmp 24) 32 rfl 22 i0 (.slice none 0 0) 1 24 Tryd.underlying32 hinfo hz0 hz1 hz2 rfl (by decide) w2.heap.size _ done.length xs rfl (HO3.out.alloc _) _ 1 1 [.slice B4 (sz - 8) (sz - 8)] rfl rfl (fun _ => ⟨_, rfl, cell_one (heap_new _ _)⟩) slics_one (by unfold maxLen; omega) (by omega) (by have := HB3.out.size; simp; omega) ?_; intro A5 c5 w5 hown5 hgrow5 _; have HO5 := Lib.hid hown5; have HB5 := Lib.hid ((HB3.out.alloc HB3.out.size _).grown hgrow5 (by have := HB3.out.size; simp; omega) (fun k e => (HO3.out.lt k e).1)); clear hown5 hgrow5))
        refine ⟨⟨x.drop sz, done ++ [payB x], xs ++ [.slice B4 (sz - 8) (sz - 8)], _, _, _, A5, c5, rfl, by simp, HWn, Lib.hid (by have := HLy.out.drop sz; rw [HDr.out] at this; exact this), by omega, Lib.hid (by unfold maxLen; omega), HAn, Lib.hid (HSl.out.add HPn.out (by have := byt_pay (HLy.out.take sz) HPl.out HB4.out; rw [HPay.out] at this; exact this) (by unfold maxLen; omega)), Lib.hid (by rw [List.length_append]; exact HO5.out), by rw [List.length_append]; show done.length + 1 + (rl - sz) ≤ _; omega, HB5⟩, by show rl - sz < rl; omega⟩
end Go.Proofs.YtilbmbheancciaaDoor
