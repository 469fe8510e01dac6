/- The law LabelGets. (gen_labgets.py wrote it.) -/
import Derived.Test.YtpkjllliidpgoaaGreatDoorLabU
import Derived.Test.YtpkjllliidpgoaaGreatDoorLabV
set_option linter.unusedSimpArgs false
set_option linter.unusedVariables false
namespace Go.Proofs.YtpkjllliidpgoaaGreatDoor
open Go.ChangeShapes Go.WideShapes Go.ChangeAt Go.RowKit Go.Base Go.Lab

theorem sortB_code {l : List Lb} {q : Int} (h : sortB l = .error q) : (q != 0) = true := by
  unfold sortB at h
  split at h
  · injection h with h; subst h; rfl
  · split at h
    · injection h with h; subst h; rfl
    · split at h
      · injection h with h; subst h; rfl
      · cases h
theorem two_cls {w : World} {g g1 : Nat} {xk xv : Bytes} (h : w.heap[g]? = some (.cells #[.int .i64 1, strV xk, .slice (some ⟨g1, 0, none⟩) 1 1, .int .i64 3, strV xk, .slice none 0 0] 42 (0, 0))) (h1 : w.heap[g1]? = some (.cells #[strV xv] 9 (0, 0))) (hk : xk.length ≤ maxLen) (hv : xv.length ≤ maxLen) :
    Cls w (some ⟨g, 0, none⟩) [⟨1, xk, some ⟨g1, 0, none⟩, [xv], 1⟩, ⟨3, xk, none, [], 0⟩] := fun i hi => by
  have hc := (cells_of_heap h).1
  have hc1 := (cells_of_heap h1).1
  have hs : Strs w (some ⟨g1, 0, none⟩) [xv] := fun j hj => by
    obtain rfl : j = 0 := by simp at hj; omega
    exact ⟨g1, 0, rfl, by rw [hc1]; rfl, hv⟩
  have hi2 : i < 2 := hi
  rcases (by omega : i = 0 ∨ i = 1) with rfl | rfl
  · exact ⟨g, 0, rfl, by rw [hc]; rfl, by rw [hc]; rfl, by rw [hc]; rfl, ⟨hk, hs, by show 1 ≤ maxLen; unfold maxLen; decide, Nat.le_refl _⟩⟩
  · exact ⟨g, 0, rfl, by rw [hc]; rfl, by rw [hc]; rfl, by rw [hc]; rfl, ⟨hk, (fun j hj => by cases hj), by show 0 ≤ maxLen; unfold maxLen; decide, Nat.le_refl _⟩⟩
set_option maxHeartbeats 4000000 in
set_option maxRecDepth 20000 in
theorem law_gets (A : Option Addr) (l : List Lb) (c : Nat) (w : World) (hV : VarI w) (hL : Labs w A l) (hm : l.length ≤ 4398046511104) :
    Calls Tryz.prog 7 #[.slice A l.length c] w fun e w' => e = .returned (.bool true) ∧ Below w.heap.size w w' := by
  have HL := Lib.hid hL
  have HS := Lib.hid (labelSort_any A l c w hL hm)
  have HLi := Lib.hid (fun V (h : Below w.heap.size w V) => lives_any V (hV.later h))
  have hm' : (l.length : Int) ≤ 4398046511104 := by omega
  clear hV hL
  cases hs : sortB l with
  | error q =>
    have hq := sortB_code hs
    have HE := Lib.hid hs
    clear hs
    go_enter Tryz.func7, Tryz.ntmps7
    go_wp2_with (first
      | (go_at_call 8; refine Calls.mono (by with_reducible exact HS.out) ?_; rintro e W1 ⟨h, _, hb⟩; obtain rfl := h _ HE.out; have HB1 := Lib.hid hb; clear hb h HS)
      | (go_at_call 12; refine Calls.mono (by with_reducible exact HLi.out _ HB1.out) ?_; rintro e W2 ⟨rfl, hb⟩; have HB2 := Lib.hid (HB1.out.trans (hb.mono HB1.out.size)); clear hb)
      | (go_at_call 12; refine Calls.mono (by with_reducible exact HLi.out _ HB2.out) ?_; rintro e W3 ⟨rfl, hb⟩; have HB3 := Lib.hid (HB2.out.trans (hb.mono HB2.out.size)); clear hb))
    go_ret
    exact ⟨rfl, HB3.out⟩
  | ok o =>
    have HE := Lib.hid hs
    have hol : o.length = l.length := (sortB_ok hs).2.2.1.length_eq
    have HOL := Lib.hid hol
    have HGet := Lib.hid (fun (x : Lb) (hx : x ∈ l) => getB_sorted hs hx)
    have HMG := Lib.hid (fun (x : Lb) (hx : x ∈ l) => mGets hs hx)
    have HMy := Lib.hid (mayB_sorted hs)
    clear hs hol
    go_enter Tryz.func7, Tryz.ntmps7
    go_wp2_with (first
      | (go_at_call 8; refine Calls.mono (by with_reducible exact HS.out) ?_; rintro e W1 ⟨_, h, hb⟩; obtain ⟨g, cap, rfl, hlo, hg⟩ := h _ HE.out; rw [HOL.out]; have HB1 := Lib.hid hb; have HLo := Lib.hid hlo; clear hb h hlo hg HS)
      | (go_at_call 12; refine Calls.mono (by with_reducible exact HLi.out _ HB1.out) ?_; rintro e W2 ⟨rfl, hb⟩; have HB2 := Lib.hid (HB1.out.trans (hb.mono HB1.out.size)); have HLo2 := Lib.hid (HLo.out.later hb); have HBx := Lib.hid hb; clear hb))
    have HGetA : Hid (∀ V (x : Lb), x ∈ l → Below W2.heap.size W2 V → Calls Tryz.prog 10 #[.slice (some ⟨g, 0, none⟩) l.length cap, strV x.key] V fun e w' => e = .returned (.tuple #[strV x.val, .bool true]) ∧ Below V.heap.size V w') := Lib.hid (fun V x hx hb => by
      have := get_any (some ⟨g, 0, none⟩) o cap x.key V (HLo2.out.later hb) (by rw [HOL.out]; unfold maxLen; omega)
      unfold getV at this
      rw [HGet.out x hx, HOL.out] at this
      exact this)
    have HMA : Hid (∀ V (x : Lb) P cp gs, x ∈ l → Below W2.heap.size W2 V → Cls V P [⟨1, x.key, gs, [x.val], 1⟩, ⟨3, x.key, none, [], 0⟩] → Calls Tryz.prog 22 #[.slice P 2 cp, .slice (some ⟨g, 0, none⟩) l.length cap] V fun e w' => e = .returned (.bool true) ∧ Below V.heap.size V w') := Lib.hid (fun V x P cp gs hx hb hc => by
      have := matches_any P (some ⟨g, 0, none⟩) _ o cp cap V hc (HLo2.out.later hb) (by show 2 ≤ maxLen; unfold maxLen; decide) (by rw [HOL.out]; unfold maxLen; omega)
      rw [HOL.out] at this
      have hh := HMG.out x hx
      have e : mAll o [⟨1, x.key, gs, [x.val], 1⟩, ⟨3, x.key, none, [], 0⟩] = true := by
        unfold mAll mClause
        rw [List.all_cons, List.all_cons, List.all_nil]
        simp only [hh.1, hh.2]; rfl
      rw [e] at this
      exact this)
    have HMyA : Hid (∀ V, Below W2.heap.size W2 V → Calls Tryz.prog 14 #[.slice (some ⟨g, 0, none⟩) l.length cap] V fun e w' => e = .returned (.bool true) ∧ Below V.heap.size V w') := Lib.hid (fun V hb => by
      have := labelMay_any (some ⟨g, 0, none⟩) o cap V (HLo2.out.later hb) (by rw [HOL.out]; omega)
      rw [HMy.out, HOL.out] at this
      exact this)
    clear HGet HMG HMy HLo HLo2 HLi HBx
    go_loopw [5] (fun i wr => ∃ k : Nat, k ≤ l.length ∧ i = .int .i64 (k : Int) ∧ Hid (Below W2.heap.size W2 wr)) (fun i _ => l.length - (intOf i).toNat)
    case atStart => exact ⟨0, Nat.zero_le _, rfl, Lib.hid (Below.refl _ _)⟩
    case round =>
      obtain ⟨k, hk, rfl, HB⟩ := hrel
      by_cases hlt : k < l.length
      · have hlt' : (k : Int) < (l.length : Int) := by omega
        have hk0 : (0 : Int) ≤ (k : Int) := by omega
        obtain ⟨b, o', rfl, c0, c1, hx1, hx2⟩ := (HL.out.later (HB2.out.trans (HB.out.mono HB2.out.size))) k hlt
        have HX1 := Lib.hid hx1
        have HX2 := Lib.hid hx2
        have hxm : l[k] ∈ l := List.getElem_mem _
        clear hx1 hx2
        generalize l[k] = x at *
        have HGk := Lib.hid (fun V h => HGetA.out V x hxm h)
        have HMk := Lib.hid (fun V P cp gs h hc => HMA.out V x P cp gs hxm h hc)
        clear hxm
        obtain ⟨xk, xv⟩ := x
        simp only at c0 c1 HX1 HX2 HGk HMk
        go_wp2_with (go_at_call 10; refine Calls.mono (by with_reducible exact HGk.out _ HB.out) ?_; rintro e W1 ⟨rfl, hb⟩; have HB1 := Lib.hid (HB.out.trans (hb.mono HB.out.size)); have e0 := cell_later hb c0; have e1 := cell_later hb c1; clear hb c0 c1)
        have HMt := Lib.hid (fun V P gs h hc => HMk.out V P 2 gs h hc)
        have HD : Hid (∀ V, Below W1.heap.size W1 V → (fun w' => w'.cell? ⟨b, o' + k * 2, none⟩ = some (strV xk) ∧ w'.cell? ⟨b, o' + k * 2 + 1, none⟩ = some (strV xv) ∧ Below W1.heap.size W1 w') V) := Lib.hid (fun V h => ⟨cell_later h e0, cell_later h e1, h⟩)
        refine wp_region_held_drew (S := (fun w' => w'.cell? ⟨b, o' + k * 2, none⟩ = some (strV xk) ∧ w'.cell? ⟨b, o' + k * 2 + 1, none⟩ = some (strV xv) ∧ Below W1.heap.size W1 w')) (by kernel_rfl) (HD.out _ (Below.refl _ _).drew) (fun hHeld => ?_)
        clear e0 e1
        refine wpAnyH_take (i := 0) (v := ?vv1) rfl (by kernel_rfl) (by kernel_rfl) (by kernel_rfl) (fun _ _ _ h => h) (Or.inl ⟨by rfl, ?hy1⟩) hHeld ?rr1
        case hy1 => (intro w' hSw; obtain ⟨g0, g1, g2⟩ := hSw; go_simp; try with_reducible rfl)
        try simp only [Act.put, List.setIfInBounds_toArray, List.set_cons_zero, List.set_cons_succ, List.getElem_toArray, List.getElem_cons_succ, List.getElem_cons_zero]
        refine wpAnyH_take (i := 1) (v := ?vv2) rfl (by kernel_rfl) (by kernel_rfl) (by kernel_rfl) (fun _ _ _ h => h) (Or.inl ⟨by rfl, ?hy2⟩) hHeld ?rr2
        case hy2 => (intro w' hSw; obtain ⟨g0, g1, g2⟩ := hSw; go_simp; try with_reducible rfl)
        try simp only [Act.put, List.setIfInBounds_toArray, List.set_cons_zero, List.set_cons_succ, List.getElem_toArray, List.getElem_cons_succ, List.getElem_cons_zero]
        refine wpAnyH_take (i := 2) (v := ?vv3) rfl (by kernel_rfl) (by kernel_rfl) (by kernel_rfl) (fun _ _ _ h => h) (Or.inl ⟨by rfl, ?hy3⟩) hHeld ?rr3
        case hy3 => (intro w' hSw; obtain ⟨g0, g1, g2⟩ := hSw; go_simp; try with_reducible rfl)
        try simp only [Act.put, List.setIfInBounds_toArray, List.set_cons_zero, List.set_cons_succ, List.getElem_toArray, List.getElem_cons_succ, List.getElem_cons_zero]
        refine wpAnyH_take (i := 3) (v := ?vv4) rfl (by kernel_rfl) (by kernel_rfl) (by kernel_rfl) (fun _ _ _ h => h) (Or.inl ⟨by rfl, ?hy4⟩) hHeld ?rr4
        case hy4 => (intro w' hSw; obtain ⟨g0, g1, g2⟩ := hSw; go_simp; try with_reducible rfl)
        try simp only [Act.put, List.setIfInBounds_toArray, List.set_cons_zero, List.set_cons_succ, List.getElem_toArray, List.getElem_cons_succ, List.getElem_cons_zero]
        refine wpAnyH_take (i := 4) (v := ?vv5) rfl (by kernel_rfl) (by kernel_rfl) (by kernel_rfl) (fun _ _ _ h => h) (Or.inl ⟨by rfl, ?hy5⟩) hHeld ?rr5
        case hy5 => (intro w' hSw; obtain ⟨g0, g1, g2⟩ := hSw; go_simp; try with_reducible rfl)
        try simp only [Act.put, List.setIfInBounds_toArray, List.set_cons_zero, List.set_cons_succ, List.getElem_toArray, List.getElem_cons_succ, List.getElem_cons_zero]
        refine wpAnyH_take (i := 5) (v := ?vv6) rfl (by kernel_rfl) (by kernel_rfl) (by kernel_rfl) (fun _ _ _ h => h) (Or.inl ⟨by rfl, ?hy6⟩) hHeld ?rr6
        case hy6 => (intro w' hSw; obtain ⟨g0, g1, g2⟩ := hSw; go_simp; try with_reducible rfl)
        try simp only [Act.put, List.setIfInBounds_toArray, List.set_cons_zero, List.set_cons_succ, List.getElem_toArray, List.getElem_cons_succ, List.getElem_cons_zero]
        refine wpAnyH_take (i := 6) (v := ?vv7) rfl (by kernel_rfl) (by kernel_rfl) (by kernel_rfl) (fun _ _ _ h => h) (Or.inl ⟨by rfl, ?hy7⟩) hHeld ?rr7
        case hy7 => (intro w' hSw; obtain ⟨g0, g1, g2⟩ := hSw; go_simp; try with_reducible rfl)
        try simp only [Act.put, List.setIfInBounds_toArray, List.set_cons_zero, List.set_cons_succ, List.getElem_toArray, List.getElem_cons_succ, List.getElem_cons_zero]
        refine wpAnyH_take (i := 7) (v := ?vv8) rfl (by kernel_rfl) (by kernel_rfl) (by kernel_rfl) (fun _ _ _ h => h) (Or.inl ⟨by rfl, ?hy8⟩) hHeld ?rr8
        case hy8 => (intro w' hSw; obtain ⟨g0, g1, g2⟩ := hSw; go_simp; try with_reducible rfl)
        try simp only [Act.put, List.setIfInBounds_toArray, List.set_cons_zero, List.set_cons_succ, List.getElem_toArray, List.getElem_cons_succ, List.getElem_cons_zero]
        refine wpAnyH_take (i := 8) (v := ?vv9) rfl (by kernel_rfl) (by kernel_rfl) (by kernel_rfl) (fun _ _ _ h => h) (Or.inl ⟨by rfl, ?hy9⟩) hHeld ?rr9
        case hy9 => (intro w' hSw; obtain ⟨g0, g1, g2⟩ := hSw; go_simp; try with_reducible rfl)
        try simp only [Act.put, List.setIfInBounds_toArray, List.set_cons_zero, List.set_cons_succ, List.getElem_toArray, List.getElem_cons_succ, List.getElem_cons_zero]
        refine wpAnyH_take (i := 9) (v := ?vv10) rfl (by kernel_rfl) (by kernel_rfl) (by kernel_rfl) (fun _ _ _ h => h) (Or.inl ⟨by rfl, ?hy10⟩) hHeld ?rr10
        case hy10 => (intro w' hSw; obtain ⟨g0, g1, g2⟩ := hSw; go_simp; try with_reducible rfl)
        try simp only [Act.put, List.setIfInBounds_toArray, List.set_cons_zero, List.set_cons_succ, List.getElem_toArray, List.getElem_cons_succ, List.getElem_cons_zero]
        refine wpAnyH_take (i := 10) (v := ?vv11) rfl (by kernel_rfl) (by kernel_rfl) (by kernel_rfl) (fun _ _ _ h => h) (Or.inl ⟨by rfl, ?hy11⟩) hHeld ?rr11
        case hy11 => (intro w' hSw; obtain ⟨g0, g1, g2⟩ := hSw; go_simp; try with_reducible rfl)
        try simp only [Act.put, List.setIfInBounds_toArray, List.set_cons_zero, List.set_cons_succ, List.getElem_toArray, List.getElem_cons_succ, List.getElem_cons_zero]
        refine wpAnyH_take (i := 11) (v := ?vv12) rfl (by kernel_rfl) (by kernel_rfl) (by kernel_rfl) (fun _ _ _ h => h) (Or.inl ⟨by rfl, ?hy12⟩) hHeld ?rr12
        case hy12 => (intro w' hSw; obtain ⟨g0, g1, g2⟩ := hSw; go_simp; try with_reducible rfl)
        try simp only [Act.put, List.setIfInBounds_toArray, List.set_cons_zero, List.set_cons_succ, List.getElem_toArray, List.getElem_cons_succ, List.getElem_cons_zero]
        refine wpAnyH_take (i := 12) (v := ?vv13) rfl (by kernel_rfl) (by kernel_rfl) (by kernel_rfl) (fun _ _ _ h => h) (Or.inl ⟨by rfl, ?hy13⟩) hHeld ?rr13
        case hy13 => (intro w' hSw; obtain ⟨g0, g1, g2⟩ := hSw; go_simp; try with_reducible rfl)
        try simp only [Act.put, List.setIfInBounds_toArray, List.set_cons_zero, List.set_cons_succ, List.getElem_toArray, List.getElem_cons_succ, List.getElem_cons_zero]
        refine wpAnyH_take (i := 13) (v := ?vv14) rfl (by kernel_rfl) (by kernel_rfl) (by kernel_rfl) (fun _ _ _ h => h) (Or.inl ⟨by rfl, ?hy14⟩) hHeld ?rr14
        case hy14 => (intro w' hSw; obtain ⟨g0, g1, g2⟩ := hSw; go_simp; try with_reducible rfl)
        try simp only [Act.put, List.setIfInBounds_toArray, List.set_cons_zero, List.set_cons_succ, List.getElem_toArray, List.getElem_cons_succ, List.getElem_cons_zero]
        refine wpAnyH_take (i := 14) (v := ?vv15) rfl (by kernel_rfl) (by kernel_rfl) (by kernel_rfl) (fun _ _ _ h => h) (Or.inl ⟨by rfl, ?hy15⟩) hHeld ?rr15
        case hy15 => (intro w' hSw; obtain ⟨g0, g1, g2⟩ := hSw; go_simp; try with_reducible rfl)
        try simp only [Act.put, List.setIfInBounds_toArray, List.set_cons_zero, List.set_cons_succ, List.getElem_toArray, List.getElem_cons_succ, List.getElem_cons_zero]
        refine wpAnyH_take (i := 15) (v := ?vv16) rfl (by kernel_rfl) (by kernel_rfl) (by kernel_rfl) (fun _ _ _ h => h) (Or.inl ⟨by rfl, ?hy16⟩) hHeld ?rr16
        case hy16 => (intro w' hSw; obtain ⟨g0, g1, g2⟩ := hSw; go_simp; try with_reducible rfl)
        try simp only [Act.put, List.setIfInBounds_toArray, List.set_cons_zero, List.set_cons_succ, List.getElem_toArray, List.getElem_cons_succ, List.getElem_cons_zero]
        refine wpAnyH_take (i := 16) (v := ?vv17) rfl (by kernel_rfl) (by kernel_rfl) (by kernel_rfl) (fun _ _ _ h => h) (Or.inl ⟨by rfl, ?hy17⟩) hHeld ?rr17
        case hy17 => (intro w' hSw; obtain ⟨g0, g1, g2⟩ := hSw; go_simp; try with_reducible rfl)
        try simp only [Act.put, List.setIfInBounds_toArray, List.set_cons_zero, List.set_cons_succ, List.getElem_toArray, List.getElem_cons_succ, List.getElem_cons_zero]
        refine wpAnyH_take (i := 17) (v := ?vv18) rfl (by kernel_rfl) (by kernel_rfl) (by kernel_rfl) (fun _ _ _ h => h) (Or.inl ⟨by rfl, ?hy18⟩) hHeld ?rr18
        case hy18 => (intro w' hSw; obtain ⟨g0, g1, g2⟩ := hSw; go_simp; try with_reducible rfl)
        try simp only [Act.put, List.setIfInBounds_toArray, List.set_cons_zero, List.set_cons_succ, List.getElem_toArray, List.getElem_cons_succ, List.getElem_cons_zero]
        refine wpAnyH_take (i := 20) (v := ?vv19) rfl (by kernel_rfl) (by kernel_rfl) (by kernel_rfl) (fun _ _ _ h => h) (Or.inl ⟨by rfl, ?hy19⟩) hHeld ?rr19
        case hy19 => (intro w' hSw; obtain ⟨g0, g1, g2⟩ := hSw; go_simp; try with_reducible rfl)
        try simp only [Act.put, List.setIfInBounds_toArray, List.set_cons_zero, List.set_cons_succ, List.getElem_toArray, List.getElem_cons_succ, List.getElem_cons_zero]
        refine wpAnyH_take (i := 21) (v := ?vv20) rfl (by kernel_rfl) (by kernel_rfl) (by kernel_rfl) (fun _ _ _ h => h) (Or.inl ⟨by rfl, ?hy20⟩) hHeld ?rr20
        case hy20 => (intro w' hSw; obtain ⟨g0, g1, g2⟩ := hSw; go_simp; try with_reducible rfl)
        try simp only [Act.put, List.setIfInBounds_toArray, List.set_cons_zero, List.set_cons_succ, List.getElem_toArray, List.getElem_cons_succ, List.getElem_cons_zero]
        refine wpAnyH_take (i := 22) (v := ?vv21) rfl (by kernel_rfl) (by kernel_rfl) (by kernel_rfl) (fun _ _ _ h => h) (Or.inl ⟨by rfl, ?hy21⟩) hHeld ?rr21
        case hy21 => (intro w' hSw; obtain ⟨g0, g1, g2⟩ := hSw; go_simp; try with_reducible rfl)
        try simp only [Act.put, List.setIfInBounds_toArray, List.set_cons_zero, List.set_cons_succ, List.getElem_toArray, List.getElem_cons_succ, List.getElem_cons_zero]
        refine wpAnyH_take (i := 23) (v := ?vv22) rfl (by kernel_rfl) (by kernel_rfl) (by kernel_rfl) (fun _ _ _ h => h) (Or.inl ⟨by rfl, ?hy22⟩) hHeld ?rr22
        case hy22 => (intro w' hSw; obtain ⟨g0, g1, g2⟩ := hSw; go_simp; try with_reducible rfl)
        try simp only [Act.put, List.setIfInBounds_toArray, List.set_cons_zero, List.set_cons_succ, List.getElem_toArray, List.getElem_cons_succ, List.getElem_cons_zero]
        refine wpAnyH_take (i := 24) (v := ?vv23) rfl (by kernel_rfl) (by kernel_rfl) (by kernel_rfl) (fun _ _ _ h => h) (Or.inl ⟨by rfl, ?hy23⟩) hHeld ?rr23
        case hy23 => (intro w' hSw; obtain ⟨g0, g1, g2⟩ := hSw; go_simp; try with_reducible rfl)
        try simp only [Act.put, List.setIfInBounds_toArray, List.set_cons_zero, List.set_cons_succ, List.getElem_toArray, List.getElem_cons_succ, List.getElem_cons_zero]
        refine wpAnyH_take (i := 25) (v := ?vv24) rfl (by kernel_rfl) (by kernel_rfl) (by kernel_rfl) (fun _ _ _ h => h) (Or.inl ⟨by rfl, ?hy24⟩) hHeld ?rr24
        case hy24 => (intro w' hSw; obtain ⟨g0, g1, g2⟩ := hSw; go_simp; try with_reducible rfl)
        try simp only [Act.put, List.setIfInBounds_toArray, List.set_cons_zero, List.set_cons_succ, List.getElem_toArray, List.getElem_cons_succ, List.getElem_cons_zero]
        refine wpAnyH_take (i := 27) (v := ?vv25) rfl (by kernel_rfl) (by kernel_rfl) (by kernel_rfl) (fun _ _ _ h => h) (Or.inl ⟨by rfl, ?hy25⟩) hHeld ?rr25
        case hy25 => (intro w' hSw; obtain ⟨g0, g1, g2⟩ := hSw; go_simp; try with_reducible rfl)
        try simp only [Act.put, List.setIfInBounds_toArray, List.set_cons_zero, List.set_cons_succ, List.getElem_toArray, List.getElem_cons_succ, List.getElem_cons_zero]
        refine wpAnyH_ready (rs := [18]) (by kernel_rfl) (by simp) ?_
        refine AllReadyH.cons rfl (fun K hK => ?_) AllReadyH.nil
        rw [if_pos (by rfl)]
        go_simp
        have hB1 : Below W1.heap.size W1 (W1.alloc (.cells #[strV xv] 9)).drew := (below_alloc _ _).drew
        have hH1 : (W1.alloc (.cells #[strV xv] 9)).drew.heap[W1.heap.size]? = _ := heap_new W1 (.cells #[strV xv] 9)
        generalize (W1.alloc (.cells #[strV xv] 9)).drew = W2 at *
        refine hK.out _ _ (HD.out _ hB1) (fun hHeld2 => ?_)
        clear hK K hHeld
        have hHeld := hHeld2
        clear hHeld2
        try simp only [Act.put, List.setIfInBounds_toArray, List.set_cons_zero, List.set_cons_succ, List.getElem_toArray, List.getElem_cons_succ, List.getElem_cons_zero]
        refine wpAnyH_take (i := 19) (v := ?vv26) rfl (by kernel_rfl) (by kernel_rfl) (by kernel_rfl) (fun _ _ _ h => h) (Or.inl ⟨by rfl, ?hy26⟩) hHeld ?rr26
        case hy26 => (intro w' hSw; obtain ⟨g0, g1, g2⟩ := hSw; go_simp; try with_reducible rfl)
        try simp only [Act.put, List.setIfInBounds_toArray, List.set_cons_zero, List.set_cons_succ, List.getElem_toArray, List.getElem_cons_succ, List.getElem_cons_zero]
        refine wpAnyH_ready (rs := [26]) (by kernel_rfl) (by simp) ?_
        refine AllReadyH.cons rfl (fun K hK => ?_) AllReadyH.nil
        rw [if_pos (by rfl)]
        go_simp
        have hB2 : Below W1.heap.size W1 (W2.alloc (.cells #[.int .i64 1, strV xk, .slice (some ⟨W1.heap.size, 0, none⟩) 1 1, .int .i64 3, strV xk, .slice none 0 0] 42)) := hB1.alloc hB1.size _
        have hH2 := heap_new W2 (.cells #[.int .i64 1, strV xk, .slice (some ⟨W1.heap.size, 0, none⟩) 1 1, .int .i64 3, strV xk, .slice none 0 0] 42)
        have hH3 := heap_old (.cells #[.int .i64 1, strV xk, .slice (some ⟨W1.heap.size, 0, none⟩) 1 1, .int .i64 3, strV xk, .slice none 0 0] 42) (heap_lt hH1) hH1
        generalize W2.alloc (.cells #[.int .i64 1, strV xk, .slice (some ⟨W1.heap.size, 0, none⟩) 1 1, .int .i64 3, strV xk, .slice none 0 0] 42) = W3 at *
        generalize W2.heap.size = g2 at *
        refine hK.out _ _ (HD.out _ hB2) (fun hHeld2 => ?_)
        clear hK K hHeld
        have hHeld := hHeld2
        clear hHeld2
        try simp only [Act.put, List.setIfInBounds_toArray, List.set_cons_zero, List.set_cons_succ, List.getElem_toArray, List.getElem_cons_succ, List.getElem_cons_zero]
        refine wpAnyH_ready (rs := [28]) (by kernel_rfl) (by simp) ?_
        refine AllReadyH.cons rfl (fun K hK => ?_) AllReadyH.nil
        rw [if_pos (by rfl)]
        go_simp
        go_at_call 22
        refine Calls.mono (by with_reducible exact HMt.out _ _ _ (HB1.out.trans (hB2.mono HB1.out.size)) (two_cls hH2 hH3 HX1.out HX2.out)) ?_
        rintro e W4 ⟨rfl, hb⟩
        have hB3 := hB2.trans (hb.mono hB2.size)
        clear hb hB1 hB2 hH1 hH2 hH3
        go_wp2_with fail
        refine hK.out _ _ (HD.out _ hB3) (fun hHeld2 => ?_)
        clear hK K hHeld
        have hHeld := hHeld2
        clear hHeld2
        try simp only [Act.put, List.setIfInBounds_toArray, List.set_cons_zero, List.set_cons_succ, List.getElem_toArray, List.getElem_cons_succ, List.getElem_cons_zero]
        refine wpAnyH_take (i := 29) (v := ?vv27) rfl (by kernel_rfl) (by kernel_rfl) (by kernel_rfl) (fun _ _ _ h => h) (Or.inl ⟨by rfl, ?hy27⟩) hHeld ?rr27
        case hy27 => (intro w' hSw; obtain ⟨g0, g1, g2⟩ := hSw; go_simp; try with_reducible rfl)
        try simp only [Act.put, List.setIfInBounds_toArray, List.set_cons_zero, List.set_cons_succ, List.getElem_toArray, List.getElem_cons_succ, List.getElem_cons_zero]
        refine wpAnyH_take (i := 30) (v := ?vv28) rfl (by kernel_rfl) (by kernel_rfl) (by kernel_rfl) (fun _ _ _ h => h) (Or.inl ⟨by rfl, ?hy28⟩) hHeld ?rr28
        case hy28 => (intro w' hSw; obtain ⟨g0, g1, g2⟩ := hSw; go_simp; try with_reducible rfl)
        try simp only [Act.put, List.setIfInBounds_toArray, List.set_cons_zero, List.set_cons_succ, List.getElem_toArray, List.getElem_cons_succ, List.getElem_cons_zero]
        refine wpAnyH_done (by kernel_rfl) ?_ _
        clear hHeld
        have HB4 := Lib.hid (HB1.out.trans (hB3.mono HB1.out.size))
        clear hB3 HD HMt
        go_wp2
        go_roundw
        case rel => exact ⟨k + 1, by omega, by go_num, HB4⟩
        case measure => simp [intOf]; omega
      · obtain rfl : k = l.length := by omega
        go_wp2_with (go_at_call 14; refine Calls.mono (by with_reducible exact HMyA.out _ HB.out) ?_; rintro e W3 ⟨rfl, hb⟩; have HB3 := Lib.hid (HB2.out.trans ((HB.out.trans (hb.mono HB.out.size)).mono HB2.out.size)); clear hb)
        go_ret
        exact ⟨rfl, HB3.out⟩
end Go.Proofs.YtpkjllliidpgoaaGreatDoor
