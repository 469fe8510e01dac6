/- Walks of package frame: the size of the frame with which bytes begin. -/
import Derived.Test.YtilbmbheancciaaDoorFrA
import Derived.Test.YtilbmbheancciaaDoorMoved
import Derived.Deep.RegionHeld
import Derived.Deep.RegionHeldLaw
set_option linter.unusedSimpArgs false
set_option linter.unusedVariables false
namespace Go.Fr
theorem take_add_app {x y : List UInt8} {n k : Nat} (hx : x.length = n) : (x ++ y).take (n + k) = x ++ y.take k := by
  subst hx
  rw [List.take_append, List.take_of_length_le (by omega), Nat.add_sub_cancel_left]
theorem getN_take4 (b : List UInt8) : getN (b.take 4) = getN b := by
  unfold getN
  simp only [List.getD, List.getElem?_take]
  rfl
/-- The sum of a frame. -/
def sumF (p : List UInt8) : Nat := Mx.sum (num4 p.length ++ p)
/-- The frame of a payload. -/
def frameB (p : List UInt8) : List UInt8 := num4 p.length ++ num4 (sumF p) ++ p
/-- How many bytes the frame has with which bytes begin; 0: with none. -/
def firstSz (b : List UInt8) : Nat :=
  if b.length < 8 then 0 else if 65536 < getN b ∨ b.length < 8 + getN b then 0
  else if getN (b.drop 4) = Mx.sum (b.take 4 ++ (b.drop 8).take (getN b)) then 8 + getN b else 0
theorem frameB_len (p : List UInt8) : (frameB p).length = p.length + 8 := by unfold frameB; simp [num4_len]; omega
theorem sumF_lt (p : List UInt8) : sumF p < 4294967296 := Mx.upd_lt _ _
theorem firstSz_le (b : List UInt8) : firstSz b ≤ b.length := by
  unfold firstSz; split
  · omega
  · split
    · omega
    · split <;> omega
theorem firstSz_frame (p r : List UInt8) (h : p.length ≤ 65536) : firstSz (frameB p ++ r) = p.length + 8 := by
  have e1 : getN (frameB p ++ r) = p.length := by unfold frameB; rw [List.append_assoc, List.append_assoc]; exact getN_num4 _ (by omega) _
  have e2 : (frameB p ++ r).drop 4 = num4 (sumF p) ++ (p ++ r) := by unfold frameB; rw [List.append_assoc, List.append_assoc, List.drop_left' (num4_len _)]
  have e3 : (frameB p ++ r).drop 8 = p ++ r := by
    have : (frameB p ++ r).drop 8 = ((frameB p ++ r).drop 4).drop 4 := by rw [List.drop_drop]
    rw [this, e2, List.drop_left' (num4_len _)]
  have e4 : (frameB p ++ r).take 4 = num4 p.length := by unfold frameB; rw [List.append_assoc, List.append_assoc, List.take_left' (num4_len _)]
  have hl := frameB_len p
  unfold firstSz
  rw [if_neg (by rw [List.length_append]; omega), e1, if_neg (by rw [List.length_append]; omega), e2, getN_num4 _ (sumF_lt p), e3, e4, List.take_left]
  have e5 : sumF p = Mx.sum (num4 p.length ++ p) := rfl
  rw [← e5, if_pos rfl]
  omega
/-- Where bytes begin with a frame, they begin with the frame of its payload. -/
theorem first_frame {b : List UInt8} (h : firstSz b ≠ 0) : firstSz b = 8 + getN b ∧ getN b ≤ 65536 ∧ 8 + getN b ≤ b.length ∧ b.take (8 + getN b) = frameB ((b.drop 8).take (getN b)) ∧ ((b.drop 8).take (getN b)).length = getN b := by
  unfold firstSz at h ⊢
  split at h
  · exact absurd rfl h
  · next h8 =>
    split at h
    · exact absurd rfl h
    · next hn =>
      split at h
      · next hs =>
        have hpl : ((b.drop 8).take (getN b)).length = getN b := by rw [List.length_take, List.length_drop]; omega
        have h4 : num4 (getN b) = b.take 4 := getN_take b (by omega)
        rw [if_neg h8, if_neg hn, if_pos hs]
        refine ⟨rfl, by omega, by omega, ?_, hpl⟩
        unfold frameB
        have hsum : sumF ((b.drop 8).take (getN b)) = getN (b.drop 4) := by unfold sumF; rw [hpl, h4, hs]
        rw [hpl, h4, hsum, getN_take (b.drop 4) (by rw [List.length_drop]; omega)]
        have e1 : b = b.take 4 ++ ((b.drop 4).take 4 ++ b.drop 8) := by
          have : b.drop 8 = (b.drop 4).drop 4 := by rw [List.drop_drop]
          rw [this, List.take_append_drop, List.take_append_drop]
        have l1 : (b.take 4).length = 4 := by rw [List.length_take]; omega
        have l2 : ((b.drop 4).take 4).length = 4 := by rw [List.length_take, List.length_drop]; omega
        have hg : ∀ k, b.take (8 + k) = b.take 4 ++ (b.drop 4).take 4 ++ (b.drop 8).take k := fun k => by
          have : b.take (8 + k) = (b.take 4 ++ ((b.drop 4).take 4 ++ b.drop 8)).take (4 + (4 + k)) := by rw [← e1]; congr 1; omega
          rw [this, take_add_app l1, take_add_app l2, List.append_assoc]
        exact hg _
      · exact absurd rfl h
end Go.Fr
namespace Go.Proofs.YtilbmbheancciaaDoor
open Go.ChangeShapes Go.WideShapes Go.ChangeAt Go.RowKit Go.Base Go.Mx Go.Fr

set_option maxHeartbeats 1000000 in
theorem saidSize_any (A : Option Addr) (b : List UInt8) (c : Nat) (w : World) (hb : Byt w A b) (h4 : 4 ≤ b.length) (hm : b.length ≤ maxLen) :
    Calls Tryd.prog 26 #[.slice A b.length c] w fun e w' => e = .returned (.int .i64 (8 + getN b : Nat)) ∧ Below w.heap.size w w' := by
  have HC := Lib.hid (getNumber_any A b c w hb h4 hm)
  have hn := getN_lt b
  generalize getN b = n at *
  clear hb
  go_enter Tryd.func26, Tryd.ntmps26
  go_wp2_with (go_at_call 30; refine Calls.mono (by with_reducible exact HC.out) ?_; rintro e w1 ⟨rfl, hb⟩; have HB := Lib.hid hb; clear hb)
  go_ret
  exact ⟨ret_int (by omega), HB.out⟩
/-- Two parts in one row. -/
theorem two_parts {w : World} {g : Nat} {A B : Option Addr} {x y : List UInt8} {n m ca cb : Nat} (h : w.heap[g]? = some (.cells #[.slice A n ca, .slice B m cb] 22 (0, 0))) (hn : n = x.length) (hm : m = y.length) (ha : Byt w A x) (hb : Byt w B y) (hx : x.length ≤ maxLen) (hy : y.length ≤ maxLen) : Parts w (some ⟨g, 0, none⟩) [x, y] := by
  have hc := (cells_of_heap h).1
  subst hn; subst hm
  exact parts_cell2 (by rw [hc]; rfl) (by rw [hc]; rfl) ha hb hx hy
theorem Tab.later {w w' : World} (h : Tab w) (hb : Below w.heap.size w w') : Tab w' := fun k hk => cell_later hb (h k hk)
theorem at_world {C P : World → Prop} {W : World} (h : P W) (h2 : ∀ V, P V → C V) : C W := h2 _ h
/-- The ways of firstSize, of a size that is a letter. -/
theorem fs_none (A : Option Addr) (b : List UInt8) (n c : Nat) (w : World) (hn : n < 8) :
    Calls Tryd.prog 22 #[.slice A n c] w fun e w' => e = .returned (.int .i64 0) ∧ Below w.heap.size w w' := by
  have h8' : (n : Int) < 8 := by omega
  go_enter Tryd.func22, Tryd.ntmps22
  go_wp2
  go_ret
  exact ⟨rfl, Below.refl _ _⟩
theorem fs_big (A : Option Addr) (sz n c : Nat) (w : World) (hn : ¬ n < 8) (hm : n ≤ 9223372036854775807) (hS : Calls Tryd.prog 26 #[.slice A n c] w fun e w' => e = .returned (.int .i64 sz) ∧ Below w.heap.size w w') (hb : 65544 < sz) :
    Calls Tryd.prog 22 #[.slice A n c] w fun e w' => e = .returned (.int .i64 0) ∧ Below w.heap.size w w' := by
  have h8' : (8 : Int) ≤ (n : Int) := by omega
  have hb' : (65544 : Int) < (sz : Int) := by omega
  have HS := Lib.hid hS
  clear hS hb hn
  go_enter Tryd.func22, Tryd.ntmps22
  go_wp2_with (go_at_call 26; refine Calls.mono (by with_reducible exact HS.out) ?_; rintro e w1 ⟨rfl, hb⟩; have HB1 := Lib.hid hb; clear hb)
  go_ret
  exact ⟨rfl, HB1.out⟩
theorem fs_short (A : Option Addr) (sz n c : Nat) (w : World) (hn : ¬ n < 8) (hm : n ≤ 9223372036854775807) (hS : Calls Tryd.prog 26 #[.slice A n c] w fun e w' => e = .returned (.int .i64 sz) ∧ Below w.heap.size w w') (hb : ¬ 65544 < sz) (hs : n < sz) :
    Calls Tryd.prog 22 #[.slice A n c] w fun e w' => e = .returned (.int .i64 0) ∧ Below w.heap.size w w' := by
  have h8' : (8 : Int) ≤ (n : Int) := by omega
  have hb' : (sz : Int) ≤ 65544 := by omega
  have hs' : (n : Int) < (sz : Int) := by omega
  have HS := Lib.hid hS
  clear hS hb hn
  go_enter Tryd.func22, Tryd.ntmps22
  go_wp2_with (go_at_call 26; refine Calls.mono (by with_reducible exact HS.out) ?_; rintro e w1 ⟨rfl, hb⟩; have HB1 := Lib.hid hb; clear hb)
  go_ret
  exact ⟨rfl, HB1.out⟩
set_option maxHeartbeats 4000000 in
set_option maxRecDepth 20000 in
theorem fs_go (g o sz n c gsum ssum R : Nat) (X Y : List UInt8) (w : World) (hT : Tab w) (hn : ¬ n < 8) (hm : n ≤ 9223372036854775807) (hS : Calls Tryd.prog 26 #[.slice (some ⟨g, o, none⟩) n c] w fun e w' => e = .returned (.int .i64 sz) ∧ Below w.heap.size w w') (hb : ¬ 65544 < sz) (hs : ¬ n < sz) (h8s : 8 ≤ sz) (hnc : n ≤ c) (hcm : c ≤ 9223372036854775807) (hc8 : ¬ c = 8)
    (hG : ∀ V, Below w.heap.size w V → Calls Tryd.prog 30 #[.slice (some ⟨g, o + 4, none⟩) 4 (c - 4)] V fun e w' => e = .returned (.int .u32 gsum) ∧ Below V.heap.size V w')
    (hSm : ∀ V h, Below w.heap.size w V → V.heap[h]? = some (.cells #[.slice (some ⟨g, o, none⟩) 4 c, .slice (some ⟨g, o + 8, none⟩) (sz - 8) (c - 8)] 22 (0, 0)) → Calls Tryd.prog 18 #[.slice (some ⟨h, 0, none⟩) 2 2] V fun e w' => e = .returned (.int .u32 ssum) ∧ V = w')
    (hR : R = if gsum = ssum then sz else 0) :
    Calls Tryd.prog 22 #[.slice (some ⟨g, o, none⟩) n c] w fun e w' => e = .returned (.int .i64 (R : Nat)) ∧ Below w.heap.size w w' := by
  have h8' : (8 : Int) ≤ (n : Int) := by omega
  have hb' : (sz : Int) ≤ 65544 := by omega
  have hs' : (sz : Int) ≤ (n : Int) := by omega
  have hsc : (sz : Int) ≤ (c : Int) := by omega
  have h8z : (8 : Int) ≤ (sz : Int) := by omega
  have h4c : (4 : Int) ≤ (c : Int) := by omega
  have h8c : (8 : Int) ≤ (c : Int) := by omega
  have HS0 := Lib.hid hS
  have HG := Lib.hid hG
  have HS := Lib.hid hSm
  have HYes : Hid ((gsum != ssum) = true → R = 0) := Lib.hid (fun h => by rw [hR, if_neg (by simpa using h)])
  have HNo : Hid ((gsum != ssum) = false → R = sz) := Lib.hid (fun h => by rw [hR, if_pos (by simpa using h)])
  clear hS hG hSm hb hn hs hT hR hm
  go_enter Tryd.func22, Tryd.ntmps22
  go_wp2_with (go_at_call 26; refine Calls.mono (by with_reducible exact HS0.out) ?_; rintro e w1 ⟨rfl, hb⟩; have HB0 := Lib.hid hb; clear hb)
  go_quiet (fail)
  go_wp2_with fail
  refine at_world (C := fun V => Code.wp _ _ _ _ V) (P := fun V => Below w1.heap.size w1 V) (below_drewN (Below.refl _ _) _) (fun W0 hW0 => ?_)
  have HB1 := Lib.hid (HB0.out.trans (hW0.mono HB0.out.size))
  clear HB0 hW0
  have HB0 := HB1
  clear HB1
  have HG' := Lib.hid (fun V (h : Below W0.heap.size W0 V) => HG.out V (HB0.out.trans (h.mono HB0.out.size)))
  have HS' := Lib.hid (fun V h (hb : Below W0.heap.size W0 V) hh => HS.out V h (HB0.out.trans (hb.mono HB0.out.size)) hh)
  clear HG HS
  have HG := HG'
  have HS := HS'
  clear HG' HS'
  refine wp_region_held_drew (S := fun w' => Below W0.heap.size W0 w') (by kernel_rfl) ((Below.refl _ _).drew) (fun hHeld => ?_)
  refine wpAnyH_take (i := 0) (v := ?vv1) rfl (by kernel_rfl) (by kernel_rfl) (by kernel_rfl) (fun _ _ _ h => h) (Or.inl ⟨by rfl, ?hy1⟩) hHeld ?rr1
  case hy1 => (intro w' hSw; have g3 := hSw; go_simp; try with_reducible rfl)
  try simp only [Act.put, List.setIfInBounds_toArray, List.set_cons_zero, List.set_cons_succ, List.getElem_toArray, List.getElem_cons_succ, List.getElem_cons_zero]
  refine wpAnyH_take (i := 2) (v := ?vv2) rfl (by kernel_rfl) (by kernel_rfl) (by kernel_rfl) (fun _ _ _ h => h) (Or.inl ⟨by rfl, ?hy2⟩) hHeld ?rr2
  case hy2 => (intro w' hSw; have g3 := hSw; go_simp; try with_reducible rfl)
  try simp only [Act.put, List.setIfInBounds_toArray, List.set_cons_zero, List.set_cons_succ, List.getElem_toArray, List.getElem_cons_succ, List.getElem_cons_zero]
  refine wpAnyH_take (i := 3) (v := ?vv3) rfl (by kernel_rfl) (by kernel_rfl) (by kernel_rfl) (fun _ _ _ h => h) (Or.inl ⟨by rfl, ?hy3⟩) hHeld ?rr3
  case hy3 => (intro w' hSw; have g3 := hSw; go_simp; try with_reducible rfl)
  try simp only [Act.put, List.setIfInBounds_toArray, List.set_cons_zero, List.set_cons_succ, List.getElem_toArray, List.getElem_cons_succ, List.getElem_cons_zero]
  refine wpAnyH_take (i := 4) (v := ?vv4) rfl (by kernel_rfl) (by kernel_rfl) (by kernel_rfl) (fun _ _ _ h => h) (Or.inl ⟨by rfl, ?hy4⟩) hHeld ?rr4
  case hy4 => (intro w' hSw; have g3 := hSw; go_simp; try with_reducible rfl)
  try simp only [Act.put, List.setIfInBounds_toArray, List.set_cons_zero, List.set_cons_succ, List.getElem_toArray, List.getElem_cons_succ, List.getElem_cons_zero]
  refine wpAnyH_take (i := 5) (v := ?vv5) rfl (by kernel_rfl) (by kernel_rfl) (by kernel_rfl) (fun _ _ _ h => h) (Or.inl ⟨by rfl, ?hy5⟩) hHeld ?rr5
  case hy5 => (intro w' hSw; have g3 := hSw; go_simp; try with_reducible rfl)
  try simp only [Act.put, List.setIfInBounds_toArray, List.set_cons_zero, List.set_cons_succ, List.getElem_toArray, List.getElem_cons_succ, List.getElem_cons_zero]
  refine wpAnyH_ready (rs := [1, 6]) (by kernel_rfl) (by simp) ?_
  refine AllReadyH.cons rfl (fun K hK => ?pathA) (AllReadyH.cons rfl (fun K hK => ?pathB) AllReadyH.nil)
  case pathA =>
    rw [if_pos (by rfl)]
    go_simp
    go_at_call 30
    refine Calls.mono (by with_reducible exact HG.out _ (Below.refl W0.heap.size W0).drew) ?_
    rintro e V1 ⟨rfl, hb⟩
    have hB1 := Below.trans (Below.refl W0.heap.size W0).drew (hb.mono (Below.size (Below.refl W0.heap.size W0).drew))
    clear hb
    go_wp2_with fail
    refine hK.out _ _ hB1 (fun hHeld2 => ?_)
    clear hK K hHeld
    have hHeld := hHeld2
    clear hHeld2
    try simp only [Act.put, List.setIfInBounds_toArray, List.set_cons_zero, List.set_cons_succ, List.getElem_toArray, List.getElem_cons_succ, List.getElem_cons_zero]
    refine wpAnyH_ready (rs := [6]) (by kernel_rfl) (by simp) ?_
    refine AllReadyH.cons rfl (fun K hK => ?_) AllReadyH.nil
    rw [if_pos (by rfl)]
    go_simp
    have hB2 : Below W0.heap.size W0 (V1.alloc (.cells #[.slice (some ⟨g, o, none⟩) 4 c, .slice (some ⟨g, o + 8, none⟩) (sz - 8) (c - 8)] 22)) := hB1.alloc hB1.size _
    have hH2 := heap_new V1 (.cells #[.slice (some ⟨g, o, none⟩) 4 c, .slice (some ⟨g, o + 8, none⟩) (sz - 8) (c - 8)] 22)
    generalize V1.alloc (.cells #[.slice (some ⟨g, o, none⟩) 4 c, .slice (some ⟨g, o + 8, none⟩) (sz - 8) (c - 8)] 22) = V2 at *
    refine hK.out _ _ hB2 (fun hHeld2 => ?_)
    clear hK K hHeld
    have hHeld := hHeld2
    clear hHeld2
    try simp only [Act.put, List.setIfInBounds_toArray, List.set_cons_zero, List.set_cons_succ, List.getElem_toArray, List.getElem_cons_succ, List.getElem_cons_zero]
    refine wpAnyH_ready (rs := [7]) (by kernel_rfl) (by simp) ?_
    refine AllReadyH.cons rfl (fun K hK => ?_) AllReadyH.nil
    rw [if_pos (by rfl)]
    go_simp
    go_at_call 18
    refine Calls.mono (by with_reducible exact HS.out _ _ hB2 hH2) ?_
    rintro e V3 ⟨rfl, rfl⟩
    go_wp2_with fail
    refine hK.out _ _ hB2 (fun hHeld2 => ?_)
    clear hK K hHeld
    have hHeld := hHeld2
    clear hHeld2
    try simp only [Act.put, List.setIfInBounds_toArray, List.set_cons_zero, List.set_cons_succ, List.getElem_toArray, List.getElem_cons_succ, List.getElem_cons_zero]
    refine wpAnyH_take (i := 8) (v := ?vv6) rfl (by kernel_rfl) (by kernel_rfl) (by kernel_rfl) (fun _ _ _ h => h) (Or.inl ⟨by rfl, ?hy6⟩) hHeld ?rr6
    case hy6 => (intro w' hSw; have g3 := hSw; go_simp; try with_reducible rfl)
    try simp only [Act.put, List.setIfInBounds_toArray, List.set_cons_zero, List.set_cons_succ, List.getElem_toArray, List.getElem_cons_succ, List.getElem_cons_zero]
    refine wpAnyH_done (by kernel_rfl) ?_ _
    have HE := Lib.hid (HB0.out.trans (Below.mono hB2 HB0.out.size))
    clear hHeld
    cases hq : (gsum != ssum)
    · have HR := Lib.hid (HNo.out hq)
      go_wp2
      go_ret
      exact ⟨ret_int (by rw [HR.out]; try rfl), HE.out⟩
    · have HR := Lib.hid (HYes.out hq)
      go_wp2
      go_ret
      exact ⟨ret_int (by rw [HR.out]; rfl), HE.out⟩
  case pathB =>
    rw [if_pos (by rfl)]
    go_simp
    have hB0 : Below W0.heap.size W0 (W0.alloc (.cells #[.slice (some ⟨g, o, none⟩) 4 c, .slice (some ⟨g, o + 8, none⟩) (sz - 8) (c - 8)] 22)).drew := (below_alloc _ _).drew
    have hH0 : (W0.alloc (.cells #[.slice (some ⟨g, o, none⟩) 4 c, .slice (some ⟨g, o + 8, none⟩) (sz - 8) (c - 8)] 22)).drew.heap[W0.heap.size]? = _ := heap_new W0 (.cells #[.slice (some ⟨g, o, none⟩) 4 c, .slice (some ⟨g, o + 8, none⟩) (sz - 8) (c - 8)] 22)
    generalize (W0.alloc (.cells #[.slice (some ⟨g, o, none⟩) 4 c, .slice (some ⟨g, o + 8, none⟩) (sz - 8) (c - 8)] 22)).drew = V0 at *
    refine hK.out _ _ hB0 (fun hHeld2 => ?_)
    clear hK K hHeld
    have hHeld := hHeld2
    clear hHeld2
    try simp only [Act.put, List.setIfInBounds_toArray, List.set_cons_zero, List.set_cons_succ, List.getElem_toArray, List.getElem_cons_succ, List.getElem_cons_zero]
    refine wpAnyH_ready (rs := [1]) (by kernel_rfl) (by simp) ?_
    refine AllReadyH.cons rfl (fun K hK => ?_) AllReadyH.nil
    rw [if_pos (by rfl)]
    go_simp
    go_at_call 30
    refine Calls.mono (by with_reducible exact HG.out _ hB0) ?_
    rintro e V1 ⟨rfl, hb⟩
    have hB1 := Below.trans hB0 (hb.mono (Below.size hB0))
    have hH1 := (hb.block _ (heap_lt hH0)).trans hH0
    clear hb
    go_wp2_with fail
    refine hK.out _ _ hB1 (fun hHeld2 => ?_)
    clear hK K hHeld
    have hHeld := hHeld2
    clear hHeld2
    try simp only [Act.put, List.setIfInBounds_toArray, List.set_cons_zero, List.set_cons_succ, List.getElem_toArray, List.getElem_cons_succ, List.getElem_cons_zero]
    refine wpAnyH_ready (rs := [7]) (by kernel_rfl) (by simp) ?_
    refine AllReadyH.cons rfl (fun K hK => ?_) AllReadyH.nil
    rw [if_pos (by rfl)]
    go_simp
    go_at_call 18
    refine Calls.mono (by with_reducible exact HS.out _ _ hB1 hH1) ?_
    rintro e V3 ⟨rfl, rfl⟩
    go_wp2_with fail
    refine hK.out _ _ hB1 (fun hHeld2 => ?_)
    clear hK K hHeld
    have hHeld := hHeld2
    clear hHeld2
    try simp only [Act.put, List.setIfInBounds_toArray, List.set_cons_zero, List.set_cons_succ, List.getElem_toArray, List.getElem_cons_succ, List.getElem_cons_zero]
    refine wpAnyH_take (i := 8) (v := ?vv7) rfl (by kernel_rfl) (by kernel_rfl) (by kernel_rfl) (fun _ _ _ h => h) (Or.inl ⟨by rfl, ?hy7⟩) hHeld ?rr7
    case hy7 => (intro w' hSw; have g3 := hSw; go_simp; try with_reducible rfl)
    try simp only [Act.put, List.setIfInBounds_toArray, List.set_cons_zero, List.set_cons_succ, List.getElem_toArray, List.getElem_cons_succ, List.getElem_cons_zero]
    refine wpAnyH_done (by kernel_rfl) ?_ _
    have HE := Lib.hid (HB0.out.trans (Below.mono hB1 HB0.out.size))
    clear hHeld
    cases hq : (gsum != ssum)
    · have HR := Lib.hid (HNo.out hq)
      go_wp2
      go_ret
      exact ⟨ret_int (by rw [HR.out]; try rfl), HE.out⟩
    · have HR := Lib.hid (HYes.out hq)
      go_wp2
      go_ret
      exact ⟨ret_int (by rw [HR.out]; rfl), HE.out⟩
set_option maxHeartbeats 4000000 in
set_option maxRecDepth 20000 in
theorem fs_go8 (g o gsum ssum R : Nat) (X Y : List UInt8) (w : World) (hT : Tab w) (hS : Calls Tryd.prog 26 #[.slice (some ⟨g, o, none⟩) 8 8] w fun e w' => e = .returned (.int .i64 8) ∧ Below w.heap.size w w') 
    (hG : ∀ V, Below w.heap.size w V → Calls Tryd.prog 30 #[.slice (some ⟨g, o + 4, none⟩) 4 4] V fun e w' => e = .returned (.int .u32 gsum) ∧ Below V.heap.size V w')
    (hSm : ∀ V h, Below w.heap.size w V → V.heap[h]? = some (.cells #[.slice (some ⟨g, o, none⟩) 4 8, .slice (some ⟨g, o, none⟩) 0 0] 22 (0, 0)) → Calls Tryd.prog 18 #[.slice (some ⟨h, 0, none⟩) 2 2] V fun e w' => e = .returned (.int .u32 ssum) ∧ V = w')
    (hR : R = if gsum = ssum then 8 else 0) :
    Calls Tryd.prog 22 #[.slice (some ⟨g, o, none⟩) 8 8] w fun e w' => e = .returned (.int .i64 (R : Nat)) ∧ Below w.heap.size w w' := by
  have HS0 := Lib.hid hS
  have HG := Lib.hid hG
  have HS := Lib.hid hSm
  have HYes : Hid ((gsum != ssum) = true → R = 0) := Lib.hid (fun h => by rw [hR, if_neg (by simpa using h)])
  have HNo : Hid ((gsum != ssum) = false → R = 8) := Lib.hid (fun h => by rw [hR, if_pos (by simpa using h)])
  clear hS hG hSm hT hR
  go_enter Tryd.func22, Tryd.ntmps22
  go_wp2_with (go_at_call 26; refine Calls.mono (by with_reducible exact HS0.out) ?_; rintro e w1 ⟨rfl, hb⟩; have HB0 := Lib.hid hb; clear hb)
  go_quiet (fail)
  go_wp2_with fail
  refine at_world (C := fun V => Code.wp _ _ _ _ V) (P := fun V => Below w1.heap.size w1 V) (below_drewN (Below.refl _ _) _) (fun W0 hW0 => ?_)
  have HB1 := Lib.hid (HB0.out.trans (hW0.mono HB0.out.size))
  clear HB0 hW0
  have HB0 := HB1
  clear HB1
  have HG' := Lib.hid (fun V (h : Below W0.heap.size W0 V) => HG.out V (HB0.out.trans (h.mono HB0.out.size)))
  have HS' := Lib.hid (fun V h (hb : Below W0.heap.size W0 V) hh => HS.out V h (HB0.out.trans (hb.mono HB0.out.size)) hh)
  clear HG HS
  have HG := HG'
  have HS := HS'
  clear HG' HS'
  refine wp_region_held_drew (S := fun w' => Below W0.heap.size W0 w') (by kernel_rfl) ((Below.refl _ _).drew) (fun hHeld => ?_)
  refine wpAnyH_take (i := 0) (v := ?vv108) rfl (by kernel_rfl) (by kernel_rfl) (by kernel_rfl) (fun _ _ _ h => h) (Or.inl ⟨by rfl, ?hy108⟩) hHeld ?rr108
  case hy108 => (intro w' hSw; have g3 := hSw; go_simp; try with_reducible rfl)
  try simp only [Act.put, List.setIfInBounds_toArray, List.set_cons_zero, List.set_cons_succ, List.getElem_toArray, List.getElem_cons_succ, List.getElem_cons_zero]
  refine wpAnyH_take (i := 2) (v := ?vv109) rfl (by kernel_rfl) (by kernel_rfl) (by kernel_rfl) (fun _ _ _ h => h) (Or.inl ⟨by rfl, ?hy109⟩) hHeld ?rr109
  case hy109 => (intro w' hSw; have g3 := hSw; go_simp; try with_reducible rfl)
  try simp only [Act.put, List.setIfInBounds_toArray, List.set_cons_zero, List.set_cons_succ, List.getElem_toArray, List.getElem_cons_succ, List.getElem_cons_zero]
  refine wpAnyH_take (i := 3) (v := ?vv110) rfl (by kernel_rfl) (by kernel_rfl) (by kernel_rfl) (fun _ _ _ h => h) (Or.inl ⟨by rfl, ?hy110⟩) hHeld ?rr110
  case hy110 => (intro w' hSw; have g3 := hSw; go_simp; try with_reducible rfl)
  try simp only [Act.put, List.setIfInBounds_toArray, List.set_cons_zero, List.set_cons_succ, List.getElem_toArray, List.getElem_cons_succ, List.getElem_cons_zero]
  refine wpAnyH_take (i := 4) (v := ?vv111) rfl (by kernel_rfl) (by kernel_rfl) (by kernel_rfl) (fun _ _ _ h => h) (Or.inl ⟨by rfl, ?hy111⟩) hHeld ?rr111
  case hy111 => (intro w' hSw; have g3 := hSw; go_simp; try with_reducible rfl)
  try simp only [Act.put, List.setIfInBounds_toArray, List.set_cons_zero, List.set_cons_succ, List.getElem_toArray, List.getElem_cons_succ, List.getElem_cons_zero]
  refine wpAnyH_take (i := 5) (v := ?vv112) rfl (by kernel_rfl) (by kernel_rfl) (by kernel_rfl) (fun _ _ _ h => h) (Or.inl ⟨by rfl, ?hy112⟩) hHeld ?rr112
  case hy112 => (intro w' hSw; have g3 := hSw; go_simp; try with_reducible rfl)
  try simp only [Act.put, List.setIfInBounds_toArray, List.set_cons_zero, List.set_cons_succ, List.getElem_toArray, List.getElem_cons_succ, List.getElem_cons_zero]
  refine wpAnyH_ready (rs := [1, 6]) (by kernel_rfl) (by simp) ?_
  refine AllReadyH.cons rfl (fun K hK => ?pathA) (AllReadyH.cons rfl (fun K hK => ?pathB) AllReadyH.nil)
  case pathA =>
    rw [if_pos (by rfl)]
    go_simp
    go_at_call 30
    refine Calls.mono (by with_reducible exact HG.out _ (Below.refl W0.heap.size W0).drew) ?_
    rintro e V1 ⟨rfl, hb⟩
    have hB1 := Below.trans (Below.refl W0.heap.size W0).drew (hb.mono (Below.size (Below.refl W0.heap.size W0).drew))
    clear hb
    go_wp2_with fail
    refine hK.out _ _ hB1 (fun hHeld2 => ?_)
    clear hK K hHeld
    have hHeld := hHeld2
    clear hHeld2
    try simp only [Act.put, List.setIfInBounds_toArray, List.set_cons_zero, List.set_cons_succ, List.getElem_toArray, List.getElem_cons_succ, List.getElem_cons_zero]
    refine wpAnyH_ready (rs := [6]) (by kernel_rfl) (by simp) ?_
    refine AllReadyH.cons rfl (fun K hK => ?_) AllReadyH.nil
    rw [if_pos (by rfl)]
    go_simp
    have hB2 : Below W0.heap.size W0 (V1.alloc (.cells #[.slice (some ⟨g, o, none⟩) 4 8, .slice (some ⟨g, o, none⟩) 0 0] 22)) := hB1.alloc hB1.size _
    have hH2 := heap_new V1 (.cells #[.slice (some ⟨g, o, none⟩) 4 8, .slice (some ⟨g, o, none⟩) 0 0] 22)
    generalize V1.alloc (.cells #[.slice (some ⟨g, o, none⟩) 4 8, .slice (some ⟨g, o, none⟩) 0 0] 22) = V2 at *
    refine hK.out _ _ hB2 (fun hHeld2 => ?_)
    clear hK K hHeld
    have hHeld := hHeld2
    clear hHeld2
    try simp only [Act.put, List.setIfInBounds_toArray, List.set_cons_zero, List.set_cons_succ, List.getElem_toArray, List.getElem_cons_succ, List.getElem_cons_zero]
    refine wpAnyH_ready (rs := [7]) (by kernel_rfl) (by simp) ?_
    refine AllReadyH.cons rfl (fun K hK => ?_) AllReadyH.nil
    rw [if_pos (by rfl)]
    go_simp
    go_at_call 18
    refine Calls.mono (by with_reducible exact HS.out _ _ hB2 hH2) ?_
    rintro e V3 ⟨rfl, rfl⟩
    go_wp2_with fail
    refine hK.out _ _ hB2 (fun hHeld2 => ?_)
    clear hK K hHeld
    have hHeld := hHeld2
    clear hHeld2
    try simp only [Act.put, List.setIfInBounds_toArray, List.set_cons_zero, List.set_cons_succ, List.getElem_toArray, List.getElem_cons_succ, List.getElem_cons_zero]
    refine wpAnyH_take (i := 8) (v := ?vv113) rfl (by kernel_rfl) (by kernel_rfl) (by kernel_rfl) (fun _ _ _ h => h) (Or.inl ⟨by rfl, ?hy113⟩) hHeld ?rr113
    case hy113 => (intro w' hSw; have g3 := hSw; go_simp; try with_reducible rfl)
    try simp only [Act.put, List.setIfInBounds_toArray, List.set_cons_zero, List.set_cons_succ, List.getElem_toArray, List.getElem_cons_succ, List.getElem_cons_zero]
    refine wpAnyH_done (by kernel_rfl) ?_ _
    have HE := Lib.hid (HB0.out.trans (Below.mono hB2 HB0.out.size))
    clear hHeld
    cases hq : (gsum != ssum)
    · have HR := Lib.hid (HNo.out hq)
      go_wp2
      go_ret
      exact ⟨ret_int (by rw [HR.out]; try rfl), HE.out⟩
    · have HR := Lib.hid (HYes.out hq)
      go_wp2
      go_ret
      exact ⟨ret_int (by rw [HR.out]; rfl), HE.out⟩
  case pathB =>
    rw [if_pos (by rfl)]
    go_simp
    have hB0 : Below W0.heap.size W0 (W0.alloc (.cells #[.slice (some ⟨g, o, none⟩) 4 8, .slice (some ⟨g, o, none⟩) 0 0] 22)).drew := (below_alloc _ _).drew
    have hH0 : (W0.alloc (.cells #[.slice (some ⟨g, o, none⟩) 4 8, .slice (some ⟨g, o, none⟩) 0 0] 22)).drew.heap[W0.heap.size]? = _ := heap_new W0 (.cells #[.slice (some ⟨g, o, none⟩) 4 8, .slice (some ⟨g, o, none⟩) 0 0] 22)
    generalize (W0.alloc (.cells #[.slice (some ⟨g, o, none⟩) 4 8, .slice (some ⟨g, o, none⟩) 0 0] 22)).drew = V0 at *
    refine hK.out _ _ hB0 (fun hHeld2 => ?_)
    clear hK K hHeld
    have hHeld := hHeld2
    clear hHeld2
    try simp only [Act.put, List.setIfInBounds_toArray, List.set_cons_zero, List.set_cons_succ, List.getElem_toArray, List.getElem_cons_succ, List.getElem_cons_zero]
    refine wpAnyH_ready (rs := [1]) (by kernel_rfl) (by simp) ?_
    refine AllReadyH.cons rfl (fun K hK => ?_) AllReadyH.nil
    rw [if_pos (by rfl)]
    go_simp
    go_at_call 30
    refine Calls.mono (by with_reducible exact HG.out _ hB0) ?_
    rintro e V1 ⟨rfl, hb⟩
    have hB1 := Below.trans hB0 (hb.mono (Below.size hB0))
    have hH1 := (hb.block _ (heap_lt hH0)).trans hH0
    clear hb
    go_wp2_with fail
    refine hK.out _ _ hB1 (fun hHeld2 => ?_)
    clear hK K hHeld
    have hHeld := hHeld2
    clear hHeld2
    try simp only [Act.put, List.setIfInBounds_toArray, List.set_cons_zero, List.set_cons_succ, List.getElem_toArray, List.getElem_cons_succ, List.getElem_cons_zero]
    refine wpAnyH_ready (rs := [7]) (by kernel_rfl) (by simp) ?_
    refine AllReadyH.cons rfl (fun K hK => ?_) AllReadyH.nil
    rw [if_pos (by rfl)]
    go_simp
    go_at_call 18
    refine Calls.mono (by with_reducible exact HS.out _ _ hB1 hH1) ?_
    rintro e V3 ⟨rfl, rfl⟩
    go_wp2_with fail
    refine hK.out _ _ hB1 (fun hHeld2 => ?_)
    clear hK K hHeld
    have hHeld := hHeld2
    clear hHeld2
    try simp only [Act.put, List.setIfInBounds_toArray, List.set_cons_zero, List.set_cons_succ, List.getElem_toArray, List.getElem_cons_succ, List.getElem_cons_zero]
    refine wpAnyH_take (i := 8) (v := ?vv114) rfl (by kernel_rfl) (by kernel_rfl) (by kernel_rfl) (fun _ _ _ h => h) (Or.inl ⟨by rfl, ?hy114⟩) hHeld ?rr114
    case hy114 => (intro w' hSw; have g3 := hSw; go_simp; try with_reducible rfl)
    try simp only [Act.put, List.setIfInBounds_toArray, List.set_cons_zero, List.set_cons_succ, List.getElem_toArray, List.getElem_cons_succ, List.getElem_cons_zero]
    refine wpAnyH_done (by kernel_rfl) ?_ _
    have HE := Lib.hid (HB0.out.trans (Below.mono hB1 HB0.out.size))
    clear hHeld
    cases hq : (gsum != ssum)
    · have HR := Lib.hid (HNo.out hq)
      go_wp2
      go_ret
      exact ⟨ret_int (by rw [HR.out]; try rfl), HE.out⟩
    · have HR := Lib.hid (HYes.out hq)
      go_wp2
      go_ret
      exact ⟨ret_int (by rw [HR.out]; rfl), HE.out⟩
end Go.Proofs.YtilbmbheancciaaDoor
