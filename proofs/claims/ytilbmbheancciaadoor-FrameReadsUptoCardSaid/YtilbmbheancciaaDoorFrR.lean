/- The reference's First. -/
import Derived.Test.YtilbmbheancciaaDoorFrP
import Derived.Test.YtilbmbheancciaaDoorFrE
import Derived.BigQuiet
set_option linter.unusedSimpArgs false
set_option linter.unusedVariables false
namespace Go.Proofs.YtilbmbheancciaaDoor
open Go.ChangeShapes Go.WideShapes Go.ChangeAt Go.RowKit Go.Base Go.Mx Go.Fr

theorem i64_or_nat (a b : Nat) (ha : a < 4294967296) (hb : b < 4294967296) : bits .or .i64 (a : Int) (b : Int) = ((a ||| b : Nat) : Int) := by
  have hx : a ||| b < 2 ^ 32 := Nat.or_lt_two_pow (by omega) (by omega)
  show IntKind.i64.wrap ((BitVec.ofInt 64 (a : Int) ||| BitVec.ofInt 64 (b : Int)).toNat : Int) = _
  rw [BitVec.toNat_or, ofInt_u64 a (by omega), ofInt_u64 b (by omega)]
  simp [IntKind.wrap, IntKind.bits, IntKind.signed]
  omega
theorem or_hi64 (i a b : Nat) (h : b < 2 ^ i) (ha : 2 ^ i * a < 4294967296) (hb : b < 4294967296) : bits BinOp.or IntKind.i64 ((2 ^ i * a : Nat) : Int) (b : Int) = ((2 ^ i * a + b : Nat) : Int) := by
  rw [i64_or_nat _ _ ha hb, Nat.two_pow_add_eq_or_of_lt h]
theorem num_or64 (a b c d : Nat) (ha : a < 256) (hb : b < 256) (hc : c < 256) (hd : d < 256) :
    bits BinOp.or IntKind.i64 (bits BinOp.or IntKind.i64 (bits BinOp.or IntKind.i64 (wrap64 (wrap64 (a : Int) * 16777216)) (wrap64 (wrap64 (b : Int) * 65536))) (wrap64 (wrap64 (c : Int) * 256))) (wrap64 (d : Int)) = ((a * 16777216 + b * 65536 + c * 256 + d : Nat) : Int) := by
  have w64 : ∀ z : Int, 0 ≤ z → z < 9223372036854775808 → wrap64 z = z := fun z h1 h2 => by unfold wrap64; omega
  have e1 : wrap64 (wrap64 (a : Int) * 16777216) = ((2 ^ 24 * a : Nat) : Int) := by rw [w64 (a : Int) (by omega) (by omega), w64 _ (by omega) (by omega)]; omega
  have e2 : wrap64 (wrap64 (b : Int) * 65536) = ((b * 65536 : Nat) : Int) := by rw [w64 (b : Int) (by omega) (by omega), w64 _ (by omega) (by omega)]; omega
  have e3 : wrap64 (wrap64 (c : Int) * 256) = ((c * 256 : Nat) : Int) := by rw [w64 (c : Int) (by omega) (by omega), w64 _ (by omega) (by omega)]; omega
  have e4 : wrap64 (d : Int) = ((d : Nat) : Int) := by rw [w64 (d : Int) (by omega) (by omega)]
  rw [e1, e2, e3, e4, or_hi64 24 a (b * 65536) (by omega) (by omega) (by omega), show 2 ^ 24 * a + b * 65536 = 2 ^ 16 * (256 * a + b) by omega,
    or_hi64 16 _ (c * 256) (by omega) (by omega) (by omega), show 2 ^ 16 * (256 * a + b) + c * 256 = 2 ^ 8 * (65536 * a + 256 * b + c) by omega, or_hi64 8 _ d (by omega) (by omega) (by omega)]
  congr 1
  omega
def RefFirstPost (b : List UInt8) (w : World) (e : Ending) (w' : World) : Prop :=
  (firstSz b = 0 → e = .returned (.tuple #[.slice none 0 0, .int .i64 0, .bool false])) ∧
  (firstSz b ≠ 0 → ∃ A c, e = .returned (.tuple #[.slice A (firstSz b - 8) c, .int .i64 (firstSz b : Nat), .bool true]) ∧ w'.ownsRow w.heap.size 5 1 (.slice A (firstSz b - 8) c) (firstSz b - 8) ((payB b).map u8v)) ∧ Below w.heap.size w w'
def RfPost (bv : Bool) (N : Nat) (z : Int) (p : List UInt8) (w : World) (e : Ending) (w' : World) : Prop :=
  (bv = true → e = .returned (.tuple #[.slice none 0 0, .int .i64 0, .bool false])) ∧ (bv = false → ∃ A c, e = .returned (.tuple #[.slice A N c, .int .i64 z, .bool true]) ∧ w'.ownsRow w.heap.size 5 1 (.slice A N c) N (p.map u8v)) ∧ Below w.heap.size w w'
theorem own_wide {w : World} {b b' n s : Nat} {e : TypeId} {v : Value} {xs : List Value} (h : w.ownsRow b e s v n xs) (hb : b' ≤ b) : w.ownsRow b' e s v n xs := by
  refine ⟨h.1, ?_⟩
  rcases h.2 with h2 | ⟨g, cap, cur, hv, hg, r⟩
  · exact .inl h2
  · exact .inr ⟨g, cap, cur, hv, Nat.le_trans hb hg, r⟩
theorem rf_none (A : Option Addr) (n c : Nat) (w : World) (hn : n < 8) :
    Calls Tryd.prog 13 #[.slice A n c] w fun e w' => e = .returned (.tuple #[.slice none 0 0, .int .i64 0, .bool false]) ∧ Below w.heap.size w w' := by
  have h8' : (n : Int) < 8 := by omega
  go_enter Tryd.func13, Tryd.ntmps13
  go_wp2
  go_ret3
  exact ⟨rfl, Below.refl _ _⟩
/-- Where the sizes fit, there is a frame just if the bytes are the payload's frame. -/
theorem firstSz_ref {b : List UInt8} (h8 : ¬ b.length < 8) (h1 : ¬ 65536 < getN b) (h2 : ¬ b.length < 8 + getN b) :
    (frameB (payB b) = b.take (8 + getN b) → firstSz b = 8 + getN b) ∧ (frameB (payB b) ≠ b.take (8 + getN b) → firstSz b = 0) := by
  have hpl : (payB b).length = getN b := by unfold payB; rw [List.length_take, List.length_drop]; omega
  constructor
  · intro h
    have e : b = frameB (payB b) ++ b.drop (8 + getN b) := by rw [h, List.take_append_drop]
    have := firstSz_frame (payB b) (b.drop (8 + getN b)) (by omega)
    rw [← e] at this
    omega
  · intro h
    refine Classical.byContradiction fun h0 => h ?_
    exact (first_frame h0).2.2.2.1.symm
set_option maxHeartbeats 2000000 in
theorem rf_sizes (A : Option Addr) (b : List UInt8) (n c N : Nat) (w : World) (hbn : b.length = n) (hN : getN b = N) (hb : Byt w A b) (h8 : ¬ n < 8) (hc : n ≤ c) (hcm : c ≤ maxLen) (hbad : 65536 < N ∨ n < 8 + N) :
    Calls Tryd.prog 13 #[.slice A n c] w fun e w' => e = .returned (.tuple #[.slice none 0 0, .int .i64 0, .bool false]) ∧ Below w.heap.size w w' := by
  subst hbn
  unfold maxLen at hcm
  obtain ⟨g, o, rfl, c0⟩ := hb 0 (by omega)
  have c1 := hb.at_ (k := 1) (by omega)
  have c2 := hb.at_ (k := 2) (by omega)
  have c3 := hb.at_ (k := 3) (by omega)
  rw [Nat.add_zero] at c0
  have n0 : 0 < b.length := by omega
  have n1 : 1 < b.length := by omega
  have n2 : 2 < b.length := by omega
  have n3 : 3 < b.length := by omega
  have h0' : (0 : Int) < (b.length : Int) := by omega
  have h1' : (1 : Int) < (b.length : Int) := by omega
  have h2' : (2 : Int) < (b.length : Int) := by omega
  have h3' : (3 : Int) < (b.length : Int) := by omega
  have h8' : ¬ (b.length : Int) < 8 := by omega
  have HV : Hid (bits BinOp.or IntKind.i64 (bits BinOp.or IntKind.i64 (bits BinOp.or IntKind.i64 (wrap64 (wrap64 (b[0].toNat : Int) * 16777216)) (wrap64 (wrap64 (b[1].toNat : Int) * 65536))) (wrap64 (wrap64 (b[2].toNat : Int) * 256))) (wrap64 (b[3].toNat : Int)) = (N : Int)) := Lib.hid (by
    rw [num_or64 _ _ _ _ (UInt8.toNat_lt _) (UInt8.toNat_lt _) (UInt8.toNat_lt _) (UInt8.toNat_lt _), ← hN]
    unfold getN; simp [List.getD, n0, n1, n2, n3])
  have hnl := getN_lt b
  have hN0 : (0 : Int) ≤ (N : Int) := by omega
  have hsub : IntKind.i64.wrap ((b.length : Int) - 8) = (b.length : Int) - 8 := by rw [IntKind.wrap_i64]; omega
  by_cases hbig : 65536 < N
  · have hbig' : (65536 : Int) < (N : Int) := by omega
    go_enter Tryd.func13, Tryd.ntmps13
    go_wp2_with fail
    go_quiet (fail)
    rw [HV.out]
    go_wp2
    go_ret3
    exact ⟨rfl, below_drewN (Below.refl _ _) _⟩
  · have hbig' : ¬ (65536 : Int) < (N : Int) := by omega
    have hsh : (b.length : Int) - 8 < (N : Int) := by omega
    go_enter Tryd.func13, Tryd.ntmps13
    go_wp2_with fail
    go_quiet (fail)
    rw [HV.out]
    go_wp2
    go_ret3
    exact ⟨rfl, below_drewN (Below.refl _ _) _⟩
set_option maxHeartbeats 4000000 in
set_option maxRecDepth 20000 in
theorem rf_frame (g o : Nat) (b : List UInt8) (n c N : Nat) (p T : List UInt8) (bv : Bool) (w : World) (hbn : b.length = n) (hN : getN b = N) (hb : Byt w (some ⟨g, o, none⟩) b) (h8 : ¬ n < 8) (hc : n ≤ c) (hcm : c ≤ maxLen) (hbig : ¬ 65536 < N) (hsh : ¬ n < 8 + N) (hc8 : c ≠ 8)
    (hp : payB b = p) (hT : b.take (8 + N) = T) (hbv : (frameB p != T) = bv) :
    Calls Tryd.prog 13 #[.slice (some ⟨g, o, none⟩) n c] w (RfPost bv N (8 + N : Nat) p w) := by
  subst hbn
  obtain ⟨i0, hi0, hz0, hz1, hz2⟩ := info_parts u8_info
  unfold maxLen at hcm
  have H65 : Hid (N ≤ 65536) := Lib.hid (by omega)
  have hpl : p.length = N := by rw [← hp]; unfold payB; rw [List.length_take, List.length_drop]; omega
  have hTl : T.length = 8 + N := by rw [← hT, List.length_take]; omega
  have HB := Lib.hid hb
  have HP : Hid (∀ V, Below w.heap.size w V → Byt V (some ⟨g, o + 8, none⟩) p) := Lib.hid (fun V h => by rw [← hp]; unfold payB; exact ((hb.later h).drop 8).take _)
  have HCT0 : Hid (∀ V, Below w.heap.size w V → (convert 22 9 (.slice (some ⟨g, o, none⟩) (8 + N) c)).run Tryd.prog V = .ok (.string ⟨T.toArray⟩) V) := Lib.hid (fun V h => by
    have := run_convert_byt (P := Tryd.prog) Tryd.underlying22 Tryd.underlying5 Tryd.underlying9 c ((hb.later h).take (8 + N))
    rw [hT, hTl] at this; exact this)
  have HFr0 : Hid (∀ V, Below w.heap.size w V → Calls Tryd.prog 11 #[.slice (some ⟨g, o + 8, none⟩) N (c - 8)] V (FramePost p V)) := Lib.hid (fun V h => frame_any _ p N (c - 8) V hpl (HP.out V h) (by omega))
  have hcmp : ((⟨(frameB p).toArray⟩ : ByteArray).toList == (⟨T.toArray⟩ : ByteArray).toList) = !bv := by
    rw [← hbv]; simp [bne, ByteArray.toList_eq]
  have hcmp2 : (frameB p == T) = !bv := by rw [← hbv]; simp [bne]
  clear hp hT hbv
  have c0 := hb.at_ (k := 0) (by omega)
  have c1 := hb.at_ (k := 1) (by omega)
  have c2 := hb.at_ (k := 2) (by omega)
  have c3 := hb.at_ (k := 3) (by omega)
  rw [Nat.add_zero] at c0
  have n0 : 0 < b.length := by omega
  have n1 : 1 < b.length := by omega
  have n2 : 2 < b.length := by omega
  have n3 : 3 < b.length := by omega
  have h0' : (0 : Int) < (b.length : Int) := by omega
  have h1' : (1 : Int) < (b.length : Int) := by omega
  have h2' : (2 : Int) < (b.length : Int) := by omega
  have h3' : (3 : Int) < (b.length : Int) := by omega
  have h8' : ¬ (b.length : Int) < 8 := by omega
  have HV : Hid (bits BinOp.or IntKind.i64 (bits BinOp.or IntKind.i64 (bits BinOp.or IntKind.i64 (wrap64 (wrap64 (b[0].toNat : Int) * 16777216)) (wrap64 (wrap64 (b[1].toNat : Int) * 65536))) (wrap64 (wrap64 (b[2].toNat : Int) * 256))) (wrap64 (b[3].toNat : Int)) = (N : Int)) := Lib.hid (by
    rw [num_or64 _ _ _ _ (UInt8.toNat_lt _) (UInt8.toNat_lt _) (UInt8.toNat_lt _) (UInt8.toNat_lt _), ← hN]
    unfold getN; simp [List.getD, n0, n1, n2, n3])
  clear hb hN
  have hN0 : (0 : Int) ≤ (N : Int) := by omega
  have hbig' : ¬ (65536 : Int) < (N : Int) := by omega
  have hsub : IntKind.i64.wrap ((b.length : Int) - 8) = (b.length : Int) - 8 := by rw [IntKind.wrap_i64]; omega
  have hsh' : ¬ (b.length : Int) - 8 < (N : Int) := by omega
  have hwN : IntKind.i64.wrap (8 + (N : Int)) = 8 + (N : Int) := by rw [IntKind.wrap_i64]; omega
  have hwN2 : wrap64 (8 + (N : Int)) = 8 + (N : Int) := by unfold wrap64; omega
  have hge : (8 : Int) ≤ 8 + (N : Int) := by omega
  have hge0 : (0 : Int) ≤ 8 + (N : Int) := by omega
  have hle : 8 + (N : Int) ≤ (c : Int) := by omega
  have htn : (8 + (N : Int)).toNat = 8 + N := by omega
  have hc8' : ¬ 8 = c := fun h => hc8 h.symm
  go_enter Tryd.func13, Tryd.ntmps13
  go_wp2_with fail
  go_quiet (fail)
  rw [HV.out]
  clear HV c0 c1 c2 c3
  go_wp2_with fail
  refine at_world (C := fun V => Code.wp _ _ _ _ V) (P := fun V => Below w.heap.size w V) (below_drewN (Below.refl _ _) _) (fun W0 hW0 => ?_)
  have HBW := Lib.hid hW0
  have HCT := Lib.hid (fun V (h : Below W0.heap.size W0 V) => HCT0.out V (HBW.out.trans (h.mono HBW.out.size)))
  have HFr := Lib.hid (fun V (h : Below W0.heap.size W0 V) => HFr0.out V (HBW.out.trans (h.mono HBW.out.size)))
  clear hW0 HCT0 HFr0
  refine wp_region_held_drew (S := (fun w' => (convert 22 9 (.slice (some ⟨g, o, none⟩) (8 + N) c)).run Tryd.prog w' = .ok (.string ⟨T.toArray⟩) w' ∧ Below W0.heap.size W0 w')) (by kernel_rfl) ⟨HCT.out _ (Below.refl _ _).drew, (Below.refl _ _).drew⟩ (fun hHeld => ?_)
  refine wpAnyH_take (i := 0) (v := ?vv1) rfl (by kernel_rfl) (by kernel_rfl) (by kernel_rfl) (fun _ _ _ h => h) (Or.inl ⟨by rfl, ?hy1⟩) hHeld ?rr1
  case hy1 => (intro w' hSw; obtain ⟨g0, g1⟩ := hSw; go_simp; try with_reducible rfl)
  try simp only [Act.put, List.setIfInBounds_toArray, List.set_cons_zero, List.set_cons_succ, List.getElem_toArray, List.getElem_cons_succ, List.getElem_cons_zero]
  refine wpAnyH_take (i := 1) (v := ?vv2) rfl (by kernel_rfl) (by kernel_rfl) (by kernel_rfl) (fun _ _ _ h => h) (Or.inl ⟨by rfl, ?hy2⟩) hHeld ?rr2
  case hy2 => (intro w' hSw; obtain ⟨g0, g1⟩ := hSw; go_simp; try with_reducible rfl)
  try simp only [Act.put, List.setIfInBounds_toArray, List.set_cons_zero, List.set_cons_succ, List.getElem_toArray, List.getElem_cons_succ, List.getElem_cons_zero]
  refine wpAnyH_take (i := 2) (v := ?vv3) rfl (by kernel_rfl) (by kernel_rfl) (by kernel_rfl) (fun _ _ _ h => h) (Or.inl ⟨by rfl, ?hy3⟩) hHeld ?rr3
  case hy3 => (intro w' hSw; obtain ⟨g0, g1⟩ := hSw; go_simp; try with_reducible rfl)
  try simp only [Act.put, List.setIfInBounds_toArray, List.set_cons_zero, List.set_cons_succ, List.getElem_toArray, List.getElem_cons_succ, List.getElem_cons_zero]
  refine wpAnyH_take (i := 3) (v := ?vv4) rfl (by kernel_rfl) (by kernel_rfl) (by kernel_rfl) (fun _ _ _ h => h) (Or.inl ⟨by rfl, ?hy4⟩) hHeld ?rr4
  case hy4 => (intro w' hSw; obtain ⟨g0, g1⟩ := hSw; go_simp; try with_reducible rfl)
  try simp only [Act.put, List.setIfInBounds_toArray, List.set_cons_zero, List.set_cons_succ, List.getElem_toArray, List.getElem_cons_succ, List.getElem_cons_zero]
  refine wpAnyH_take (i := 6) (v := ?vv5) rfl (by kernel_rfl) (by kernel_rfl) (by kernel_rfl) (fun _ _ _ h => h) (Or.inl ⟨by rfl, ?hy5⟩) hHeld ?rr5
  case hy5 => (intro w' hSw; obtain ⟨g0, g1⟩ := hSw; go_simp; try with_reducible rfl)
  try simp only [Act.put, List.setIfInBounds_toArray, List.set_cons_zero, List.set_cons_succ, List.getElem_toArray, List.getElem_cons_succ, List.getElem_cons_zero]
  refine wpAnyH_take (i := 7) (v := ?vv6) rfl (by kernel_rfl) (by kernel_rfl) (by kernel_rfl) (fun _ _ _ h => h) (Or.inl ⟨by rfl, ?hy6⟩) hHeld ?rr6
  case hy6 => (intro w' hSw; obtain ⟨g0, g1⟩ := hSw; go_simp; try with_reducible rfl)
  try simp only [Act.put, List.setIfInBounds_toArray, List.set_cons_zero, List.set_cons_succ, List.getElem_toArray, List.getElem_cons_succ, List.getElem_cons_zero]
  refine wpAnyH_take (i := 8) (v := ?vv7) rfl (by kernel_rfl) (by kernel_rfl) (by kernel_rfl) (fun _ _ _ h => h) (Or.inl ⟨by rfl, ?hy7⟩) hHeld ?rr7
  case hy7 => (intro w' hSw; obtain ⟨g0, g1⟩ := hSw; go_simp; try with_reducible rfl)
  try simp only [Act.put, List.setIfInBounds_toArray, List.set_cons_zero, List.set_cons_succ, List.getElem_toArray, List.getElem_cons_succ, List.getElem_cons_zero]
  refine wpAnyH_take (i := 9) (v := ?vv8) rfl (by kernel_rfl) (by kernel_rfl) (by kernel_rfl) (fun _ _ _ h => h) (Or.inl ⟨by rfl, ?hy8⟩) hHeld ?rr8
  case hy8 => (intro w' hSw; obtain ⟨g0, g1⟩ := hSw; go_simp; try with_reducible rfl)
  try simp only [Act.put, List.setIfInBounds_toArray, List.set_cons_zero, List.set_cons_succ, List.getElem_toArray, List.getElem_cons_succ, List.getElem_cons_zero]
  refine wpAnyH_take (i := 10) (v := ?vv9) rfl (by kernel_rfl) (by kernel_rfl) (by kernel_rfl) (fun _ _ _ h => h) (Or.inl ⟨by rfl, ?hy9⟩) hHeld ?rr9
  case hy9 => (intro w' hSw; obtain ⟨g0, g1⟩ := hSw; go_simp; try with_reducible rfl)
  try simp only [Act.put, List.setIfInBounds_toArray, List.set_cons_zero, List.set_cons_succ, List.getElem_toArray, List.getElem_cons_succ, List.getElem_cons_zero]
  refine wpAnyH_ready (rs := [4]) (by kernel_rfl) (by simp) ?_
  refine AllReadyH.cons rfl (fun K hK => ?_) AllReadyH.nil
  try rw [if_pos (by rfl)]
  go_simp
  go_at_call 11
  refine Calls.mono (by with_reducible exact HFr.out _ (Below.refl W0.heap.size W0).drew) ?_
  rintro e V9 ⟨g9, G9, rfl, hown9, hb9, _, _⟩
  have hB9 := Below.trans (Below.refl W0.heap.size W0).drew hb9
  have HY9 := Lib.hid (own_byt_any hown9)
  clear hown9
  go_wp2_with fail
  refine hK.out _ _ ⟨HCT.out _ hB9, hB9⟩ (fun hHeld2 => ?_)
  clear hK K hHeld
  have hHeld := hHeld2
  clear hHeld2
  try simp only [Act.put, List.setIfInBounds_toArray, List.set_cons_zero, List.set_cons_succ, List.getElem_toArray, List.getElem_cons_succ, List.getElem_cons_zero]
  refine wpAnyH_imp (S' := (fun w' => (convert 22 9 (.slice (some ⟨g9, 0, none⟩) (frameB p).length G9)).run Tryd.prog w' = .ok (.string ⟨(frameB p).toArray⟩) w' ∧ (convert 22 9 (.slice (some ⟨g, o, none⟩) (8 + N) c)).run Tryd.prog w' = .ok (.string ⟨T.toArray⟩) w' ∧ Below W0.heap.size W0 w')) (fun _ h => h.2) _ _ _ _ ?_
  have HD2 : Hid (∀ V, Below V9.heap.size V9 V → (fun w' => (convert 22 9 (.slice (some ⟨g9, 0, none⟩) (frameB p).length G9)).run Tryd.prog w' = .ok (.string ⟨(frameB p).toArray⟩) w' ∧ (convert 22 9 (.slice (some ⟨g, o, none⟩) (8 + N) c)).run Tryd.prog w' = .ok (.string ⟨T.toArray⟩) w' ∧ Below W0.heap.size W0 w') V) := Lib.hid (fun V h => ⟨run_convert_byt Tryd.underlying22 Tryd.underlying5 Tryd.underlying9 G9 (HY9.out.later h), HCT.out _ (hB9.trans (h.mono hB9.size)), hB9.trans (h.mono hB9.size)⟩)
  have hHeld2 : (fun w' => (convert 22 9 (.slice (some ⟨g9, 0, none⟩) (frameB p).length G9)).run Tryd.prog w' = .ok (.string ⟨(frameB p).toArray⟩) w' ∧ (convert 22 9 (.slice (some ⟨g, o, none⟩) (8 + N) c)).run Tryd.prog w' = .ok (.string ⟨T.toArray⟩) w' ∧ Below W0.heap.size W0 w') V9 := HD2.out _ (Below.refl _ _)
  clear hHeld
  have hHeld := hHeld2
  clear hHeld2
  refine wpAnyH_take (i := 5) (v := ?vv10) rfl (by kernel_rfl) (by kernel_rfl) (by kernel_rfl) (fun _ _ _ h => h) (Or.inl ⟨by rfl, ?hy10⟩) hHeld ?rr10
  case hy10 => (intro w' hSw; obtain ⟨gz, g0, g1⟩ := hSw; go_simp; try with_reducible rfl)
  try simp only [Act.put, List.setIfInBounds_toArray, List.set_cons_zero, List.set_cons_succ, List.getElem_toArray, List.getElem_cons_succ, List.getElem_cons_zero]
  refine wpAnyH_take (i := 11) (v := ?vv11) rfl (by kernel_rfl) (by kernel_rfl) (by kernel_rfl) (fun _ _ _ h => h) (Or.inl ⟨by rfl, ?hy11⟩) hHeld ?rr11
  case hy11 => (intro w' hSw; obtain ⟨gz, g0, g1⟩ := hSw; go_simp; try with_reducible rfl)
  try simp only [Act.put, List.setIfInBounds_toArray, List.set_cons_zero, List.set_cons_succ, List.getElem_toArray, List.getElem_cons_succ, List.getElem_cons_zero]
  refine wpAnyH_done (by kernel_rfl) ?_ _
  clear hHeld
  have Hpl := Lib.hid hpl
  clear hpl
  clear HCT HFr HD2 hbig hsh
  have HBE := Lib.hid (HBW.out.trans (hB9.mono HBW.out.size))
  clear hB9
  cases bv
  · go_wp2_with (at_builtin; refine wpList_append_byt _ rfl (.tmp 52) (.tmp 56) 22 rfl 5 i0 Tryd.underlying22 hi0 hz0 hz1 hz2 V9.heap.size _ [] rfl (World.ownsRow_made V9 #[] 0 (Nat.le_refl _) (Nat.zero_le _) rfl) (some ⟨g, o + 8, none⟩) (c - 8) p (by rw [Hpl.out]; rfl) (HP.out _ (HBE.out.alloc HBE.out.size _)) (by have := H65.out; have := Hpl.out; simp only [List.length_nil]; omega) (by simp) ?_; intro A2 c2 w2 hown2 hgrow2 _; simp only [List.nil_append] at hown2; rw [Hpl.out] at hown2; have HY2 := Lib.hid (own_wide hown2 HBE.out.size); have HB2 := Lib.hid ((HBE.out.alloc HBE.out.size _).grown hgrow2 (by have := HBE.out.size; simp; omega) (fun k e => by injection e with e; exact Nat.le_trans HBE.out.size (Nat.le_of_eq e))); clear hown2 hgrow2)
    go_ret3
    exact ⟨(fun h => by cases h), (fun _ => ⟨A2, c2, by simp [Hpl.out], HY2.out⟩), HB2.out⟩
  · go_wp2
    go_ret3
    exact ⟨(fun _ => rfl), (fun h => by cases h), HBE.out⟩
set_option maxHeartbeats 4000000 in
set_option maxRecDepth 20000 in
theorem rf_frame8 (g o : Nat) (b : List UInt8) (p T : List UInt8) (bv : Bool) (w : World) (hbn : b.length = 8) (hN : getN b = 0) (hb : Byt w (some ⟨g, o, none⟩) b)
    (hp : payB b = p) (hT : b.take 8 = T) (hbv : (frameB p != T) = bv) :
    Calls Tryd.prog 13 #[.slice (some ⟨g, o, none⟩) 8 8] w (RfPost bv 0 8 p w) := by
  obtain ⟨i0, hi0, hz0, hz1, hz2⟩ := info_parts u8_info
  have hpl : p = [] := List.eq_nil_of_length_eq_zero (by rw [← hp]; unfold payB; rw [List.length_take, List.length_drop]; omega)
  have hTl : T.length = 8 := by rw [← hT, List.length_take]; omega
  have HCT0 : Hid (∀ V, Below w.heap.size w V → (convert 22 9 (.slice (some ⟨g, o, none⟩) 8 8)).run Tryd.prog V = .ok (.string ⟨T.toArray⟩) V) := Lib.hid (fun V h => by
    have := run_convert_byt (P := Tryd.prog) Tryd.underlying22 Tryd.underlying5 Tryd.underlying9 8 ((hb.later h).take 8)
    rw [hT, hTl] at this; exact this)
  have HFr0 : Hid (∀ V, Below w.heap.size w V → Calls Tryd.prog 11 #[.slice (some ⟨g, o, none⟩) 0 0] V (FramePost p V)) := Lib.hid (fun V h => frame_any _ p 0 0 V (by rw [hpl]; rfl) (by rw [hpl]; exact Byt.nil _ _) (by omega))
  have hcmp : ((⟨(frameB p).toArray⟩ : ByteArray).toList == (⟨T.toArray⟩ : ByteArray).toList) = !bv := by
    rw [← hbv]; simp [bne, ByteArray.toList_eq]
  have hcmp2 : (frameB p == T) = !bv := by rw [← hbv]; simp [bne]
  have HP0 := Lib.hid hpl
  clear hp hT hbv hpl
  have c0 := hb.at_ (k := 0) (by omega)
  have c1 := hb.at_ (k := 1) (by omega)
  have c2 := hb.at_ (k := 2) (by omega)
  have c3 := hb.at_ (k := 3) (by omega)
  rw [Nat.add_zero] at c0
  have n0 : 0 < b.length := by omega
  have n1 : 1 < b.length := by omega
  have n2 : 2 < b.length := by omega
  have n3 : 3 < b.length := by omega
  have HV : Hid (bits BinOp.or IntKind.i64 (bits BinOp.or IntKind.i64 (bits BinOp.or IntKind.i64 (wrap64 (wrap64 (b[0].toNat : Int) * 16777216)) (wrap64 (wrap64 (b[1].toNat : Int) * 65536))) (wrap64 (wrap64 (b[2].toNat : Int) * 256))) (wrap64 (b[3].toNat : Int)) = 0) := Lib.hid (by
    rw [num_or64 _ _ _ _ (UInt8.toNat_lt _) (UInt8.toNat_lt _) (UInt8.toNat_lt _) (UInt8.toNat_lt _)]
    have e : getN b = b[0].toNat * 16777216 + b[1].toNat * 65536 + b[2].toNat * 256 + b[3].toNat := by unfold getN; simp [List.getD, n0, n1, n2, n3]
    rw [← e, hN]; rfl)
  have hw8 : IntKind.i64.wrap 8 = 8 := rfl
  clear hb hN
  go_enter Tryd.func13, Tryd.ntmps13
  go_wp2_with fail
  go_quiet (fail)
  rw [HV.out]
  clear HV c0 c1 c2 c3
  go_wp2_with fail
  refine at_world (C := fun V => Code.wp _ _ _ _ V) (P := fun V => Below w.heap.size w V) (below_drewN (Below.refl _ _) _) (fun W0 hW0 => ?_)
  have HBW := Lib.hid hW0
  have HCT := Lib.hid (fun V (h : Below W0.heap.size W0 V) => HCT0.out V (HBW.out.trans (h.mono HBW.out.size)))
  have HFr := Lib.hid (fun V (h : Below W0.heap.size W0 V) => HFr0.out V (HBW.out.trans (h.mono HBW.out.size)))
  clear hW0 HCT0 HFr0
  refine wp_region_held_drew (S := (fun w' => (convert 22 9 (.slice (some ⟨g, o, none⟩) 8 8)).run Tryd.prog w' = .ok (.string ⟨T.toArray⟩) w' ∧ Below W0.heap.size W0 w')) (by kernel_rfl) ⟨HCT.out _ (Below.refl _ _).drew, (Below.refl _ _).drew⟩ (fun hHeld => ?_)
  refine wpAnyH_take (i := 0) (v := ?vv12) rfl (by kernel_rfl) (by kernel_rfl) (by kernel_rfl) (fun _ _ _ h => h) (Or.inl ⟨by rfl, ?hy12⟩) hHeld ?rr12
  case hy12 => (intro w' hSw; obtain ⟨g0, g1⟩ := hSw; go_simp; try with_reducible rfl)
  try simp only [Act.put, List.setIfInBounds_toArray, List.set_cons_zero, List.set_cons_succ, List.getElem_toArray, List.getElem_cons_succ, List.getElem_cons_zero]
  refine wpAnyH_take (i := 1) (v := ?vv13) rfl (by kernel_rfl) (by kernel_rfl) (by kernel_rfl) (fun _ _ _ h => h) (Or.inl ⟨by rfl, ?hy13⟩) hHeld ?rr13
  case hy13 => (intro w' hSw; obtain ⟨g0, g1⟩ := hSw; go_simp; try with_reducible rfl)
  try simp only [Act.put, List.setIfInBounds_toArray, List.set_cons_zero, List.set_cons_succ, List.getElem_toArray, List.getElem_cons_succ, List.getElem_cons_zero]
  refine wpAnyH_take (i := 2) (v := .int .i64 8) rfl (by kernel_rfl) (by kernel_rfl) (by kernel_rfl) (fun _ _ _ h => h) (Or.inl ⟨by rfl, ?hy14⟩) hHeld ?rr14
  case hy14 => (intro w' hSw; obtain ⟨g0, g1⟩ := hSw; go_simp; try with_reducible rfl)
  try simp only [Act.put, List.setIfInBounds_toArray, List.set_cons_zero, List.set_cons_succ, List.getElem_toArray, List.getElem_cons_succ, List.getElem_cons_zero]
  refine wpAnyH_take (i := 3) (v := .slice (some ⟨g, o, none⟩) 0 0) rfl (by kernel_rfl) (by kernel_rfl) (by kernel_rfl) (fun _ _ _ h => h) (Or.inl ⟨by rfl, ?hy15⟩) hHeld ?rr15
  case hy15 => (intro w' hSw; obtain ⟨g0, g1⟩ := hSw; go_simp; try with_reducible rfl)
  try simp only [Act.put, List.setIfInBounds_toArray, List.set_cons_zero, List.set_cons_succ, List.getElem_toArray, List.getElem_cons_succ, List.getElem_cons_zero]
  refine wpAnyH_take (i := 6) (v := ?vv16) rfl (by kernel_rfl) (by kernel_rfl) (by kernel_rfl) (fun _ _ _ h => h) (Or.inl ⟨by rfl, ?hy16⟩) hHeld ?rr16
  case hy16 => (intro w' hSw; obtain ⟨g0, g1⟩ := hSw; go_simp; try with_reducible rfl)
  try simp only [Act.put, List.setIfInBounds_toArray, List.set_cons_zero, List.set_cons_succ, List.getElem_toArray, List.getElem_cons_succ, List.getElem_cons_zero]
  refine wpAnyH_take (i := 7) (v := ?vv17) rfl (by kernel_rfl) (by kernel_rfl) (by kernel_rfl) (fun _ _ _ h => h) (Or.inl ⟨by rfl, ?hy17⟩) hHeld ?rr17
  case hy17 => (intro w' hSw; obtain ⟨g0, g1⟩ := hSw; go_simp; try with_reducible rfl)
  try simp only [Act.put, List.setIfInBounds_toArray, List.set_cons_zero, List.set_cons_succ, List.getElem_toArray, List.getElem_cons_succ, List.getElem_cons_zero]
  refine wpAnyH_take (i := 8) (v := .int .i64 8) rfl (by kernel_rfl) (by kernel_rfl) (by kernel_rfl) (fun _ _ _ h => h) (Or.inl ⟨by rfl, ?hy18⟩) hHeld ?rr18
  case hy18 => (intro w' hSw; obtain ⟨g0, g1⟩ := hSw; go_simp; try with_reducible rfl)
  try simp only [Act.put, List.setIfInBounds_toArray, List.set_cons_zero, List.set_cons_succ, List.getElem_toArray, List.getElem_cons_succ, List.getElem_cons_zero]
  refine wpAnyH_take (i := 9) (v := .slice (some ⟨g, o, none⟩) 8 8) rfl (by kernel_rfl) (by kernel_rfl) (by kernel_rfl) (fun _ _ _ h => h) (Or.inl ⟨by rfl, ?hy19⟩) hHeld ?rr19
  case hy19 => (intro w' hSw; obtain ⟨g0, g1⟩ := hSw; go_simp; try with_reducible rfl)
  try simp only [Act.put, List.setIfInBounds_toArray, List.set_cons_zero, List.set_cons_succ, List.getElem_toArray, List.getElem_cons_succ, List.getElem_cons_zero]
  refine wpAnyH_take (i := 10) (v := ?vv20) rfl (by kernel_rfl) (by kernel_rfl) (by kernel_rfl) (fun _ _ _ h => h) (Or.inl ⟨by rfl, ?hy20⟩) hHeld ?rr20
  case hy20 => (intro w' hSw; obtain ⟨g0, g1⟩ := hSw; go_simp; try with_reducible rfl)
  try simp only [Act.put, List.setIfInBounds_toArray, List.set_cons_zero, List.set_cons_succ, List.getElem_toArray, List.getElem_cons_succ, List.getElem_cons_zero]
  refine wpAnyH_ready (rs := [4]) (by kernel_rfl) (by simp) ?_
  refine AllReadyH.cons rfl (fun K hK => ?_) AllReadyH.nil
  try rw [if_pos (by rfl)]
  go_simp
  go_at_call 11
  refine Calls.mono (by with_reducible exact HFr.out _ (Below.refl W0.heap.size W0).drew) ?_
  rintro e V9 ⟨g9, G9, rfl, hown9, hb9, _, _⟩
  have hB9 := Below.trans (Below.refl W0.heap.size W0).drew hb9
  have HY9 := Lib.hid (own_byt_any hown9)
  clear hown9
  go_wp2_with fail
  refine hK.out _ _ ⟨HCT.out _ hB9, hB9⟩ (fun hHeld2 => ?_)
  clear hK K hHeld
  have hHeld := hHeld2
  clear hHeld2
  try simp only [Act.put, List.setIfInBounds_toArray, List.set_cons_zero, List.set_cons_succ, List.getElem_toArray, List.getElem_cons_succ, List.getElem_cons_zero]
  refine wpAnyH_imp (S' := (fun w' => (convert 22 9 (.slice (some ⟨g9, 0, none⟩) (frameB p).length G9)).run Tryd.prog w' = .ok (.string ⟨(frameB p).toArray⟩) w' ∧ (convert 22 9 (.slice (some ⟨g, o, none⟩) 8 8)).run Tryd.prog w' = .ok (.string ⟨T.toArray⟩) w' ∧ Below W0.heap.size W0 w')) (fun _ h => h.2) _ _ _ _ ?_
  have HD2 : Hid (∀ V, Below V9.heap.size V9 V → (fun w' => (convert 22 9 (.slice (some ⟨g9, 0, none⟩) (frameB p).length G9)).run Tryd.prog w' = .ok (.string ⟨(frameB p).toArray⟩) w' ∧ (convert 22 9 (.slice (some ⟨g, o, none⟩) 8 8)).run Tryd.prog w' = .ok (.string ⟨T.toArray⟩) w' ∧ Below W0.heap.size W0 w') V) := Lib.hid (fun V h => ⟨run_convert_byt Tryd.underlying22 Tryd.underlying5 Tryd.underlying9 G9 (HY9.out.later h), HCT.out _ (hB9.trans (h.mono hB9.size)), hB9.trans (h.mono hB9.size)⟩)
  have hHeld2 : (fun w' => (convert 22 9 (.slice (some ⟨g9, 0, none⟩) (frameB p).length G9)).run Tryd.prog w' = .ok (.string ⟨(frameB p).toArray⟩) w' ∧ (convert 22 9 (.slice (some ⟨g, o, none⟩) 8 8)).run Tryd.prog w' = .ok (.string ⟨T.toArray⟩) w' ∧ Below W0.heap.size W0 w') V9 := HD2.out _ (Below.refl _ _)
  clear hHeld
  have hHeld := hHeld2
  clear hHeld2
  refine wpAnyH_take (i := 5) (v := ?vv21) rfl (by kernel_rfl) (by kernel_rfl) (by kernel_rfl) (fun _ _ _ h => h) (Or.inl ⟨by rfl, ?hy21⟩) hHeld ?rr21
  case hy21 => (intro w' hSw; obtain ⟨gz, g0, g1⟩ := hSw; go_simp; try with_reducible rfl)
  try simp only [Act.put, List.setIfInBounds_toArray, List.set_cons_zero, List.set_cons_succ, List.getElem_toArray, List.getElem_cons_succ, List.getElem_cons_zero]
  refine wpAnyH_take (i := 11) (v := ?vv22) rfl (by kernel_rfl) (by kernel_rfl) (by kernel_rfl) (fun _ _ _ h => h) (Or.inl ⟨by rfl, ?hy22⟩) hHeld ?rr22
  case hy22 => (intro w' hSw; obtain ⟨gz, g0, g1⟩ := hSw; go_simp; try with_reducible rfl)
  try simp only [Act.put, List.setIfInBounds_toArray, List.set_cons_zero, List.set_cons_succ, List.getElem_toArray, List.getElem_cons_succ, List.getElem_cons_zero]
  refine wpAnyH_done (by kernel_rfl) ?_ _
  clear hHeld
  clear HCT HFr HD2
  have HBE := Lib.hid (HBW.out.trans (hB9.mono HBW.out.size))
  clear hB9
  cases bv
  · go_wp2_with (at_builtin; refine wpList_append_byt _ rfl (.tmp 52) (.tmp 56) 22 rfl 5 i0 Tryd.underlying22 hi0 hz0 hz1 hz2 V9.heap.size _ [] rfl (World.ownsRow_made V9 #[] 0 (Nat.le_refl _) (Nat.zero_le _) rfl) (some ⟨g, o, none⟩) 0 [] rfl (Byt.nil _ _) (by simp) (by simp) ?_; intro A2 c2 w2 hown2 hgrow2 _; have HY2 := Lib.hid (own_wide hown2 HBE.out.size); have HB2 := Lib.hid ((HBE.out.alloc HBE.out.size _).grown hgrow2 (by have := HBE.out.size; simp; omega) (fun k e => by injection e with e; exact Nat.le_trans HBE.out.size (Nat.le_of_eq e))); clear hown2 hgrow2)
    go_ret3
    exact ⟨(fun h => by cases h), (fun _ => ⟨A2, c2, rfl, by rw [HP0.out]; exact HY2.out⟩), HB2.out⟩
  · go_wp2
    go_ret3
    exact ⟨(fun _ => rfl), (fun h => by cases h), HBE.out⟩
theorem rf_any (A : Option Addr) (b : List UInt8) (n c : Nat) (w : World) (hbn : b.length = n) (hb : Byt w A b) (hc : n ≤ c) (hcm : c ≤ maxLen) :
    Calls Tryd.prog 13 #[.slice A n c] w (RefFirstPost b w) := by
  by_cases h8 : n < 8
  · have e : firstSz b = 0 := by unfold firstSz; rw [if_pos (by omega)]
    exact (rf_none A n c w h8).mono fun _ _ h => ⟨(fun _ => h.1), (fun h0 => absurd e h0), h.2⟩
  by_cases hbad : 65536 < getN b ∨ n < 8 + getN b
  · have e : firstSz b = 0 := by unfold firstSz; rw [if_neg (by omega), if_pos (by omega)]
    exact (rf_sizes A b n c (getN b) w hbn rfl hb h8 hc hcm hbad).mono fun _ _ h => ⟨(fun _ => h.1), (fun h0 => absurd e h0), h.2⟩
  obtain ⟨hs1, hs2⟩ := firstSz_ref (b := b) (by omega) (by omega) (by omega)
  obtain ⟨g, o, rfl, _⟩ := hb 0 (by omega)
  by_cases hc8 : c = 8
  · subst hc8
    have hn8 : n = 8 := by omega
    subst hn8
    have hg0 : getN b = 0 := by omega
    rw [hg0] at hs1 hs2
    refine (rf_frame8 g o b (payB b) (b.take 8) _ w hbn hg0 hb rfl rfl rfl).mono fun e w' h => ⟨fun hz => h.1 ?_, fun hz => ?_, h.2.2⟩
    · rw [bne_iff_ne]; intro hq; have := hs1 hq; omega
    · have hq : frameB (payB b) = b.take 8 := Classical.byContradiction fun hq => hz (hs2 hq)
      obtain ⟨A2, c2, he, hy⟩ := h.2.1 (by rw [hq]; simp)
      exact ⟨A2, c2, by rw [he, hs1 hq]; rfl, by rw [hs1 hq]; exact hy⟩
  · refine (rf_frame g o b n c (getN b) (payB b) (b.take (8 + getN b)) _ w hbn rfl hb h8 hc hcm (by omega) (by omega) hc8 rfl rfl rfl).mono fun e w' h => ⟨fun hz => h.1 ?_, fun hz => ?_, h.2.2⟩
    · rw [bne_iff_ne]; intro hq; have := hs1 hq; omega
    · have hq : frameB (payB b) = b.take (8 + getN b) := Classical.byContradiction fun hq => hz (hs2 hq)
      obtain ⟨A2, c2, he, hy⟩ := h.2.1 (by rw [hq]; simp)
      exact ⟨A2, c2, by rw [he, hs1 hq]; simp, by rw [hs1 hq, show 8 + getN b - 8 = getN b by omega]; exact hy⟩
end Go.Proofs.YtilbmbheancciaaDoor
