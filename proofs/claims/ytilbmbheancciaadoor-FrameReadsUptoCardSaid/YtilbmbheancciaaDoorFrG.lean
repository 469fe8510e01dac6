/- Walks of package frame: Size, Put; of the reference: four, Frame. -/
import Derived.Test.YtilbmbheancciaaDoorFrF
set_option linter.unusedSimpArgs false
set_option linter.unusedVariables false
namespace Go.Proofs.YtilbmbheancciaaDoor
open Go.ChangeShapes Go.WideShapes Go.ChangeAt Go.RowKit Go.Base Go.Mx Go.Fr

theorem num4_byt {w : World} {g : Nat} {k : Nat} {t : TypeId} {z : Nat × Nat} (h : w.heap[g]? = some (.cells ((num4 k).map u8v).toArray t z)) : Byt w (some ⟨g, 0, none⟩) (num4 k) :=
  byt_of_heap h (by rw [List.toList_toArray, List.take_of_length_le (by simp)])
theorem size_long (A : Option Addr) (n c : Nat) (w : World) (hn : 65536 < n) (hm : n ≤ 9223372036854775807) : Calls Tryd.prog 10 #[.slice A n c] w fun e w' => e = .returned (.int .i64 0) ∧ w = w' := by
  have hn' : (65536 : Int) < (n : Int) := by omega
  go_enter Tryd.func10, Tryd.ntmps10
  go_wp2
  go_ret
  exact ⟨rfl, rfl⟩
theorem size_ok (A : Option Addr) (n c : Nat) (w : World) (hn : ¬ 65536 < n) : Calls Tryd.prog 10 #[.slice A n c] w fun e w' => e = .returned (.int .i64 (8 + n : Int)) ∧ w = w' := by
  have hn' : (n : Int) ≤ 65536 := by omega
  go_enter Tryd.func10, Tryd.ntmps10
  go_wp2
  go_ret
  exact ⟨rfl, rfl⟩
def PutPost (b p : List UInt8) (w : World) (e : Ending) (w' : World) : Prop :=
  (65536 < p.length → e = .returned (.tuple #[.slice none 0 0, .int .i64 3])) ∧
  (¬ 65536 < p.length → ∃ g G, e = .returned (.tuple #[.slice (some ⟨g, 0, none⟩) (b ++ frameB p).length G, .int .i64 0]) ∧ w.heap.size ≤ g ∧ w'.ownsRow w.heap.size 5 1 (.slice (some ⟨g, 0, none⟩) (b ++ frameB p).length G) (b ++ frameB p).length ((b ++ frameB p).map u8v) ∧ (b ++ frameB p).length ≤ G ∧ G ≤ maxLen) ∧ Below w.heap.size w w'
theorem four_parts {w : World} {g : Nat} {A B C D : Option Addr} {x y z u : List UInt8} {n1 n2 n3 n4 c1 c2 c3 c4 : Nat} (h : w.heap[g]? = some (.cells #[.slice A n1 c1, .slice B n2 c2, .slice C n3 c3, .slice D n4 c4] 22 (0, 0))) (h1 : n1 = x.length) (h2 : n2 = y.length) (h3 : n3 = z.length) (h4 : n4 = u.length)
    (ha : Byt w A x) (hb : Byt w B y) (hc : Byt w C z) (hd : Byt w D u) (l1 : x.length ≤ maxLen) (l2 : y.length ≤ maxLen) (l3 : z.length ≤ maxLen) (l4 : u.length ≤ maxLen) : Parts w (some ⟨g, 0, none⟩) [x, y, z, u] := fun i hi => by
  subst h1; subst h2; subst h3; subst h4
  have hcl := (cells_of_heap h).1
  match i, hi with
  | 0, _ => exact ⟨g, 0, A, c1, rfl, by rw [Nat.zero_add, hcl]; rfl, ha, l1⟩
  | 1, _ => exact ⟨g, 0, B, c2, rfl, by rw [Nat.zero_add, hcl]; rfl, hb, l2⟩
  | 2, _ => exact ⟨g, 0, C, c3, rfl, by rw [Nat.zero_add, hcl]; rfl, hc, l3⟩
  | 3, _ => exact ⟨g, 0, D, c4, rfl, by rw [Nat.zero_add, hcl]; rfl, hd, l4⟩
set_option maxHeartbeats 2000000 in
theorem put_long (A B : Option Addr) (n m c d : Nat) (w : World) (hl : 65536 < m) (hm : m ≤ 9223372036854775807) :
    Calls Tryd.prog 8 #[.slice A n c, .slice B m d] w fun e w' => e = .returned (.tuple #[.slice none 0 0, .int .i64 3]) ∧ Below w.heap.size w w' := by
  have HS := Lib.hid (size_long B m d w hl hm)
  go_enter Tryd.func8, Tryd.ntmps8
  go_wp2_with (go_at_call 10; refine Calls.mono (by with_reducible exact HS.out) ?_; rintro e w1 ⟨rfl, rfl⟩)
  go_ret2
  exact ⟨rfl, Below.refl _ _⟩
set_option maxHeartbeats 4000000 in
theorem put_any (A B : Option Addr) (b p : List UInt8) (n m c d : Nat) (w : World) (hn : b.length = n) (hm : p.length = m) (hT : Tab w) (hb : Byt w A b) (hp : Byt w B p) (h48 : n ≤ 140737488355328) (h63 : m ≤ 9223372036854775807) :
    Calls Tryd.prog 8 #[.slice A n c, .slice B m d] w (PutPost b p w) := by
  by_cases hl : 65536 < m
  · exact (put_long A B n m c d w hl h63).mono fun e w' ⟨he, hbw⟩ => ⟨fun _ => he, fun h => absurd (by omega) h, hbw⟩
  have HS := Lib.hid (size_ok B m d w hl)
  have HP1 := Lib.hid (putNumber_any m w (by omega))
  have HB := Lib.hid hb
  have HP := Lib.hid hp
  have HT := Lib.hid hT
  have HN := Lib.hid (And.intro hn hm)
  have HFr : Hid (frameB p = num4 m ++ num4 (sumF p) ++ p) := Lib.hid (by unfold frameB; rw [hm])
  have HSm : Hid (sumF p = sum (num4 m ++ p)) := Lib.hid (by unfold sumF; rw [hm])
  have hl' : (m : Int) ≤ 65536 := by omega
  have hne : ((8 : Int) + (m : Int) == 0) = false := by simp only [beq_eq_false_iff_ne]; omega
  have hmw : (m : Int) % 4294967296 = (m : Int) := by omega
  have HSum : Hid (∀ V h, Below w.heap.size w V → ∀ (g : Nat), V.heap[g]? = some (.cells ((num4 m).map u8v).toArray 5 (0, 0)) → V.heap[h]? = some (.cells #[.slice (some ⟨g, 0, none⟩) 4 4, .slice B m d] 22 (0, 0)) →
      Calls Tryd.prog 18 #[.slice (some ⟨h, 0, none⟩) 2 2] V fun e w' => e = .returned (.int .u32 (sumF p : Nat)) ∧ V = w') := Lib.hid (fun V h hv g hg hh => by
    have := sum_any (some ⟨h, 0, none⟩) [num4 m, p] 2 V (HT.out.later hv) (two_parts hh (num4_len m).symm hm.symm (num4_byt hg) (HP.out.later hv) (by rw [num4_len]; unfold maxLen; decide) (by rw [hm]; unfold maxLen; omega)) (by show 2 ≤ maxLen; unfold maxLen; decide)
    simp only [List.flatten_cons, List.flatten_nil, List.append_nil] at this
    rw [← HSm.out] at this
    exact this)
  have HPs := Lib.hid (fun V => putNumber_any (sumF p) V (sumF_lt p))
  have HCat : Hid (∀ V h, Below w.heap.size w V → ∀ (g1 g2 : Nat), V.heap[g1]? = some (.cells ((num4 m).map u8v).toArray 5 (0, 0)) → V.heap[g2]? = some (.cells ((num4 (sumF p)).map u8v).toArray 5 (0, 0)) →
      V.heap[h]? = some (.cells #[.slice A n c, .slice (some ⟨g1, 0, none⟩) 4 4, .slice (some ⟨g2, 0, none⟩) 4 4, .slice B m d] 22 (0, 0)) →
      Calls Tryd.prog 19 #[.slice (some ⟨h, 0, none⟩) 4 4] V (CatPost [b, num4 m, num4 (sumF p), p] V)) := Lib.hid (fun V h hv g1 g2 hg1 hg2 hh => by
    have hfl : ([b, num4 m, num4 (sumF p), p] : List (List UInt8)).flatten.length = n + 4 + 4 + m := by
      simp only [List.flatten_cons, List.flatten_nil, List.length_append, num4_len, List.length_nil, hn, hm]; omega
    refine concat_any (some ⟨h, 0, none⟩) [b, num4 m, num4 (sumF p), p] 4 4 V rfl (four_parts hh hn.symm (num4_len m).symm (num4_len _).symm hm.symm (HB.out.later hv) (num4_byt hg1) (num4_byt hg2) (HP.out.later hv) (by rw [hn]; unfold maxLen; omega) (by rw [num4_len]; unfold maxLen; decide) (by rw [num4_len]; unfold maxLen; decide) (by rw [hm]; unfold maxLen; omega)) ?_ ?_ (by omega)
    · rw [hfl]; omega
    · rw [hfl]; omega)
  have HFl : Hid ([b, num4 m, num4 (sumF p), p].flatten = b ++ frameB p) := Lib.hid (by rw [HFr.out]; simp)
  clear hb hp hT hn hm
  go_enter Tryd.func8, Tryd.ntmps8
  go_wp2_with (first
    | (go_at_call 10; refine Calls.mono (by with_reducible exact HS.out) ?_; rintro e w1 ⟨rfl, rfl⟩)
    | (go_at_call 17; refine Calls.mono (by with_reducible exact HP1.out) ?_; rintro e w2 ⟨rfl, hh, hb, hz⟩; have HH1 := Lib.hid hh; have HB1 := Lib.hid hb; clear hh hb hz; have HA1 := Lib.hid (HB1.out.alloc HB1.out.size (.cells #[.slice (some ⟨w.heap.size, 0, none⟩) 4 4, .slice B m d] 22)); have HH1a := Lib.hid (heap_old (.cells #[.slice (some ⟨w.heap.size, 0, none⟩) 4 4, .slice B m d] 22) (heap_lt HH1.out) HH1.out))
    | (go_at_call 18; refine Calls.mono (by with_reducible exact HSum.out _ _ HA1.out _ HH1a.out (heap_new _ _)) ?_; rintro e w3 ⟨rfl, rfl⟩)
    | (go_at_call 17; refine Calls.mono (by with_reducible exact HPs.out _) ?_; rintro e w4 ⟨rfl, hh, hb, hz⟩; simp only [World.size_alloc] at hh; have HH4 := Lib.hid hh; have HB4 := Lib.hid (HA1.out.trans (hb.mono HA1.out.size)); have HH1b := Lib.hid ((hb.block _ (heap_lt HH1a.out)).trans HH1a.out); clear hh hb hz)
    | (go_at_call 19; refine Calls.mono (by with_reducible exact HCat.out _ _ (HB4.out.alloc HB4.out.size _) _ _ (heap_old _ (heap_lt HH1b.out) HH1b.out) (heap_old _ (heap_lt HH4.out) HH4.out) (heap_new _ _)) ?_; rintro e w5 ⟨g5, G5, rfl, hg5, hown5, hb5, hG5, hGm5⟩; rw [HFl.out] at hown5 hG5 ⊢; have HO5 := Lib.hid hown5; have HB5 := Lib.hid ((HB4.out.alloc HB4.out.size _).trans (hb5.mono (HB4.out.alloc HB4.out.size _).size)); have HG5 := Lib.hid (And.intro hg5 (And.intro hG5 hGm5)); clear hg5 hown5 hb5 hG5 hGm5))
  go_ret2
  refine ⟨fun h => absurd (by have := HN.out.2; omega) hl, fun _ => ⟨g5, G5, by rw [List.length_append]; rfl, ?_, ?_, HG5.out.2.1, HG5.out.2.2⟩, HB5.out⟩
  · exact Nat.le_trans (HB4.out.alloc HB4.out.size _).size HG5.out.1
  · obtain ⟨h1, h2⟩ := HO5.out
    refine ⟨h1, ?_⟩
    rcases h2 with ⟨h2, _⟩ | ⟨g', cap', cur, e1, e2, e3⟩
    · cases h2
    · exact .inr ⟨g', cap', cur, e1, Nat.le_trans (HB4.out.alloc HB4.out.size _).size e2, e3⟩
end Go.Proofs.YtilbmbheancciaaDoor
