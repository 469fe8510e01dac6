/- Walks of package frame: numbers of four bytes. -/
import Derived.Test.YtilbmbheancciaaDoorMixS
import Derived.Laws.BitsAllLaws
set_option linter.unusedSimpArgs false
set_option linter.unusedVariables false
namespace Go.Fr
/-- The numbers of four bytes, the highest first. -/
def num4 (n : Nat) : List UInt8 := [UInt8.ofNat (n / 16777216), UInt8.ofNat (n / 65536), UInt8.ofNat (n / 256), UInt8.ofNat n]
def getN (b : List UInt8) : Nat := (b.getD 0 0).toNat * 16777216 + (b.getD 1 0).toNat * 65536 + (b.getD 2 0).toNat * 256 + (b.getD 3 0).toNat
theorem num4_len (n : Nat) : (num4 n).length = 4 := rfl
theorem getN_lt (b : List UInt8) : getN b < 4294967296 := by
  unfold getN
  have := (b.getD 0 0).toNat_lt; have := (b.getD 1 0).toNat_lt; have := (b.getD 2 0).toNat_lt; have := (b.getD 3 0).toNat_lt
  omega
theorem getN_num4 (n : Nat) (h : n < 4294967296) (r : List UInt8) : getN (num4 n ++ r) = n := by
  unfold getN num4
  simp [List.getD, UInt8.toNat_ofNat']
  omega
theorem num4_getN (a b c d : UInt8) : num4 (getN [a, b, c, d]) = [a, b, c, d] := by
  have ha := a.toNat_lt; have hb := b.toNat_lt; have hc := c.toNat_lt; have hd := d.toNat_lt
  have e : getN [a, b, c, d] = a.toNat * 16777216 + b.toNat * 65536 + c.toNat * 256 + d.toNat := by unfold getN; simp [List.getD]
  rw [e]
  unfold num4
  congr 1
  · exact UInt8.toNat_inj.1 (by simp only [UInt8.toNat_ofNat']; omega)
  congr 1
  · exact UInt8.toNat_inj.1 (by simp only [UInt8.toNat_ofNat']; omega)
  congr 1
  · exact UInt8.toNat_inj.1 (by simp only [UInt8.toNat_ofNat']; omega)
  congr 1
  · exact UInt8.toNat_inj.1 (by simp only [UInt8.toNat_ofNat']; omega)
theorem getN_take (b : List UInt8) (h : 4 ≤ b.length) : num4 (getN b) = b.take 4 := by
  match b, h with
  | a :: b :: c :: d :: r, _ =>
    have : getN (a :: b :: c :: d :: r) = getN [a, b, c, d] := by unfold getN; simp [List.getD]
    rw [this, num4_getN]; rfl
end Go.Fr
namespace Go.Proofs.YtilbmbheancciaaDoor
open Go.ChangeShapes Go.WideShapes Go.ChangeAt Go.RowKit Go.Base Go.Mx Go.Fr

theorem Byt.drop {w : World} {b o : Nat} {bs : List UInt8} (h : Byt w (some ⟨b, o, none⟩) bs) (k : Nat) : Byt w (some ⟨b, o + k, none⟩) (bs.drop k) := fun i hi => by
  rw [List.length_drop] at hi
  have := h.at_ (k := k + i) (by omega)
  refine ⟨b, o + k, rfl, ?_⟩
  rw [Nat.add_assoc, this]
  simp
theorem Byt.take {w : World} {A : Option Addr} {bs : List UInt8} (h : Byt w A bs) (k : Nat) : Byt w A (bs.take k) := fun i hi => by
  have hi' : i < bs.length := by rw [List.length_take] at hi; omega
  obtain ⟨b, o, e, c⟩ := h i hi'
  exact ⟨b, o, e, by rw [c]; simp⟩
theorem byt_of_heap {w : World} {g : Nat} {cs : Array Value} {t : TypeId} {z : Nat × Nat} {ys : List UInt8} (h : w.heap[g]? = some (.cells cs t z)) (ht : cs.toList.take ys.length = ys.map u8v) : Byt w (some ⟨g, 0, none⟩) ys := fun i hi => by
  refine ⟨g, 0, rfl, ?_⟩
  rw [Nat.zero_add, cell_of_row w g i cs t z h, ← Array.getElem?_toList]
  have : (cs.toList.take ys.length)[i]? = (ys.map u8v)[i]? := by rw [ht]
  rw [List.getElem?_take_of_lt hi, List.getElem?_map, List.getElem?_eq_getElem hi] at this
  exact this
theorem u8_info : (Tryd.prog.info? 5).map (fun i => (i.zero, i.size, i.bytes)) = some (some (.int .u8 0), 1, 1) := by kernel_rfl
/-- bytes.Clone: nil of nil, else a new row of the same bytes. -/
theorem clone_nil (c : Nat) (w : World) : Calls Tryd.prog 24 #[.slice none 0 c] w fun e w' => e = .returned (.slice none 0 0) ∧ w = w' := by
  have hsn := fun (w : World) (a : Option Addr) (n c n' c' : Nat) => Lib.run_eql_slice_nil (P := Tryd.prog) w 22 5 a n c n' c' Tryd.underlying22
  go_enter Tryd.func24, Tryd.ntmps24
  go_wp2
  go_ret
  exact ⟨rfl, rfl⟩
def ClonePost (w : World) (ys : List UInt8) (e : Ending) (w' : World) : Prop :=
  ∃ A c, e = .returned (.slice A ys.length c) ∧ Byt w' A ys ∧ Below w.heap.size w w' ∧ (∀ k, (Value.slice A ys.length c).ownBlock = some k → w.heap.size ≤ k ∧ k < w'.heap.size) ∧ ys.length ≤ c ∧ c ≤ maxLen
theorem own_cap {w : World} {base n cap : Nat} {e : TypeId} {A : Option Addr} {xs : List Value} (h : w.ownsRow base e 1 (.slice A n cap) n xs) : n ≤ cap ∧ cap ≤ maxLen := by
  rcases h.2 with ⟨h, rfl⟩ | ⟨g', cap', cur, hv, hb, hg, hn, hc, _⟩
  · injection h with _ _ h; subst h; exact ⟨Nat.le_refl _, Nat.zero_le _⟩
  · injection hv with _ _ hv; subst hv; exact ⟨hn, hc⟩
set_option maxHeartbeats 1000000 in
theorem clone_some (ad : Addr) (ys : List UInt8) (c : Nat) (w : World) (hy : Byt w (some ad) ys) (hm : ys.length ≤ 140737488355328) :
    Calls Tryd.prog 24 #[.slice (some ad) ys.length c] w (ClonePost w ys) := by
  have HY := Lib.hid hy
  obtain ⟨i0, hi0, hz0, hz1, hz2⟩ := info_parts u8_info
  clear hy
  have hsn := fun (w : World) (a : Option Addr) (n c n' c' : Nat) => Lib.run_eql_slice_nil (P := Tryd.prog) w 22 5 a n c n' c' Tryd.underlying22
  go_enter Tryd.func24, Tryd.ntmps24
  go_wp2_with (at_builtin; refine wpList_append_byt _ (by rfl) (.tmp 5) (.tmp 6) 22 (by rfl) 5 i0 Tryd.underlying22 hi0 hz0 hz1 hz2 w.heap.size (.slice (some ⟨w.heap.size, 0, none⟩) 0 0) [] (by rfl) (World.ownsRow_made w #[] 0 (Nat.le_refl _) (by decide) rfl) (some ad) c ys (by rfl) (HY.out.alloc _) (by simp only [List.length_nil]; omega) (by simp) ?_; intro A1 c1 w1 hown hgrow hat; simp only [List.nil_append] at hown ⊢; have HO1 := Lib.hid (own_byt_any hown); have HB1 : Hid (Below w.heap.size w w1) := Lib.hid (((Below.refl _ _).alloc (Nat.le_refl _) _).grown hgrow (by simp) (by intro k hk; simp [Value.ownBlock] at hk; omega)); have HL := Lib.hid (own_base hown); have HK := Lib.hid (own_cap hown); clear hown hgrow hat)
  go_ret
  exact ⟨A1, c1, rfl, HO1.out, HB1.out, HL.out, HK.out⟩
theorem clone_any (A : Option Addr) (ys : List UInt8) (c : Nat) (w : World) (hy : Byt w A ys) (hm : ys.length ≤ 140737488355328) :
    Calls Tryd.prog 24 #[.slice A ys.length c] w (ClonePost w ys) := by
  rcases A with _ | ad
  · have : ys = [] := by
      cases ys with
      | nil => rfl
      | cons y ys => obtain ⟨_, _, h, _⟩ := hy 0 (by simp); cases h
    subst this
    exact (clone_nil c w).mono fun e w' ⟨he, hw⟩ => by subst hw; exact ⟨none, 0, he, Byt.nil _ _, Below.refl _ _, (fun k h => by cases h), Nat.le_refl _, Nat.zero_le _⟩
  · exact clone_some ad ys c w hy hm

theorem cells4 (n : Nat) (hn : n < 4294967296) : (#[.int .u8 ((n : Int) / 16777216), .int .u8 ((n : Int) / 65536 % 256), .int .u8 ((n : Int) / 256 % 256), .int .u8 ((n : Int) % 256)] : Array Value) = ((num4 n).map u8v).toArray := by
  unfold num4
  simp only [List.map_cons, List.map_nil, u8v, UInt8.toNat_ofNat']
  have e : ∀ a b c d a' b' c' d' : Int, a = a' → b = b' → c = c' → d = d' → (#[.int .u8 a, .int .u8 b, .int .u8 c, .int .u8 d] : Array Value) = [.int .u8 a', .int .u8 b', .int .u8 c', .int .u8 d'].toArray := by
    rintro a b c d _ _ _ _ rfl rfl rfl rfl; rfl
  apply e <;> omega
def NumPost (n : Nat) (w : World) (e : Ending) (w' : World) : Prop := e = .returned (.slice (some ⟨w.heap.size, 0, none⟩) 4 4) ∧ w'.heap[w.heap.size]? = some (.cells ((num4 n).map u8v).toArray 5 (0, 0)) ∧ Below w.heap.size w w' ∧ w'.heap.size = w.heap.size + 1
set_option maxHeartbeats 1000000 in
theorem putNumber_any (n : Nat) (w : World) (hn : n < 4294967296) :
    Calls Tryd.prog 17 #[.int .u32 n] w (NumPost n w) := by
  go_enter Tryd.func17, Tryd.ntmps17
  go_wp2
  go_ret
  refine ⟨rfl, ?_, below_alloc _ _, by simp⟩
  rw [← cells4 n hn]
  exact heap_new _ _
theorem or_hi (i a b : Nat) (h : b < 2 ^ i) (ha : 2 ^ i * a < 4294967296) (hb : b < 4294967296) : bits BinOp.or IntKind.u32 ((2 ^ i * a : Nat) : Int) (b : Int) = ((2 ^ i * a + b : Nat) : Int) := by
  rw [u32_or_nat _ _ ha hb, Nat.two_pow_add_eq_or_of_lt h]
theorem num_or (a b c d : Nat) (ha : a < 256) (hb : b < 256) (hc : c < 256) (hd : d < 256) :
    bits BinOp.or IntKind.u32 (bits BinOp.or IntKind.u32 (bits BinOp.or IntKind.u32 ((a : Int) % 4294967296 * 16777216 % 4294967296) ((b : Int) % 4294967296 * 65536 % 4294967296)) ((c : Int) % 4294967296 * 256 % 4294967296)) ((d : Int) % 4294967296) = ((a * 16777216 + b * 65536 + c * 256 + d : Nat) : Int) := by
  have e1 : ((a : Int) % 4294967296 * 16777216 % 4294967296) = ((2 ^ 24 * a : Nat) : Int) := by omega
  have e2 : ((b : Int) % 4294967296 * 65536 % 4294967296) = ((b * 65536 : Nat) : Int) := by omega
  have e3 : ((c : Int) % 4294967296 * 256 % 4294967296) = ((c * 256 : Nat) : Int) := by omega
  have e4 : ((d : Int) % 4294967296) = ((d : Nat) : Int) := by omega
  rw [e1, e2, e3, e4, or_hi 24 a (b * 65536) (by omega) (by omega) (by omega), show 2 ^ 24 * a + b * 65536 = 2 ^ 16 * (256 * a + b) by omega,
    or_hi 16 _ (c * 256) (by omega) (by omega) (by omega), show 2 ^ 16 * (256 * a + b) + c * 256 = 2 ^ 8 * (65536 * a + 256 * b + c) by omega, or_hi 8 _ d (by omega) (by omega) (by omega)]
  congr 1
  omega
set_option maxHeartbeats 1000000 in
theorem getNumber_any (A : Option Addr) (b : List UInt8) (c : Nat) (w : World) (hb : Byt w A b) (h4 : 4 ≤ b.length) (hm : b.length ≤ maxLen) :
    Calls Tryd.prog 30 #[.slice A b.length c] w fun e w' => e = .returned (.int .u32 (getN b : Nat)) ∧ Below w.heap.size w w' := by
  obtain ⟨g, o, rfl, c0⟩ := hb 0 (by omega)
  have c1 := hb.at_ (k := 1) (by omega)
  have c2 := hb.at_ (k := 2) (by omega)
  have c3 := hb.at_ (k := 3) (by omega)
  rw [Nat.add_zero] at c0
  have n0 : 0 < b.length := by omega
  have n1 : 1 < b.length := by omega
  have n2 : 2 < b.length := by omega
  have n3 : 3 < b.length := by omega
  have h0' : (0 : Int) < (b.length : Int) := by omega
  have h1' : (1 : Int) < (b.length : Int) := by omega
  have h2' : (2 : Int) < (b.length : Int) := by omega
  have h3' : (3 : Int) < (b.length : Int) := by omega
  go_enter Tryd.func30, Tryd.ntmps30
  go_wp2_with fail
  go_quiet (fail)
  go_wp2
  go_ret
  refine ⟨ret_int ?_, below_drewN (Below.refl _ _) _⟩
  have e : getN b = b[0].toNat * 16777216 + b[1].toNat * 65536 + b[2].toNat * 256 + b[3].toNat := by
    unfold getN; simp [List.getD, n0, n1, n2, n3]
  rw [e]
  exact num_or _ _ _ _ (UInt8.toNat_lt _) (UInt8.toNat_lt _) (UInt8.toNat_lt _) (UInt8.toNat_lt _)
end Go.Proofs.YtilbmbheancciaaDoor
