/- Frames one behind the other, and a row of byte slices opened. -/
import Derived.Test.YtilbmbheancciaaDoorFrE
import Derived.Deep.Slices
set_option linter.unusedSimpArgs false
set_option linter.unusedVariables false
namespace Go.Proofs.YtilbmbheancciaaDoor
open Go.ChangeShapes Go.WideShapes Go.ChangeAt Go.RowKit Go.Base Go.Mx Go.Fr Go.Deep

/-- The frames of payloads, one behind the other. -/
def framesB (ps : List (List UInt8)) : List UInt8 := (ps.map frameB).flatten
theorem framesB_cons (p : List UInt8) (ps : List (List UInt8)) : framesB (p :: ps) = frameB p ++ framesB ps := by unfold framesB; simp
theorem framesB_add (ps qs : List (List UInt8)) : framesB (ps ++ qs) = framesB ps ++ framesB qs := by unfold framesB; simp
theorem framesB_snoc (ps : List (List UInt8)) (p : List UInt8) : framesB (ps ++ [p]) = framesB ps ++ frameB p := by rw [framesB_add]; unfold framesB; simp
def Short (ps : List (List UInt8)) : Prop := ∀ p ∈ ps, p.length ≤ 65536
theorem payB_frame (p r : List UInt8) (h : p.length ≤ 65536) : payB (frameB p ++ r) = p := by
  have e1 : getN (frameB p ++ r) = p.length := by unfold frameB; rw [List.append_assoc, List.append_assoc]; exact getN_num4 _ (by omega) _
  have e2 : (frameB p ++ r).drop 4 = num4 (sumF p) ++ (p ++ r) := by unfold frameB; rw [List.append_assoc, List.append_assoc, List.drop_left' (num4_len _)]
  have e3 : (frameB p ++ r).drop 8 = p ++ r := by
    have : (frameB p ++ r).drop 8 = ((frameB p ++ r).drop 4).drop 4 := by rw [List.drop_drop]
    rw [this, e2, List.drop_left' (num4_len _)]
  unfold payB
  rw [e1, e3, List.take_left]
theorem drop_frame (p r : List UInt8) : (frameB p ++ r).drop (p.length + 8) = r := List.drop_left' (frameB_len p)
theorem whole_frames : ∀ (ps : List (List UInt8)) (r : List UInt8), Short ps → wholeSz (framesB ps ++ r) = (framesB ps).length + wholeSz r
  | [], r, _ => by unfold framesB; simp
  | p :: ps, r, h => by
    have hp := h p (by simp)
    have hf := firstSz_frame p (framesB ps ++ r) hp
    rw [framesB_cons, List.append_assoc, wholeSz_step (by rw [hf]; omega), hf, drop_frame, whole_frames ps r (fun q hq => h q (by simp [hq])), List.length_append, frameB_len]
    omega
theorem all_frames : ∀ (ps : List (List UInt8)) (r : List UInt8), Short ps → allB (framesB ps ++ r) = ps ++ allB r
  | [], r, _ => by unfold framesB; simp
  | p :: ps, r, h => by
    have hp := h p (by simp)
    have hf := firstSz_frame p (framesB ps ++ r) hp
    rw [framesB_cons, List.append_assoc, allB_step (by rw [hf]; omega), hf, drop_frame, payB_frame p _ hp, all_frames ps r (fun q hq => h q (by simp [hq]))]
    rfl
theorem frames_len : ∀ (ps : List (List UInt8)), Short ps → (framesB ps).length ≤ ps.length * 65544
  | [], _ => by unfold framesB; simp
  | p :: ps, h => by
    have hp := h p (by simp)
    have := frames_len ps (fun q hq => h q (by simp [hq]))
    rw [framesB_cons, List.length_append, frameB_len, List.length_cons]
    omega
theorem wholeSz_nil : wholeSz [] = 0 := wholeSz_stop firstSz_nil
theorem allB_nil : allB [] = [] := allB_stop firstSz_nil
theorem whole_just (ps : List (List UInt8)) (h : Short ps) : wholeSz (framesB ps) = (framesB ps).length := by
  have := whole_frames ps [] h
  rwa [List.append_nil, wholeSz_nil, Nat.add_zero] at this
theorem all_just (ps : List (List UInt8)) (h : Short ps) : allB (framesB ps) = ps := by
  have := all_frames ps [] h
  rwa [List.append_nil, allB_nil, List.append_nil] at this
/-- A beginning of a frame that is not whole begins with none. -/
theorem firstSz_cut (p r : List UInt8) (k : Nat) (h : p.length ≤ 65536) (hk : k < p.length + 8) : firstSz ((frameB p ++ r).take k) = 0 := by
  by_cases h8 : k < 8
  · unfold firstSz; rw [if_pos (by rw [List.length_take]; omega)]
  · have e1 : getN (frameB p ++ r) = p.length := by unfold frameB; rw [List.append_assoc, List.append_assoc]; exact getN_num4 _ (by omega) _
    have e2 : getN ((frameB p ++ r).take k) = p.length := by rw [getN_pre (by omega), e1]
    have hl : ((frameB p ++ r).take k).length ≤ k := by rw [List.length_take]; omega
    unfold firstSz
    split
    · rfl
    · rw [if_pos (.inr (by omega))]
/-- How many frames end by k. -/
def ended : List (List UInt8) → Nat → Nat
  | [], _ => 0
  | p :: ps, k => if p.length + 8 ≤ k then ended ps (k - (p.length + 8)) + 1 else 0
theorem ended_le : ∀ (ps : List (List UInt8)) (k : Nat), ended ps k ≤ ps.length
  | [], _ => Nat.le_refl _
  | p :: ps, k => by
    unfold ended
    split
    · have := ended_le ps (k - (p.length + 8)); simp; omega
    · omega
theorem all_cut : ∀ (ps : List (List UInt8)) (k : Nat), Short ps → k ≤ (framesB ps).length → allB ((framesB ps).take k) = ps.take (ended ps k) ∧ wholeSz ((framesB ps).take k) = (framesB (ps.take (ended ps k))).length
  | [], k, _, hk => by
    have : framesB [] = [] := rfl
    rw [this] at hk ⊢
    have : k = 0 := by simpa using hk
    subst this
    rw [List.take_zero, allB_nil, wholeSz_nil]
    exact ⟨rfl, rfl⟩
  | p :: ps, k, h, hk => by
    have hp := h p (by simp)
    have hs : Short ps := fun q hq => h q (by simp [hq])
    rw [framesB_cons] at hk ⊢
    unfold ended
    split
    · next hle =>
      have hk' : k - (p.length + 8) ≤ (framesB ps).length := by rw [List.length_append, frameB_len] at hk; omega
      obtain ⟨ih1, ih2⟩ := all_cut ps (k - (p.length + 8)) hs hk'
      have ht : (frameB p ++ framesB ps).take k = framesB [p] ++ (framesB ps).take (k - (p.length + 8)) := by
        rw [List.take_append, List.take_of_length_le (by rw [frameB_len]; exact hle), frameB_len]; unfold framesB; simp
      have h1 : Short [p] := fun q hq => by rw [List.mem_singleton.1 hq]; exact hp
      rw [ht, all_frames [p] _ h1, whole_frames [p] _ h1, ih1, ih2, List.take_succ_cons]
      refine ⟨rfl, ?_⟩
      rw [framesB_cons, List.length_append]; unfold framesB; simp
    · next hlt =>
      have hz := firstSz_cut p (framesB ps) k hp (by omega)
      rw [allB_stop hz, wholeSz_stop hz, List.take_zero]
      exact ⟨rfl, rfl⟩
section
variable {H : Type} {enc : TypeId × Value → H} {P : Program}
theorem fr_off (b o j : Nat) : (⟨b, o, none⟩ : Addr).add j = ⟨b, o + j, none⟩ := by unfold Addr.add; split <;> simp_all
theorem open_byt_any {t e : TypeId} (ht : P.underlying t = some (.slice e)) (he : P.underlying e = some (.int .u8)) (hc : P.cellsOf e = 1) {w : World} {n : Nat} {v : Value} {x : DataW H × List MemPlace}
    (h : DataW.trod enc P w 0 (fun _ => true) true n t [v] = some x) : ∃ (a : Option Addr) (l : List UInt8) (cap : Nat), v = .slice a l.length cap ∧ Byt w a l ∧ l.length ≤ maxLen := by
  rcases open_ints ht he hc h with ⟨hcs, hx⟩ | ⟨a, len, cap', zs, hcs, _, hl, hm, hz, hx, hcell, hwz⟩
  · injection hcs with hcs; exact ⟨none, [], 0, hcs, Byt.nil _ _, Nat.zero_le _⟩
  · injection hcs with hcs
    subst hcs
    simp only [if_true] at hz
    have hlen : ((zs.take len).map fun n => UInt8.ofNat n.toNat).length = len := by simp; omega
    refine ⟨some a, (zs.take len).map fun n => UInt8.ofNat n.toNat, cap', by rw [hlen], ?_, by rw [hlen]; omega⟩
    intro i hi
    rw [hlen] at hi
    have hc0 := hcell i (by omega)
    have hw := hwz zs[i] (List.getElem_mem _)
    have hb := bounds_u8 hw
    obtain ⟨b, o, s⟩ := a
    obtain rfl : s = none := by simpa [Addr.add] using World.cell?_spot (hcell 0 (by omega))
    refine ⟨b, o, rfl, ?_⟩
    rw [fr_off] at hc0
    rw [hc0]
    have e2 : zs.getD i 0 = zs[i]'(by omega) := by simp [List.getD, show i < zs.length by omega]
    rw [e2]
    simp
    omega
theorem fr_choose : ∀ (n : Nat) (p : Nat → List UInt8 → Prop), (∀ i, i < n → ∃ x, p i x) → ∃ f : Nat → List UInt8, ∀ i, i < n → p i (f i) := fun n p h =>
  ⟨fun i => if hi : i < n then (h i hi).choose else [], fun i hi => by simp only [dif_pos hi]; exact (h i hi).choose_spec⟩
/-- AN ARGUMENT OF TYPE [][]byte. -/
theorem open_parts {t e u : TypeId} (ht : P.underlying t = some (.slice e)) (he : P.underlying e = some (.slice u)) (hu : P.underlying u = some (.int .u8)) (hC : P.cellsOf e = 1) (hc : P.cellsOf u = 1)
    {W : World} {b0 : Nat} {v : Value} {d0 : DataW H} {p : List MemPlace} (hv : Value.okWide P W .any b0 t v) (h0 : DataW.Trod enc P W 0 (fun _ => true) true t v d0 p) :
    ∃ (a : Option Addr) (l : List (List UInt8)) (cap : Nat), v = .slice a l.length cap ∧ Parts W a l ∧ l.length ≤ maxLen ∧ l.length ≤ cap ∧ cap ≤ maxLen ∧ (a = none → cap = 0) := by
  obtain ⟨a0, len, cap, rfl⟩ := okWide_slice ht hv
  obtain ⟨fuel, hf⟩ := h0
  rcases open_slice ht hf with ⟨hcs, hx⟩ | ⟨a, len', cap', m, n, D, Pl, hcs, _, hl1, hm, hmm, hx, hcell⟩
  · simp [Value.cells] at hcs
    obtain ⟨rfl, rfl, rfl⟩ := hcs
    exact ⟨none, [], 0, rfl, fun i hi => absurd hi (Nat.not_lt_zero _), Nat.zero_le _, Nat.le_refl _, Nat.zero_le _, fun _ => rfl⟩
  · simp [Value.cells] at hcs
    obtain ⟨rfl, rfl, rfl⟩ := hcs
    simp only [if_true] at hmm
    have hspot : 0 < len → a.spot = none := fun h0 => by
      obtain ⟨cs', hc', _⟩ := hcell 0 (by omega)
      rw [hC] at hc'
      obtain ⟨_, hcl, hat⟩ := World.cells?_some hc'
      match cs', hcl with
      | u0 :: _, _ =>
        have := World.cell?_spot (hat 0 (by omega))
        simpa [Addr.add] using this
    have each : ∀ i, i < len → ∃ x : List UInt8, a.spot = none ∧ ∃ (q : Option Addr) (cp : Nat), W.cell? ⟨a.block, a.off + i, none⟩ = some (.slice q x.length cp) ∧ Byt W q x ∧ x.length ≤ maxLen := fun i hil => by
      obtain ⟨cs', hc', ht'⟩ := hcell i (by omega)
      rw [hC, Nat.mul_one] at hc'
      obtain ⟨_, hcl, hat⟩ := World.cells?_some hc'
      obtain ⟨u0, rfl⟩ : ∃ u0, cs' = [u0] := by
        match cs', hcl with
        | [u0], _ => exact ⟨u0, rfl⟩
      obtain ⟨q, x, cp, rfl, hy, hml⟩ := open_byt_any he hu hc ht'
      have k0 := hat 0 (by simp)
      obtain ⟨b, o, s⟩ := a
      obtain rfl : s = none := hspot (by omega)
      rw [fr_off, fr_off] at k0
      exact ⟨x, rfl, q, cp, by simpa using k0, hy, hml⟩
    obtain ⟨f, hf⟩ := fr_choose len _ each
    refine ⟨some a, (List.range len).map f, cap, by simp, ?_, by simp; omega, by simp; omega, hm, fun h => nomatch h⟩
    intro i hil
    have hil' : i < len := by simpa using hil
    obtain ⟨hsp, q, cp, hk, hy, hfit⟩ := hf i hil'
    obtain ⟨b, o, s⟩ := a
    simp only at hsp
    subst hsp
    exact ⟨b, o, q, cp, rfl, by simpa using hk, by simpa using hy, by simpa using hfit⟩
end
end Go.Proofs.YtilbmbheancciaaDoor
