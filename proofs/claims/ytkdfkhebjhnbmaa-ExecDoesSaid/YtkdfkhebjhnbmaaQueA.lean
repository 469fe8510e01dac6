/- Package queue: timers in a heap, plain. No function of the program. -/
import Derived.ProofKit
set_option linter.unusedSimpArgs false
set_option linter.unusedVariables false
namespace Go.Que

/-- A timer, and when it was set. -/
structure Tm where
  at_ : Int
  id : Int
  turn : Int
/-- Is the one ahead of the other? -/
def lt (a b : Tm) : Prop := a.at_ < b.at_ ∨ (a.at_ = b.at_ ∧ a.turn < b.turn)
instance (a b : Tm) : Decidable (lt a b) := inferInstanceAs (Decidable (_ ∨ _))
def ltB (a b : Tm) : Bool := decide (lt a b)
/-- Two places exchanged. -/
def swp (f : Nat → Tm) (i j : Nat) : Nat → Tm := fun k => if k = i then f j else if k = j then f i else f k
theorem swp_l (f : Nat → Tm) (i j : Nat) : swp f i j i = f j := by unfold swp; rw [if_pos rfl]
theorem swp_r (f : Nat → Tm) (i j : Nat) : swp f i j j = f i := by
  unfold swp
  by_cases h : j = i
  · rw [if_pos h, h]
  · rw [if_neg h, if_pos rfl]
theorem swp_o (f : Nat → Tm) {i j k : Nat} (h1 : k ≠ i) (h2 : k ≠ j) : swp f i j k = f k := by unfold swp; rw [if_neg h1, if_neg h2]
/-- The same timers, in whatever order; each Id once. -/
def Same (n : Nat) (f g : Nat → Tm) : Prop := ∀ t, (∃ k, k < n ∧ f k = t) ↔ (∃ k, k < n ∧ g k = t)
def Once (n : Nat) (f : Nat → Tm) : Prop := ∀ i j, i < n → j < n → (f i).id = (f j).id → i = j
theorem Same.refl (n : Nat) (f : Nat → Tm) : Same n f f := fun _ => Iff.rfl
theorem Same.trans {n : Nat} {f g h : Nat → Tm} (a : Same n f g) (b : Same n g h) : Same n f h := fun t => (a t).trans (b t)
theorem Same.symm {n : Nat} {f g : Nat → Tm} (a : Same n f g) : Same n g f := fun t => (a t).symm
theorem same_swp {n : Nat} (f : Nat → Tm) {i j : Nat} (hi : i < n) (hj : j < n) : Same n f (swp f i j) := fun t => by
  constructor
  · rintro ⟨k, hk, rfl⟩
    by_cases h1 : k = i
    · exact ⟨j, hj, by rw [swp_r, h1]⟩
    · by_cases h2 : k = j
      · exact ⟨i, hi, by rw [swp_l, h2]⟩
      · exact ⟨k, hk, swp_o f h1 h2⟩
  · rintro ⟨k, hk, rfl⟩
    by_cases h1 : k = i
    · exact ⟨j, hj, by rw [h1, swp_l]⟩
    · by_cases h2 : k = j
      · exact ⟨i, hi, by rw [h2, swp_r]⟩
      · exact ⟨k, hk, (swp_o f h1 h2).symm⟩
theorem once_swp {n : Nat} {f : Nat → Tm} {i j : Nat} (hi : i < n) (hj : j < n) (h : Once n f) : Once n (swp f i j) := by
  have key : ∀ k, ∃ m, swp f i j k = f m ∧ (k < n → m < n) ∧ (k = i → m = j) ∧ (k = j → m = i) ∧ (k ≠ i → k ≠ j → m = k) := fun k => by
    by_cases h1 : k = i
    · exact ⟨j, by rw [h1, swp_l], fun _ => hj, fun _ => rfl, fun h => by rw [← h1, h], fun h => absurd h1 h⟩
    · by_cases h2 : k = j
      · exact ⟨i, by rw [h2, swp_r], fun _ => hi, fun h => absurd h h1, fun _ => rfl, fun _ h => absurd h2 h⟩
      · exact ⟨k, swp_o f h1 h2, id, fun h => absurd h h1, fun h => absurd h h2, fun _ _ => rfl⟩
  intro a b ha hb e
  obtain ⟨p, hp, p1, p2, p3, p4⟩ := key a
  obtain ⟨q, hq, q1, q2, q3, q4⟩ := key b
  rw [hp, hq] at e
  have hpq := h p q (p1 ha) (q1 hb) e
  by_cases a1 : a = i
  · by_cases b1 : b = i
    · omega
    · by_cases b2 : b = j
      · have := p2 a1; have := q3 b2; omega
      · have := p2 a1; have := q4 b1 b2; omega
  · by_cases a2 : a = j
    · by_cases b1 : b = i
      · have := p3 a2; have := q2 b1; omega
      · by_cases b2 : b = j
        · omega
        · have := p3 a2; have := q4 b1 b2; omega
    · have := p4 a1 a2
      by_cases b1 : b = i
      · have := q2 b1; omega
      · by_cases b2 : b = j
        · have := q3 b2; omega
        · have := q4 b1 b2; omega
def Shuf (n : Nat) (f g : Nat → Tm) : Prop := Same n f g ∧ (Once n f → Once n g)
theorem Shuf.refl (n : Nat) (f : Nat → Tm) : Shuf n f f := ⟨Same.refl n f, id⟩
theorem Shuf.trans {n : Nat} {f g h : Nat → Tm} (a : Shuf n f g) (b : Shuf n g h) : Shuf n f h := ⟨a.1.trans b.1, fun o => b.2 (a.2 o)⟩
theorem shuf_swp {n : Nat} (f : Nat → Tm) {i j : Nat} (hi : i < n) (hj : j < n) : Shuf n f (swp f i j) := ⟨same_swp f hi hj, once_swp hi hj⟩
/-- Is each one behind the one above it? -/
def par (k : Nat) : Nat := (k - 1) / 2
def Heap (n : Nat) (f : Nat → Tm) : Prop := ∀ k, 0 < k → k < n → ¬ lt (f k) (f (par k))
/-- All are right but the one at j, which may be ahead of the one above it. -/
def UpI (n j : Nat) (f : Nat → Tm) : Prop := (∀ k, 0 < k → k < n → k ≠ j → ¬ lt (f k) (f (par k))) ∧ (∀ k, 0 < k → k < n → par k = j → 0 < j → ¬ lt (f k) (f (par j)))
/-- All are right but the one at i, which may be ahead of the one above it, or behind those below it. -/
def Gap (n i : Nat) (f : Nat → Tm) : Prop := (∀ k, 0 < k → k < n → k ≠ i → par k ≠ i → ¬ lt (f k) (f (par k))) ∧ (∀ k, 0 < k → k < n → par k = i → 0 < i → ¬ lt (f k) (f (par i)))
theorem lt_trans' {a b c : Tm} (h : ¬ lt b a) (h2 : ¬ lt c b) : ¬ lt c a := by unfold lt at *; omega
theorem lt_asymm' {a b : Tm} (h : lt a b) : ¬ lt b a := by unfold lt at *; omega
theorem up_stop {n j : Nat} {f : Nat → Tm} (h : UpI n j f) (hs : j = 0 ∨ ¬ lt (f j) (f (par j))) : Heap n f := fun k h0 hk => by
  by_cases e : k = j
  · subst e
    rcases hs with hs | hs
    · omega
    · exact hs
  · exact h.1 k h0 hk e
theorem par_lt {k : Nat} (h : 0 < k) : par k < k := by unfold par; omega
theorem up_step {n j : Nat} {f : Nat → Tm} (h : UpI n j f) (hj : j < n) (h0 : 0 < j) (hl : lt (f j) (f (par j))) : UpI n (par j) (swp f (par j) j) := by
  have hp := par_lt h0
  refine ⟨fun k k0 kn ke => ?_, fun k k0 kn ke hp0 => ?_⟩
  · by_cases e1 : k = j
    · subst e1
      rw [swp_r, swp_l]; exact lt_asymm' hl
    · rw [swp_o f ke e1]
      by_cases e2 : par k = j
      · rw [e2, swp_r]; exact h.2 k k0 kn e2 h0
      · by_cases e3 : par k = par j
        · rw [e3, swp_l]
          have := h.1 k k0 kn e1
          rw [e3] at this
          exact lt_trans' (lt_asymm' hl) this
        · rw [swp_o f e3 e2]; exact h.1 k k0 kn e1
  · have hpp := par_lt hp0
    have hq : swp f (par j) j (par (par j)) = f (par (par j)) := swp_o f (by omega) (by omega)
    rw [hq]
    have hpj := h.1 (par j) hp0 (by omega) (by omega)
    by_cases e1 : k = j
    · subst e1; rw [swp_r]; exact hpj
    · rw [swp_o f (by have := par_lt k0; omega) e1]
      have := h.1 k k0 kn e1
      rw [ke] at this
      exact lt_trans' hpj this
/-- The ones below. -/
theorem par_l (i : Nat) : par (2 * i + 1) = i := by unfold par; omega
theorem par_r (i : Nat) : par (2 * i + 2) = i := by unfold par; omega
theorem par_eq {k i : Nat} (h0 : 0 < k) (h : par k = i) : k = 2 * i + 1 ∨ k = 2 * i + 2 := by unfold par at h; omega
/-- Going down from i0: at i all are right but those below. -/
def DownI (n i0 i : Nat) (f0 f : Nat → Tm) : Prop := i0 ≤ i ∧ Gap n i f ∧ (i = i0 → f = f0) ∧ (i0 < i → ¬ lt (f i) (f (par i)))
theorem down_start {n i : Nat} {f : Nat → Tm} (h : Gap n i f) : DownI n i i f f := ⟨Nat.le_refl _, h, fun _ => rfl, fun h => absurd h (Nat.lt_irrefl _)⟩
theorem down_stop {n i0 i : Nat} {f0 f : Nat → Tm} (h : DownI n i0 i f0 f) (hs : ∀ k, 0 < k → k < n → par k = i → ¬ lt (f k) (f i)) : (i0 < i → Heap n f) ∧ (i = i0 → f = f0 ∧ UpI n i0 f0) := by
  obtain ⟨h0, hg, he, hc⟩ := h
  refine ⟨fun hlt k k0 kn => ?_, fun e => ?_⟩
  · by_cases e1 : k = i
    · rw [e1]; exact hc hlt
    · by_cases e2 : par k = i
      · rw [e2]; exact hs k k0 kn e2
      · exact hg.1 k k0 kn e1 e2
  · have ef := he e
    subst ef; subst e
    refine ⟨rfl, fun k k0 kn ke => ?_, fun k k0 kn ke hp => hg.2 k k0 kn ke hp⟩
    by_cases e2 : par k = i
    · rw [e2]; exact hs k k0 kn e2
    · exact hg.1 k k0 kn ke e2
theorem down_step {n i0 i j : Nat} {f0 f : Nat → Tm} (h : DownI n i0 i f0 f) (hj : j < n) (hp : par j = i) (h0 : 0 < j) (hl : lt (f j) (f i)) (hm : ∀ k, 0 < k → k < n → par k = i → ¬ lt (f k) (f j)) : DownI n i0 j f0 (swp f i j) := by
  obtain ⟨h1, hg, he, hc⟩ := h
  have hij : i < j := by have := par_lt h0; omega
  refine ⟨by omega, ⟨fun k k0 kn ke kp => ?_, fun k k0 kn kp hjp => ?_⟩, fun e => by omega, fun _ => ?_⟩
  · by_cases e1 : k = i
    · subst e1
      have hpk := par_lt k0
      rw [swp_l, swp_o f (by omega) (by omega)]
      exact hg.2 j h0 hj hp k0
    · rw [swp_o f e1 ke]
      by_cases e2 : par k = i
      · rw [e2, swp_l]; exact hm k k0 kn e2
      · rw [swp_o f e2 kp]; exact hg.1 k k0 kn e1 e2
  · have hjk : j < k := by have := par_lt k0; omega
    rw [swp_o f (by omega) (by omega), hp, swp_l]
    have := hg.1 k k0 kn (by omega) (by omega)
    rw [kp] at this; exact this
  · rw [swp_r, hp, swp_l]; exact lt_asymm' hl
/-- The last one in the place of one of a heap. -/
theorem gap_of_heap {n i : Nat} {f : Nat → Tm} (h : Heap (n + 1) f) (hi : i < n) : Gap n i (swp f i n) := by
  refine ⟨fun k k0 kn ke kp => ?_, fun k k0 kn kp hi0 => ?_⟩
  · have := par_lt k0
    rw [swp_o f ke (by omega), swp_o f kp (by omega)]; exact h k k0 (by omega)
  · have := par_lt k0
    have := par_lt hi0
    rw [swp_o f (by omega) (by omega), swp_o f (by omega) (by omega)]
    have h1 := h k k0 (by omega)
    have h2 := h i hi0 (by omega)
    rw [kp] at h1
    exact lt_trans' h2 h1
theorem heap_less {n m : Nat} {f : Nat → Tm} (h : Heap n f) (hm : m ≤ n) : Heap m f := fun k k0 km => h k k0 (by omega)
/-- The first one is ahead of all. -/
theorem heap_first {n : Nat} {f : Nat → Tm} (h : Heap n f) : ∀ k, k < n → ¬ lt (f k) (f 0) := by
  intro k
  induction k using Nat.strongRecOn with
  | ind k ih =>
    intro hk
    by_cases h0 : k = 0
    · subst h0; unfold lt; omega
    · have hp := par_lt (k := k) (by omega)
      exact lt_trans' (ih _ hp (by omega)) (h k (by omega) hk)
/-- One more at the end. -/
def snoc (n : Nat) (f : Nat → Tm) (t : Tm) : Nat → Tm := fun k => if k = n then t else f k
theorem snoc_at (n : Nat) (f : Nat → Tm) (t : Tm) : snoc n f t n = t := by unfold snoc; rw [if_pos rfl]
theorem snoc_o {n k : Nat} (f : Nat → Tm) (t : Tm) (h : k ≠ n) : snoc n f t k = f k := by unfold snoc; rw [if_neg h]
theorem up_start {n : Nat} {f : Nat → Tm} {t : Tm} (h : Heap n f) : UpI (n + 1) n (snoc n f t) := by
  refine ⟨fun k k0 kn ke => ?_, fun k k0 kn kp h0 => ?_⟩
  · have := par_lt k0
    rw [snoc_o f t ke, snoc_o f t (by omega)]; exact h k k0 (by omega)
  · have := par_lt k0; omega
theorem once_snoc {n : Nat} {f : Nat → Tm} {t : Tm} (h : Once n f) (ht : ∀ k, k < n → (f k).id ≠ t.id) : Once (n + 1) (snoc n f t) := fun a b ha hb e => by
  by_cases e1 : a = n
  · by_cases e2 : b = n
    · omega
    · subst e1
      rw [snoc_at, snoc_o f t e2] at e
      exact absurd e.symm (ht b (by omega))
  · by_cases e2 : b = n
    · subst e2
      rw [snoc_at, snoc_o f t e1] at e
      exact absurd e (ht a (by omega))
    · rw [snoc_o f t e1, snoc_o f t e2] at e
      exact h a b (by omega) (by omega) e
end Go.Que
