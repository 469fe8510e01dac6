/- What the text of a spec says when it is read again: plain facts, no walk. -/
import Derived.Test.YtbbleedepmcdfaaDoorCrpB
import Derived.Test.YtbbleedepmcdfaaDoorCroV
set_option linter.unusedSimpArgs false
set_option linter.unusedVariables false
namespace Go.Proofs.YtbbleedepmcdfaaDoor
open Go.ChangeShapes Go.WideShapes Go.ChangeAt Go.RowKit Go.Base Go.Cro Go.Civ

theorem dec_dig {v : Nat} (h : v < 100) : Lib.decDigits v = digB v := by
  unfold digB
  by_cases h1 : v < 10
  · rw [if_pos h1, dec1 h1]
  · rw [if_neg h1, dec2 h1 h]
theorem hasB_test (n v : Nat) (hn : n < 18446744073709551616) : hasB (n : Int) (v : Int) = n.testBit v := by
  unfold hasB
  have e : (n : Int) / 2 ^ ((v : Nat) : Int).toNat = ((n / 2 ^ v : Nat) : Int) := by
    rw [Int.toNat_natCast, Int.natCast_ediv, Int.natCast_pow]; rfl
  have hd : n / 2 ^ v < 18446744073709551616 := Nat.lt_of_le_of_lt (Nat.div_le_self _ _) hn
  have h1 := u64_and_nat (n / 2 ^ v) 1 hd (by omega)
  rw [nat_mask1] at h1
  rw [e, show (1 : Int) = ((1 : Nat) : Int) from rfl, h1, Nat.testBit_eq_decide_div_mod_eq, Bool.eq_iff_iff]
  simp only [beq_iff_eq, decide_eq_true_eq]
  omega

/-- Does a field's text say just this? -/
def okField (k : Nat) (l : Bytes) (b : Int) (st : Bool) : Bool := match fieldB k l with
  | .ok m => m.1 == b && m.2 == st
  | .error _ => false
theorem okField_ok {k : Nat} {l : Bytes} {b : Int} {st : Bool} (h : okField k l b st = true) : fieldB k l = .ok (b, st) := by
  unfold okField at h
  cases hf : fieldB k l with
  | error e => rw [hf] at h; cases h
  | ok m =>
    rw [hf] at h
    simp only [Bool.and_eq_true, beq_iff_eq] at h
    obtain ⟨h1, h2⟩ := h
    rw [← h1, ← h2]
theorem dig_field : ∀ k, k < 5 → ∀ v, v < 60 → (scB k).least.toNat ≤ v → v ≤ (scB k).most.toNat → okField k (digB v) ((2 ^ v : Nat) : Int) false = true := by decide +kernel
theorem star_field : ∀ k, k < 5 → okField k [42] (allB (scB k)) true = true := by decide +kernel
theorem step_field : ∀ k, k < 5 → ∀ n, n < 100 → 2 ≤ n → okField k ([42, 47] ++ digB n) (valsB (scB k) (scB k).least (scB k).most n) true = true := by decide +kernel

theorem join_two (x y : Bytes) (r : List Bytes) (c : UInt8) : Lib.join (x :: y :: r) [c] = x ++ c :: Lib.join (y :: r) [c] := by
  rw [Lib.join_cons, Lib.join_cons]
  simp [Lib.joinTail]
theorem join_mem (c : UInt8) {b : UInt8} : ∀ {xs : List Bytes}, b ∈ Lib.join xs [c] → b = c ∨ ∃ x ∈ xs, b ∈ x
  | [], h => by rw [Lib.join_nil] at h; cases h
  | [x], h => by rw [Lib.join_one] at h; exact .inr ⟨x, by simp, h⟩
  | x :: y :: r, h => by
    rw [join_two] at h
    simp only [List.mem_append, List.mem_cons] at h
    rcases h with h | rfl | h
    · exact .inr ⟨x, by simp, h⟩
    · exact .inl rfl
    · rcases join_mem c h with h | ⟨z, hz, h⟩
      · exact .inl h
      · exact .inr ⟨z, by simp only [List.mem_cons] at hz ⊢; exact .inr hz, h⟩

/-- The bits of numbers. -/
def orAll (vs : List Nat) : Nat := vs.foldr (fun v a => 2 ^ v ||| a) 0
theorem orAll_lt : ∀ vs : List Nat, (∀ v ∈ vs, v < 64) → orAll vs < 2 ^ 64
  | [], _ => by decide
  | v :: vs, h => by
    have h1 : v < 64 := h v (by simp)
    exact Nat.or_lt_two_pow (Nat.pow_lt_pow_right (by omega : 1 < 2) h1) (orAll_lt vs fun u hu => h u (by simp [hu]))
theorem orAll_test (i : Nat) : ∀ vs : List Nat, (orAll vs).testBit i = decide (i ∈ vs)
  | [] => by simp [orAll]
  | v :: vs => by
    have ih := orAll_test i vs
    show (2 ^ v ||| orAll vs).testBit i = _
    rw [Nat.testBit_or, ih, Nat.testBit_two_pow, Bool.eq_iff_iff]
    simp only [Bool.or_eq_true, decide_eq_true_eq, List.mem_cons]
    exact ⟨fun h => h.imp Eq.symm id, fun h => h.imp Eq.symm id⟩
theorem list_field (k : Nat) (hk : k < 5) : ∀ vs : List Nat, vs ≠ [] → (∀ v ∈ vs, v < 60 ∧ (scB k).least.toNat ≤ v ∧ v ≤ (scB k).most.toNat) → fieldB k (Lib.join (vs.map Lib.decDigits) [44]) = .ok ((orAll vs : Nat), false)
  | [], h, _ => absurd rfl h
  | [v], _, h => by
    obtain ⟨h1, h2, h3⟩ := h v (by simp)
    rw [List.map_cons, List.map_nil, Lib.join_one, dec_dig (by omega), okField_ok (dig_field k hk v h1 h2 h3)]
    simp [orAll]
  | v :: u :: vs, _, h => by
    obtain ⟨h1, h2, h3⟩ := h v (by simp)
    have ih := list_field k hk (u :: vs) (by simp) (fun x hx => h x (by simp only [List.mem_cons] at hx ⊢; exact .inr hx))
    rw [List.map_cons] at ih
    rw [List.map_cons, List.map_cons, join_two, fieldB_two, dec_dig (by omega), okField_ok (dig_field k hk v h1 h2 h3), ih]
    have hl := orAll_lt (u :: vs) (fun x hx => by have := (h x (by simp only [List.mem_cons] at hx ⊢; exact .inr hx)).1; omega)
    have hp : 2 ^ v < 18446744073709551616 := Nat.pow_lt_pow_right (by omega : 1 < 2) (show v < 64 by omega)
    have := u64_or_nat (2 ^ v) (orAll (u :: vs)) hp hl
    simp only
    rw [this]
    rfl

theorem gotN_orAll {n lo m : Nat} (hn : n < 18446744073709551616) (h : ∀ i, n.testBit i = true → lo ≤ i ∧ i < lo + m) : orAll (gotN (n : Int) lo m) = n := by
  refine Nat.eq_of_testBit_eq fun i => ?_
  rw [orAll_test, Bool.eq_iff_iff]
  unfold gotN
  simp only [decide_eq_true_eq, List.mem_filter, List.mem_range'_1]
  constructor
  · rintro ⟨_, h2⟩
    rwa [hasB_test n i hn] at h2
  · intro h2
    exact ⟨h i h2, by rw [hasB_test n i hn]; exact h2⟩
theorem all_bits : ∀ k, k < 5 → ∀ i, i < 64 → ((scB k).least.toNat ≤ i ∧ i ≤ (scB k).most.toNat) ∨ (18446744073709551615 - (allB (scB k)).toNat).testBit i = true := by decide +kernel
theorem all_nat : ∀ k, k < 5 → allB (scB k) = ((allB (scB k)).toNat : Int) ∧ (allB (scB k)).toNat < 18446744073709551616 := by decide +kernel
theorem may_bits {n k : Nat} (hk : k < 5) (hn : n < 18446744073709551616) (h : mayOne (n : Int) (scB k) = true) (i : Nat) (hi : n.testBit i = true) : (scB k).least.toNat ≤ i ∧ i ≤ (scB k).most.toNat := by
  unfold mayOne at h
  simp only [Bool.and_eq_true] at h
  obtain ⟨_, h⟩ := h
  obtain ⟨e, hA⟩ := all_nat k hk
  rw [e, u64_andNot_nat n _ hn hA] at h
  have h0 : n &&& (18446744073709551615 - (allB (scB k)).toNat) = 0 := by
    have := eq_of_beq h
    omega
  have hi64 : i < 64 := by
    rcases Nat.lt_or_ge i 64 with h | h
    · exact h
    · rw [Nat.testBit_lt_two_pow (Nat.lt_of_lt_of_le hn (show 18446744073709551616 ≤ 2 ^ i from Nat.le_trans (by decide : 18446744073709551616 ≤ 2 ^ 64) (Nat.pow_le_pow_right (by decide) h)))] at hi
      cases hi
  rcases all_bits k hk i hi64 with h1 | h1
  · exact h1
  · have := congrArg (fun x => Nat.testBit x i) h0
    simp only [Nat.testBit_and, hi, h1, Nat.zero_testBit, Bool.and_self] at this
    cases this
theorem stepFrom_eq {b : Int} {s : Sc} : ∀ {f n m : Nat}, stepFrom b s f n = some m → b = valsB s s.least s.most m
  | 0, _, _, h => by cases h
  | f + 1, n, m, h => by
    unfold stepFrom at h
    split at h
    · rename_i hb; cases h; exact eq_of_beq hb
    · exact stepFrom_eq h
theorem sc_most : ∀ k, k < 5 → (scB k).most.toNat < 60 ∧ (scB k).least.toNat ≤ (scB k).most.toNat := by decide +kernel
/-- The text of a field says the field. -/
theorem field_back (k : Nat) (hk : k < 5) (b : Int) (st : Bool) (hb : U64 b) (hm : mayOne b (scB k) = true) (hne : oneT b st (scB k) ≠ []) : fieldB k (oneT b st (scB k)) = .ok (b, st) := by
  obtain ⟨n, rfl⟩ : ∃ n : Nat, b = (n : Int) := ⟨b.toNat, by have := hb.1; omega⟩
  have hn : n < 18446744073709551616 := by have := hb.2; omega
  unfold oneT at hne ⊢
  cases st
  · simp only [Bool.false_eq_true, if_false] at hne ⊢
    unfold listT at hne ⊢
    obtain ⟨hs1, hs2⟩ := sc_most k hk
    have hg : gotN (n : Int) (scB k).least.toNat ((scB k).most.toNat + 1 - (scB k).least.toNat) ≠ [] := fun h => by rw [h] at hne; exact hne rfl
    rw [list_field k hk _ hg (fun v hv => by have := gotN_mem hv; omega), gotN_orAll hn (fun i hi => by have := may_bits hk hn hm i hi; omega)]
  · simp only [if_true] at hne ⊢
    by_cases ha : ((n : Int) == allB (scB k)) = true
    · rw [if_pos ha, okField_ok (star_field k hk), eq_of_beq ha]
    · rw [if_neg ha] at hne ⊢
      cases hs : stepFrom (n : Int) (scB k) 98 2 with
      | none => rw [hs] at hne; exact absurd rfl hne
      | some m =>
        have h1 := stepFrom_lt hs
        have h2 := stepFrom_eq hs
        simp only
        rw [dec_dig (by omega), okField_ok (step_field k hk m (by omega) h1.1), ← h2]
theorem dig_blank {v : Nat} (h : v < 100) {c : UInt8} (hc : c ∈ Lib.decDigits v) : blankB c = false := by
  rw [dec_dig h] at hc
  have := dig_ne h hc
  simp [blankB, this]
theorem one_blank {k : Nat} (hk : k < 5) {b : Int} {st : Bool} : ∀ c ∈ oneT b st (scB k), blankB c = false := by
  intro c hc
  unfold oneT at hc
  split at hc
  · split at hc
    · simp at hc; subst hc; rfl
    · split at hc
      · rename_i m hm
        have := stepFrom_lt hm
        simp only [List.mem_append, List.mem_cons, List.not_mem_nil, or_false] at hc
        rcases hc with (rfl | rfl) | hc
        · rfl
        · rfl
        · exact dig_blank (by omega) hc
      · cases hc
  · unfold listT at hc
    rcases join_mem 44 hc with rfl | ⟨x, hx, hc⟩
    · rfl
    · obtain ⟨v, hv, rfl⟩ := List.mem_map.1 hx
      have := gotN_mem hv
      have := sc_most k hk
      exact dig_blank (by omega) hc
/-- The text of a spec says the spec. -/
theorem print_back (s : Sp) (hs : SpOk s) (hne : printT s ≠ []) : parseB (printT s) = if 256 < (printT s).length then .error (3, 0) else .ok [(s.mi, starOf s 0), (s.ho, starOf s 1), (s.da, s.ad), (s.mo, starOf s 3), (s.we, s.aw)] := by
  unfold printT at hne ⊢
  split at hne
  · rename_i h
    rw [if_pos h]
    simp only [Bool.and_eq_true, Bool.not_eq_true', List.any_eq_false] at h
    obtain ⟨hm, hf⟩ := h
    have hm' : ∀ k, k < 5 → mayOne (bitsOf s k) (scB k) = true := fun k hk => List.all_eq_true.1 hm k (List.mem_range.2 hk)
    have hf' : ∀ k, k < 5 → fieldT s k ≠ [] := fun k hk e => by
      have := hf k (List.mem_range.2 hk)
      rw [e] at this; exact this rfl
    have f0 := field_back 0 (by decide) s.mi (starOf s 0) hs.mi (hm' 0 (by decide)) (hf' 0 (by decide))
    have f1 := field_back 1 (by decide) s.ho (starOf s 1) hs.ho (hm' 1 (by decide)) (hf' 1 (by decide))
    have f2 := field_back 2 (by decide) s.da s.ad hs.da (hm' 2 (by decide)) (hf' 2 (by decide))
    have f3 := field_back 3 (by decide) s.mo (starOf s 3) hs.mo (hm' 3 (by decide)) (hf' 3 (by decide))
    have f4 := field_back 4 (by decide) s.we s.aw hs.we (hm' 4 (by decide)) (hf' 4 (by decide))
    have g0 : ∀ c ∈ fieldT s 0, blankB c = false := one_blank (by decide)
    have g1 : ∀ c ∈ fieldT s 1, blankB c = false := one_blank (by decide)
    have g2 : ∀ c ∈ fieldT s 2, blankB c = false := one_blank (by decide)
    have g3 : ∀ c ∈ fieldT s 3, blankB c = false := one_blank (by decide)
    have g4 : ∀ c ∈ fieldT s 4, blankB c = false := one_blank (by decide)
    have n0 := hf' 0 (by decide); have n1 := hf' 1 (by decide); have n2 := hf' 2 (by decide); have n3 := hf' 3 (by decide); have n4 := hf' 4 (by decide)
    change fieldB 0 (fieldT s 0) = _ at f0
    change fieldB 1 (fieldT s 1) = _ at f1
    change fieldB 2 (fieldT s 2) = _ at f2
    change fieldB 3 (fieldT s 3) = _ at f3
    change fieldB 4 (fieldT s 4) = _ at f4
    unfold parseB
    split
    · rfl
    · generalize fieldT s 0 = a0 at *
      generalize fieldT s 1 = a1 at *
      generalize fieldT s 2 = a2 at *
      generalize fieldT s 3 = a3 at *
      generalize fieldT s 4 = a4 at *
      have hsp : fieldsB (Lib.join [a0, a1, a2, a3, a4] [32]) = [a0, a1, a2, a3, a4] := by
        unfold fieldsB
        rw [join_two, join_two, join_two, join_two, Lib.join_one, splitB_app blankB 32 _ rfl _ g0, splitB_app blankB 32 _ rfl _ g1, splitB_app blankB 32 _ rfl _ g2, splitB_app blankB 32 _ rfl _ g3, splitB_sole blankB _ g4]
        simp [n0, n1, n2, n3, n4]
      rw [hsp]
      simp [parseFrom, f0, f1, f2, f3, f4]
  · exact absurd rfl hne
end Go.Proofs.YtbbleedepmcdfaaDoor
