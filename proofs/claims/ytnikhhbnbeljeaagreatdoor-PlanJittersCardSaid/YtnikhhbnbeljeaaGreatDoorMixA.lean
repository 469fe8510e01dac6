/- Plain facts on check sums, mixes and hashes. No program. -/
import Derived.PlainAid
import Derived.Laws.BitsAllLaws
set_option linter.unusedSimpArgs false
set_option linter.unusedVariables false
namespace Go.Mx

/-- One bit of a sum. -/
def st1 (s : Nat) : Nat := if s % 2 = 1 then s / 2 ^^^ 3988292384 else s / 2
def st4 (s : Nat) : Nat := st1 (st1 (st1 (st1 s)))
def st8 (s : Nat) : Nat := st4 (st4 s)

theorem xor_mod2 (a b : Nat) : (a ^^^ b) % 2 = (a % 2 + b % 2) % 2 := by
  have h := Nat.xor_mod_two_pow (a := a) (b := b) (n := 1)
  rw [show (2 : Nat) ^ 1 = 2 from rfl] at h
  rw [h]
  rcases Nat.mod_two_eq_zero_or_one a with ha | ha <;> rcases Nat.mod_two_eq_zero_or_one b with hb | hb <;> simp [ha, hb]

theorem st1_xor (a b : Nat) : st1 (a ^^^ b) = st1 a ^^^ st1 b := by
  have h2 := xor_mod2 a b
  have hd : (a ^^^ b) / 2 = a / 2 ^^^ b / 2 := Nat.xor_div_two
  unfold st1
  rw [hd, h2]
  rcases Nat.mod_two_eq_zero_or_one a with ha | ha <;> rcases Nat.mod_two_eq_zero_or_one b with hb | hb <;> simp [ha, hb]
  · rw [Nat.xor_assoc]
  · rw [Nat.xor_assoc, Nat.xor_assoc, Nat.xor_comm 3988292384 (b / 2)]
  · rw [Nat.xor_assoc, ← Nat.xor_assoc 3988292384, Nat.xor_comm 3988292384 (b / 2), Nat.xor_assoc (b / 2), Nat.xor_self, Nat.xor_zero]
theorem st1_lt {s : Nat} (h : s < 4294967296) : st1 s < 4294967296 := by
  unfold st1
  split
  · exact Nat.xor_lt_two_pow (n := 32) (by omega) (by omega)
  · omega
theorem st1_zero {s : Nat} (h : s < 4294967296) (hz : st1 s = 0) : s = 0 := by
  unfold st1 at hz
  split at hz
  · have : s / 2 = 3988292384 := by
      have e : s / 2 ^^^ 3988292384 ^^^ 3988292384 = 0 ^^^ 3988292384 := by rw [hz]
      rw [Nat.xor_assoc, Nat.xor_self, Nat.xor_zero, Nat.zero_xor] at e
      exact e
    omega
  · omega
theorem xor_eq_zero {a b : Nat} (h : a ^^^ b = 0) : a = b := by
  have e : a ^^^ b ^^^ b = 0 ^^^ b := by rw [h]
  rwa [Nat.xor_assoc, Nat.xor_self, Nat.xor_zero, Nat.zero_xor] at e
theorem st1_inj {a b : Nat} (ha : a < 4294967296) (hb : b < 4294967296) (h : st1 a = st1 b) : a = b := by
  have : st1 (a ^^^ b) = 0 := by rw [st1_xor, h, Nat.xor_self]
  exact xor_eq_zero (st1_zero (Nat.xor_lt_two_pow (n := 32) (by omega) (by omega)) this)
theorem st4_lt {s : Nat} (h : s < 4294967296) : st4 s < 4294967296 := st1_lt (st1_lt (st1_lt (st1_lt h)))
theorem st8_lt {s : Nat} (h : s < 4294967296) : st8 s < 4294967296 := st4_lt (st4_lt h)
theorem st4_inj {a b : Nat} (ha : a < 4294967296) (hb : b < 4294967296) (h : st4 a = st4 b) : a = b :=
  st1_inj ha hb (st1_inj (st1_lt ha) (st1_lt hb) (st1_inj (st1_lt (st1_lt ha)) (st1_lt (st1_lt hb)) (st1_inj (st1_lt (st1_lt (st1_lt ha))) (st1_lt (st1_lt (st1_lt hb))) h)))
theorem st8_inj {a b : Nat} (ha : a < 4294967296) (hb : b < 4294967296) (h : st8 a = st8 b) : a = b :=
  st4_inj ha hb (st4_inj (st4_lt ha) (st4_lt hb) h)
theorem st4_xor (a b : Nat) : st4 (a ^^^ b) = st4 a ^^^ st4 b := by unfold st4; simp only [st1_xor]

/-- What becomes of four bits. -/
def fours : List Int := [0, 498536548, 997073096, 651767980, 1994146192, 1802195444, 1303535960, 1342533948, 3988292384, 4027552580, 3604390888, 3412177804, 2607071920, 2262029012, 2685067896, 3183342108]

theorem st4_low : ∀ r : Fin 16, (st4 r.val : Int) = fours.getD r.val 0 := by decide +kernel
theorem fours_lt : ∀ r : Fin 16, 0 ≤ fours.getD r.val 0 ∧ fours.getD r.val 0 < 4294967296 := by decide +kernel
theorem st1_even (q : Nat) : st1 (2 * q) = q := by unfold st1; rw [if_neg (by omega)]; omega
theorem xor_even (q r : Nat) (s : Nat) (h : s = 2 * q + r % 2) : s = 2 * q ^^^ r % 2 := by
  rcases Nat.mod_two_eq_zero_or_one r with e | e
  · rw [e] at h ⊢; simpa using h
  · rw [e] at h ⊢
    rw [h]
    have := Nat.two_pow_add_eq_or_of_lt (i := 1) (b := 1) (by omega) q
    have h2 : 2 * q ^^^ 1 = 2 * q + 1 := by
      apply Nat.eq_of_testBit_eq
      intro i
      rw [Nat.testBit_xor]
      cases i with
      | zero => simp
      | succ i => simp [Nat.testBit_succ, show (2 * q + 1) / 2 = q by omega]
    exact h2.symm
theorem div_ext {a b : Nat} (h1 : a / 2 = b / 2) (h2 : a % 2 = b % 2) : a = b := by omega
theorem split4 (s : Nat) : s = 16 * (s / 16) ^^^ s % 16 := by
  have hm := xor_mod2
  have hd : ∀ a b : Nat, (a ^^^ b) / 2 = a / 2 ^^^ b / 2 := fun a b => Nat.xor_div_two
  refine div_ext ?_ (by rw [hm]; omega)
  rw [hd]; refine div_ext ?_ (by rw [hm]; omega)
  rw [hd]; refine div_ext ?_ (by rw [hm]; omega)
  rw [hd]; refine div_ext ?_ (by rw [hm]; omega)
  rw [hd]
  have e1 : 16 * (s / 16) / 2 / 2 / 2 / 2 = s / 2 / 2 / 2 / 2 := by omega
  have e2 : s % 16 / 2 / 2 / 2 / 2 = 0 := by omega
  rw [e1, e2, Nat.xor_zero]
theorem st4_sixteen (q : Nat) : st4 (16 * q) = q := by
  unfold st4
  rw [show 16 * q = 2 * (8 * q) by omega, st1_even, show 8 * q = 2 * (4 * q) by omega, st1_even, show 4 * q = 2 * (2 * q) by omega, st1_even, st1_even]
/-- FOUR BITS AT ONCE. -/
theorem st4_four (s : Nat) : st4 s = s / 16 ^^^ st4 (s % 16) := by
  conv => lhs; rw [split4 s, st4_xor, st4_sixteen]

/-- The sum, ahead of its turning. -/
def turn (s : Nat) (bs : List UInt8) : Nat := bs.foldl (fun s c => st8 (s ^^^ c.toNat)) s
theorem byte_lt (c : UInt8) : c.toNat < 4294967296 := by have := c.toNat_lt; omega
theorem xor_lt {a b : Nat} (ha : a < 4294967296) (hb : b < 4294967296) : a ^^^ b < 4294967296 := Nat.xor_lt_two_pow (n := 32) (by omega) (by omega)
theorem turn_lt (bs : List UInt8) : ∀ s, s < 4294967296 → turn s bs < 4294967296 := by
  induction bs with
  | nil => intro s h; exact h
  | cons c bs ih => intro s h; exact ih _ (st8_lt (xor_lt h (byte_lt c)))
theorem turn_inj (bs : List UInt8) : ∀ s t, s < 4294967296 → t < 4294967296 → turn s bs = turn t bs → s = t := by
  induction bs with
  | nil => intro s t _ _ h; exact h
  | cons c bs ih =>
    intro s t hs ht h
    have := ih _ _ (st8_lt (xor_lt hs (byte_lt c))) (st8_lt (xor_lt ht (byte_lt c))) h
    have := st8_inj (xor_lt hs (byte_lt c)) (xor_lt ht (byte_lt c)) this
    exact xor_eq_zero (by
      have e : (s ^^^ c.toNat) ^^^ (t ^^^ c.toNat) = s ^^^ t := by
        rw [Nat.xor_assoc, ← Nat.xor_assoc c.toNat, Nat.xor_comm c.toNat t, Nat.xor_assoc t, Nat.xor_self, Nat.xor_zero]
      rw [← e, this, Nat.xor_self])
theorem turn_append (s : Nat) (a b : List UInt8) : turn s (a ++ b) = turn (turn s a) b := by unfold turn; rw [List.foldl_append]
theorem turn_snoc (s : Nat) (a : List UInt8) (c : UInt8) : turn s (a ++ [c]) = st8 (turn s a ^^^ c.toNat) := by rw [turn_append]; rfl

/-- Of a sum, and further bytes. -/
def upd (s : Nat) (bs : List UInt8) : Nat := 4294967295 - turn (4294967295 - s) bs
theorem upd_lt (s : Nat) (bs : List UInt8) : upd s bs < 4294967296 := by unfold upd; omega
theorem upd_append (s : Nat) (a b : List UInt8) (h : s < 4294967296) : upd s (a ++ b) = upd (upd s a) b := by
  have := turn_lt a (4294967295 - s) (by omega)
  unfold upd
  rw [turn_append, show 4294967295 - (4294967295 - turn (4294967295 - s) a) = turn (4294967295 - s) a by omega]
theorem upd_nil (s : Nat) (h : s < 4294967296) : upd s [] = s := by unfold upd turn; simp; omega
def sum (bs : List UInt8) : Nat := upd 0 bs
/-- ONE BYTE THAT IS ANOTHER ONE. -/
theorem sum_finds (a b : List UInt8) (c d : UInt8) : sum (a ++ c :: b) = sum (a ++ d :: b) ↔ c = d := by
  constructor
  · intro h
    unfold sum upd at h
    have h1 := turn_lt (a ++ c :: b) (4294967295 - 0) (by omega)
    have h2 := turn_lt (a ++ d :: b) (4294967295 - 0) (by omega)
    have h : turn (4294967295 - 0) (a ++ c :: b) = turn (4294967295 - 0) (a ++ d :: b) := by omega
    rw [turn_append, turn_append] at h
    have ht := turn_lt a (4294967295 - 0) (by omega)
    generalize turn (4294967295 - 0) a = t at *
    have h := turn_inj b _ _ (st8_lt (xor_lt ht (byte_lt c))) (st8_lt (xor_lt ht (byte_lt d))) h
    have h := st8_inj (xor_lt ht (byte_lt c)) (xor_lt ht (byte_lt d)) h
    have e : (t ^^^ c.toNat) ^^^ (t ^^^ d.toNat) = c.toNat ^^^ d.toNat := by
      rw [Nat.xor_comm t c.toNat, Nat.xor_assoc, ← Nat.xor_assoc t t, Nat.xor_self, Nat.zero_xor]
    exact UInt8.toNat_inj.1 (xor_eq_zero (by rw [← e, h, Nat.xor_self]))
  · intro h; rw [h]

/- Mixes. -/
def fold (s x : Nat) : Nat := x ^^^ x / 2 ^ s
def mix (x : Nat) : Nat := fold 31 (fold 27 (fold 30 x * 13787848793156543929 % 18446744073709551616) * 10723151780598845931 % 18446744073709551616)
def unf30 (x : Nat) : Nat := x ^^^ x / 2 ^ 30 ^^^ x / 2 ^ 60
def unf27 (x : Nat) : Nat := x ^^^ x / 2 ^ 27 ^^^ x / 2 ^ 54
def unf31 (x : Nat) : Nat := x ^^^ x / 2 ^ 31 ^^^ x / 2 ^ 62
def unmix (x : Nat) : Nat := unf30 (unf27 (unf31 x * 3573116690164977347 % 18446744073709551616) * 10871156337175269513 % 18446744073709551616)
theorem xor_lt64 {a b : Nat} (ha : a < 18446744073709551616) (hb : b < 18446744073709551616) : a ^^^ b < 18446744073709551616 := Nat.xor_lt_two_pow (n := 64) (by omega) (by omega)
theorem div_lt64 {a : Nat} (k : Nat) (ha : a < 18446744073709551616) : a / 2 ^ k < 18446744073709551616 := Nat.lt_of_le_of_lt (Nat.div_le_self _ _) ha
theorem fold_lt {s x : Nat} (h : x < 18446744073709551616) : fold s x < 18446744073709551616 := xor_lt64 h (div_lt64 s h)
theorem unf30_lt {x : Nat} (h : x < 18446744073709551616) : unf30 x < 18446744073709551616 := xor_lt64 (xor_lt64 h (div_lt64 _ h)) (div_lt64 _ h)
theorem unf27_lt {x : Nat} (h : x < 18446744073709551616) : unf27 x < 18446744073709551616 := xor_lt64 (xor_lt64 h (div_lt64 _ h)) (div_lt64 _ h)
theorem unf31_lt {x : Nat} (h : x < 18446744073709551616) : unf31 x < 18446744073709551616 := xor_lt64 (xor_lt64 h (div_lt64 _ h)) (div_lt64 _ h)
theorem mod_lt64 (x : Nat) : x % 18446744073709551616 < 18446744073709551616 := Nat.mod_lt _ (by decide)
theorem mix_lt (x : Nat) : mix x < 18446744073709551616 := fold_lt (mod_lt64 _)
theorem unmix_lt (x : Nat) : unmix x < 18446744073709551616 := unf30_lt (mod_lt64 _)
theorem xor_div (a b k : Nat) : (a ^^^ b) / 2 ^ k = a / 2 ^ k ^^^ b / 2 ^ k := Nat.xor_div_two_pow
theorem div_div (a j k : Nat) : a / 2 ^ j / 2 ^ k = a / 2 ^ (j + k) := by rw [Nat.div_div_eq_div_mul, Nat.pow_add]
theorem div_big {a k : Nat} (h : a < 18446744073709551616) (hk : 64 ≤ k) : a / 2 ^ k = 0 := Nat.div_eq_of_lt (Nat.lt_of_lt_of_le h (Nat.pow_le_pow_right (n := 2) (by decide) hk : 2 ^ 64 ≤ 2 ^ k))
theorem cancel (x p q : Nat) : x ^^^ p ^^^ (p ^^^ q) ^^^ q = x := by
  rw [Nat.xor_assoc, Nat.xor_assoc, Nat.xor_assoc p q q, Nat.xor_self, Nat.xor_zero, Nat.xor_self, Nat.xor_zero]
theorem unf30_fold {x : Nat} (h : x < 18446744073709551616) : unf30 (fold 30 x) = x := by
  unfold unf30 fold
  rw [xor_div, xor_div, div_div, div_div, div_big (k := 30 + 60) h (by omega), Nat.xor_zero]
  exact cancel x (x / 2 ^ 30) (x / 2 ^ 60)
theorem unf27_fold {x : Nat} (h : x < 18446744073709551616) : unf27 (fold 27 x) = x := by
  unfold unf27 fold
  rw [xor_div, xor_div, div_div, div_div, div_big (k := 27 + 54) h (by omega), Nat.xor_zero]
  exact cancel x (x / 2 ^ 27) (x / 2 ^ 54)
theorem unf31_fold {x : Nat} (h : x < 18446744073709551616) : unf31 (fold 31 x) = x := by
  unfold unf31 fold
  rw [xor_div, xor_div, div_div, div_div, div_big (k := 31 + 62) h (by omega), Nat.xor_zero]
  exact cancel x (x / 2 ^ 31) (x / 2 ^ 62)
theorem cancel2 (x p q : Nat) : x ^^^ p ^^^ q ^^^ (p ^^^ q) = x := by
  rw [Nat.xor_assoc x p q, Nat.xor_assoc, Nat.xor_self, Nat.xor_zero]
theorem fold_unf30 {x : Nat} (h : x < 18446744073709551616) : fold 30 (unf30 x) = x := by
  unfold unf30 fold
  rw [xor_div, xor_div, div_div, div_div, div_big (k := 60 + 30) h (by omega), Nat.xor_zero]
  exact cancel2 x _ _
theorem fold_unf27 {x : Nat} (h : x < 18446744073709551616) : fold 27 (unf27 x) = x := by
  unfold unf27 fold
  rw [xor_div, xor_div, div_div, div_div, div_big (k := 54 + 27) h (by omega), Nat.xor_zero]
  exact cancel2 x _ _
theorem fold_unf31 {x : Nat} (h : x < 18446744073709551616) : fold 31 (unf31 x) = x := by
  unfold unf31 fold
  rw [xor_div, xor_div, div_div, div_div, div_big (k := 62 + 31) h (by omega), Nat.xor_zero]
  exact cancel2 x _ _
theorem times_back {x a b : Nat} (h : x < 18446744073709551616) (hab : a * b % 18446744073709551616 = 1) : x * a % 18446744073709551616 * b % 18446744073709551616 = x := by
  rw [Nat.mod_mul_mod, Nat.mul_assoc, Nat.mul_mod, hab, Nat.mul_one, Nat.mod_mod]
  exact Nat.mod_eq_of_lt h
theorem unmix_mix {x : Nat} (h : x < 18446744073709551616) : unmix (mix x) = x := by
  unfold unmix mix
  rw [unf31_fold (mod_lt64 _), times_back (fold_lt (mod_lt64 _)) (by decide), unf27_fold (mod_lt64 _), times_back (fold_lt h) (by decide), unf30_fold h]
theorem mix_unmix {x : Nat} (h : x < 18446744073709551616) : mix (unmix x) = x := by
  unfold unmix mix
  rw [fold_unf30 (mod_lt64 _), times_back (unf27_lt (mod_lt64 _)) (by decide), fold_unf27 (mod_lt64 _), times_back (unf31_lt h) (by decide), fold_unf31 h]
theorem mix_inj {x y : Nat} (hx : x < 18446744073709551616) (hy : y < 18446744073709551616) : mix x = mix y ↔ x = y :=
  ⟨fun h => by rw [← unmix_mix hx, h, unmix_mix hy], fun h => by rw [h]⟩
theorem unmix_inj {x y : Nat} (hx : x < 18446744073709551616) (hy : y < 18446744073709551616) : unmix x = unmix y ↔ x = y :=
  ⟨fun h => by rw [← mix_unmix hx, h, mix_unmix hy], fun h => by rw [h]⟩

/- Hashes. -/
def stir (h n : Nat) : Nat := (mix (h ^^^ n) + 11400714819323198485) % 18446744073709551616
def hash1 (h : Nat) (bs : List UInt8) : Nat := bs.foldl (fun h c => stir h c.toNat) (stir h bs.length)
def hashes (h : Nat) (l : List (List UInt8)) : Nat := l.foldl hash1 h
def hash (l : List (List UInt8)) : Nat := hashes 11400714819323198485 l
theorem stir_lt (h n : Nat) : stir h n < 18446744073709551616 := mod_lt64 _
theorem foldl_lt (bs : List UInt8) : ∀ h, h < 18446744073709551616 → bs.foldl (fun h c => stir h c.toNat) h < 18446744073709551616 := by
  induction bs with
  | nil => intro h hh; exact hh
  | cons c bs ih => intro h _; rw [List.foldl_cons]; exact ih _ (stir_lt _ _)
theorem hash1_lt (h : Nat) (bs : List UInt8) : hash1 h bs < 18446744073709551616 := foldl_lt bs _ (stir_lt _ _)
theorem hashes_lt (l : List (List UInt8)) : ∀ h, h < 18446744073709551616 → hashes h l < 18446744073709551616 := by
  induction l with
  | nil => intro h hh; exact hh
  | cons c bs ih => intro h _; unfold hashes; rw [List.foldl_cons]; exact ih _ (hash1_lt _ _)
theorem hash_lt (l : List (List UInt8)) : hash l < 18446744073709551616 := hashes_lt l _ (by omega)
def spread (n : Nat) (l : List (List UInt8)) : Nat := n * hash l / 18446744073709551616
theorem spread_lt {n : Nat} (l : List (List UInt8)) (h : 1 ≤ n) : spread n l < n := by
  unfold spread
  have := hash_lt l
  exact Nat.div_lt_of_lt_mul (by rw [Nat.mul_comm]; exact (Nat.mul_lt_mul_right (by omega)).2 this)
theorem spread_mono {m n : Nat} (l : List (List UInt8)) (h : m ≤ n) : spread m l ≤ spread n l := Nat.div_le_div_right (Nat.mul_le_mul_right _ h)
end Go.Mx
