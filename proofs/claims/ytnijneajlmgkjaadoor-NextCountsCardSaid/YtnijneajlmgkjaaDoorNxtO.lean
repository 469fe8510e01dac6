/- How many members a set of 64 bits has: by sums side by side, as the library reckons it. No program. -/
import Derived.Test.YtnijneajlmgkjaaDoorNxtA
set_option linter.unusedSimpArgs false
set_option linter.unusedVariables false
namespace Go.Nxt
/-- How many members. -/
def pc (n : Nat) : Nat := (ups n).length
def cntB (x n : Nat) : Nat := ((List.range n).filter fun i => x.testBit i).length
theorem pc_eq (n : Nat) : pc n = cntB n 64 := rfl
theorem cnt_split (b L n : Nat) (hb : b < 256) : cntB (b + 256 * L) (8 + n) = cntB b 8 + cntB L n := by
  unfold cntB
  rw [List.range_add, List.filter_append, List.length_append, List.filter_map, List.length_map]
  have e : b + 256 * L = 2 ^ 8 * L + b := by omega
  congr 2
  · apply List.filter_congr
    intro i hi
    rw [List.mem_range] at hi
    rw [e, Nat.testBit_two_pow_mul_add L (show b < 2 ^ 8 from hb), if_pos hi]
  · apply List.filter_congr
    intro i hi
    simp only [Function.comp]
    rw [e, Nat.testBit_two_pow_mul_add L (show b < 2 ^ 8 from hb), if_neg (by omega)]
    congr 1; omega
theorem and_split (x y : Nat) : x &&& y = (x % 256 &&& y % 256) + 256 * (x / 256 &&& y / 256) := by
  have h := Nat.mod_add_div (x &&& y) 256
  have h1 : (x &&& y) % 2 ^ 8 = x % 2 ^ 8 &&& y % 2 ^ 8 := Nat.and_mod_two_pow
  have h2 : (x &&& y) / 2 ^ 8 = x / 2 ^ 8 &&& y / 2 ^ 8 := Nat.and_div_two_pow
  simp only [Nat.reducePow] at h1 h2
  omega
theorem and_low (x c k : Nat) (hc : c < 2 ^ k) : x &&& c = (x % 2 ^ k) &&& c := by
  have h1 : (x &&& c) % 2 ^ k = x % 2 ^ k &&& c % 2 ^ k := Nat.and_mod_two_pow
  have h2 : x &&& c < 2 ^ k := Nat.lt_of_le_of_lt Nat.and_le_right hc
  rw [Nat.mod_eq_of_lt h2, Nat.mod_eq_of_lt hc] at h1
  exact h1
def f1 (b : Nat) : Nat := (b / 2 &&& 85) + (b &&& 85)
def f2 (b : Nat) : Nat := (b / 4 &&& 51) + (b &&& 51)
def f3 (b : Nat) : Nat := (b / 16 + b) % 16
theorem byte_all : ∀ b, b < 256 → f1 b < 256 ∧ f2 (f1 b) < 256 ∧ f2 (f1 b) % 16 ≤ 4 ∧ f2 (f1 b) / 16 ≤ 4 ∧ f3 (f2 (f1 b)) = cntB b 8 ∧ cntB b 8 ≤ 8 := by decide +kernel
theorem s1_split (b L C : Nat) (hb : b < 256) : ((b + 256 * L) / 2 &&& (85 + 256 * C)) + ((b + 256 * L) &&& (85 + 256 * C)) = f1 b + 256 * ((L / 2 &&& C) + (L &&& C)) := by
  rw [and_split ((b + 256 * L) / 2), and_split (b + 256 * L)]
  rw [show (85 + 256 * C) % 256 = 85 by omega, show (85 + 256 * C) / 256 = C by omega, show (b + 256 * L) % 256 = b by omega, show (b + 256 * L) / 256 = L by omega, show (b + 256 * L) / 2 / 256 = L / 2 by omega]
  rw [and_low ((b + 256 * L) / 2 % 256) 85 7 (by decide), show (b + 256 * L) / 2 % 256 % 2 ^ 7 = b / 2 by omega]
  unfold f1; omega
theorem s2_split (b L C : Nat) (hb : b < 256) : ((b + 256 * L) / 4 &&& (51 + 256 * C)) + ((b + 256 * L) &&& (51 + 256 * C)) = f2 b + 256 * ((L / 4 &&& C) + (L &&& C)) := by
  rw [and_split ((b + 256 * L) / 4), and_split (b + 256 * L)]
  rw [show (51 + 256 * C) % 256 = 51 by omega, show (51 + 256 * C) / 256 = C by omega, show (b + 256 * L) % 256 = b by omega, show (b + 256 * L) / 256 = L by omega, show (b + 256 * L) / 4 / 256 = L / 4 by omega]
  rw [and_low ((b + 256 * L) / 4 % 256) 51 6 (by decide), show (b + 256 * L) / 4 % 256 % 2 ^ 6 = b / 4 by omega]
  unfold f2; omega
theorem s3_split (b L C : Nat) (hb : b < 256) (h1 : b / 16 ≤ 4) (h2 : b % 16 ≤ 4) (h3 : L % 16 ≤ 4) : ((b + 256 * L) / 16 + (b + 256 * L) &&& (15 + 256 * C)) = f3 b + 256 * (L / 16 + L &&& C) := by
  rw [and_split]
  rw [show (15 + 256 * C) % 256 = 15 by omega, show (15 + 256 * C) / 256 = C by omega, show ((b + 256 * L) / 16 + (b + 256 * L)) / 256 = L / 16 + L by omega]
  rw [show (15 : Nat) = 2 ^ 4 - 1 from rfl, Nat.and_two_pow_sub_one_eq_mod]
  unfold f3; omega
theorem f3_lt (b : Nat) : f3 b < 16 := Nat.mod_lt _ (by decide)
def ones1 (x : Nat) : Nat := (x / 2 &&& 6148914691236517205) + (x &&& 6148914691236517205)
def ones2 (x : Nat) : Nat := (x / 4 &&& 3689348814741910323) + (x &&& 3689348814741910323)
def ones3 (x : Nat) : Nat := x / 16 + x &&& 1085102592571150095
theorem bytes_of (x : Nat) (hx : x < 18446744073709551616) : ∃ a b c d e f g h : Nat, (a < 256 ∧ b < 256 ∧ c < 256 ∧ d < 256 ∧ e < 256 ∧ f < 256 ∧ g < 256 ∧ h < 256) ∧ x = a + 256 * (b + 256 * (c + 256 * (d + 256 * (e + 256 * (f + 256 * (g + 256 * h)))))) :=
  ⟨x % 256, x / 256 % 256, x / 65536 % 256, x / 16777216 % 256, x / 4294967296 % 256, x / 1099511627776 % 256, x / 281474976710656 % 256, x / 72057594037927936, by omega, by omega⟩
theorem lt8 {a b c d e f g h : Nat} (ha : a < 256) (hb : b < 256) (hc : c < 256) (hd : d < 256) (he : e < 256) (hf : f < 256) (hg : g < 256) (hh : h < 256) : a + 256 * (b + 256 * (c + 256 * (d + 256 * (e + 256 * (f + 256 * (g + 256 * h)))))) < 18446744073709551616 := by omega
theorem lt8' {a b c d e f g h : Nat} (ha : a < 256) (hb : b < 256) (hc : c < 256) (hd : d < 256) (he : e < 256) (hf : f < 256) (hg : g < 256) (hh : h / 16 ≤ 4) : a + 256 * (b + 256 * (c + 256 * (d + 256 * (e + 256 * (f + 256 * (g + 256 * h)))))) < 9223372036854775808 := by omega
attribute [local irreducible] cntB in
theorem ones_spec (x : Nat) (hx : x < 18446744073709551616) : ∃ a b c d e f g h : Nat, (a ≤ 8 ∧ b ≤ 8 ∧ c ≤ 8 ∧ d ≤ 8 ∧ e ≤ 8 ∧ f ≤ 8 ∧ g ≤ 8 ∧ h ≤ 8) ∧ ones3 (ones2 (ones1 x)) = a + 256 * (b + 256 * (c + 256 * (d + 256 * (e + 256 * (f + 256 * (g + 256 * h)))))) ∧ pc x = a + b + c + d + e + f + g + h ∧
    ones1 x < 18446744073709551616 ∧ ones2 (ones1 x) < 9223372036854775808 := by
  obtain ⟨a, b, c, d, e, f, g, h, ⟨ha, hb, hc, hd, he, hf, hg, hh⟩, rfl⟩ := bytes_of x hx
  have A := byte_all a ha
  have B := byte_all b hb
  have C := byte_all c hc
  have D := byte_all d hd
  have E := byte_all e he
  have F := byte_all f hf
  have G := byte_all g hg
  have H := byte_all h hh
  have last1 : (h / 2 &&& 85) + (h &&& 85) = f1 h := rfl
  have o1 : ones1 (a + 256 * (b + 256 * (c + 256 * (d + 256 * (e + 256 * (f + 256 * (g + 256 * h))))))) = f1 a + 256 * (f1 b + 256 * (f1 c + 256 * (f1 d + 256 * (f1 e + 256 * (f1 f + 256 * (f1 g + 256 * f1 h)))))) := by
    unfold ones1
    rw [show 6148914691236517205 = 85 + 256 * (85 + 256 * (85 + 256 * (85 + 256 * (85 + 256 * (85 + 256 * (85 + 256 * 85)))))) from rfl]
    rw [s1_split _ _ _ ha, s1_split _ _ _ hb, s1_split _ _ _ hc, s1_split _ _ _ hd, s1_split _ _ _ he, s1_split _ _ _ hf, s1_split _ _ _ hg, last1]
  have last2 : (f1 h / 4 &&& 51) + (f1 h &&& 51) = f2 (f1 h) := rfl
  have o2 : ones2 (f1 a + 256 * (f1 b + 256 * (f1 c + 256 * (f1 d + 256 * (f1 e + 256 * (f1 f + 256 * (f1 g + 256 * f1 h))))))) = f2 (f1 a) + 256 * (f2 (f1 b) + 256 * (f2 (f1 c) + 256 * (f2 (f1 d) + 256 * (f2 (f1 e) + 256 * (f2 (f1 f) + 256 * (f2 (f1 g) + 256 * f2 (f1 h))))))) := by
    unfold ones2
    rw [show 3689348814741910323 = 51 + 256 * (51 + 256 * (51 + 256 * (51 + 256 * (51 + 256 * (51 + 256 * (51 + 256 * 51)))))) from rfl]
    rw [s2_split _ _ _ A.1, s2_split _ _ _ B.1, s2_split _ _ _ C.1, s2_split _ _ _ D.1, s2_split _ _ _ E.1, s2_split _ _ _ F.1, s2_split _ _ _ G.1, last2]
  have last3 : f2 (f1 h) / 16 + f2 (f1 h) &&& 15 = f3 (f2 (f1 h)) := by
    rw [show (15 : Nat) = 2 ^ 4 - 1 from rfl, Nat.and_two_pow_sub_one_eq_mod]; rfl
  have o3 : ones3 (f2 (f1 a) + 256 * (f2 (f1 b) + 256 * (f2 (f1 c) + 256 * (f2 (f1 d) + 256 * (f2 (f1 e) + 256 * (f2 (f1 f) + 256 * (f2 (f1 g) + 256 * f2 (f1 h)))))))) = f3 (f2 (f1 a)) + 256 * (f3 (f2 (f1 b)) + 256 * (f3 (f2 (f1 c)) + 256 * (f3 (f2 (f1 d)) + 256 * (f3 (f2 (f1 e)) + 256 * (f3 (f2 (f1 f)) + 256 * (f3 (f2 (f1 g)) + 256 * f3 (f2 (f1 h)))))))) := by
    unfold ones3
    rw [show 1085102592571150095 = 15 + 256 * (15 + 256 * (15 + 256 * (15 + 256 * (15 + 256 * (15 + 256 * (15 + 256 * 15)))))) from rfl]
    obtain ⟨_, p1, p2, p3, _, _⟩ := A
    obtain ⟨_, q1, q2, q3, _, _⟩ := B
    obtain ⟨_, r1, r2, r3, _, _⟩ := C
    obtain ⟨_, t1, t2, t3, _, _⟩ := D
    obtain ⟨_, u1, u2, u3, _, _⟩ := E
    obtain ⟨_, v1, v2, v3, _, _⟩ := F
    obtain ⟨_, w1, w2, w3, _, _⟩ := G
    obtain ⟨_, x1, x2, x3, _, _⟩ := H
    rw [s3_split _ _ _ p1 p3 p2 (by omega), s3_split _ _ _ q1 q3 q2 (by omega), s3_split _ _ _ r1 r3 r2 (by omega), s3_split _ _ _ t1 t3 t2 (by omega), s3_split _ _ _ u1 u3 u2 (by omega), s3_split _ _ _ v1 v3 v2 (by omega), s3_split _ _ _ w1 w3 w2 (by omega), last3]
  refine ⟨cntB a 8, cntB b 8, cntB c 8, cntB d 8, cntB e 8, cntB f 8, cntB g 8, cntB h 8, ⟨A.2.2.2.2.2, B.2.2.2.2.2, C.2.2.2.2.2, D.2.2.2.2.2, E.2.2.2.2.2, F.2.2.2.2.2, G.2.2.2.2.2, H.2.2.2.2.2⟩, ?_, ?_, ?_, ?_⟩
  · rw [o1, o2, o3, A.2.2.2.2.1, B.2.2.2.2.1, C.2.2.2.2.1, D.2.2.2.2.1, E.2.2.2.2.1, F.2.2.2.2.1, G.2.2.2.2.1, H.2.2.2.2.1]
  · have hp := pc_eq (a + 256 * (b + 256 * (c + 256 * (d + 256 * (e + 256 * (f + 256 * (g + 256 * h)))))))
    have h0 : cntB (a + 256 * (b + 256 * (c + 256 * (d + 256 * (e + 256 * (f + 256 * (g + 256 * h))))))) 64 = cntB a 8 + cntB (b + 256 * (c + 256 * (d + 256 * (e + 256 * (f + 256 * (g + 256 * h)))))) 56 := cnt_split a _ 56 ha
    have h1 : cntB (b + 256 * (c + 256 * (d + 256 * (e + 256 * (f + 256 * (g + 256 * h)))))) 56 = cntB b 8 + cntB (c + 256 * (d + 256 * (e + 256 * (f + 256 * (g + 256 * h))))) 48 := cnt_split b _ 48 hb
    have h2 : cntB (c + 256 * (d + 256 * (e + 256 * (f + 256 * (g + 256 * h))))) 48 = cntB c 8 + cntB (d + 256 * (e + 256 * (f + 256 * (g + 256 * h)))) 40 := cnt_split c _ 40 hc
    have h3 : cntB (d + 256 * (e + 256 * (f + 256 * (g + 256 * h)))) 40 = cntB d 8 + cntB (e + 256 * (f + 256 * (g + 256 * h))) 32 := cnt_split d _ 32 hd
    have h4 : cntB (e + 256 * (f + 256 * (g + 256 * h))) 32 = cntB e 8 + cntB (f + 256 * (g + 256 * h)) 24 := cnt_split e _ 24 he
    have h5 : cntB (f + 256 * (g + 256 * h)) 24 = cntB f 8 + cntB (g + 256 * h) 16 := cnt_split f _ 16 hf
    have h6 : cntB (g + 256 * h) 16 = cntB g 8 + cntB h 8 := cnt_split g _ 8 hg
    rw [hp, h0, h1, h2, h3, h4, h5, h6]; simp only [Nat.add_assoc]
  · rw [o1]
    have h1 := A.1; have h2 := B.1; have h3 := C.1; have h4 := D.1; have h5 := E.1; have h6 := F.1; have h7 := G.1; have h8 := H.1
    exact lt8 h1 h2 h3 h4 h5 h6 h7 h8
  · rw [o1, o2]
    have h1 := A.2.1; have h2 := B.2.1; have h3 := C.2.1; have h4 := D.2.1; have h5 := E.2.1; have h6 := F.2.1; have h7 := G.2.1; have h8 := H.2.2.2.1
    exact lt8' h1 h2 h3 h4 h5 h6 h7 h8
theorem pc_le (n : Nat) : pc n ≤ 64 := ups_len n
theorem sum8 {a b c d e f g h : Nat} (ha : a ≤ 8) (hb : b ≤ 8) (hc : c ≤ 8) (hd : d ≤ 8) (he : e ≤ 8) (hf : f ≤ 8) (hg : g ≤ 8) (hh : h ≤ 8) {y : Nat} (hy : y = a + 256 * (b + 256 * (c + 256 * (d + 256 * (e + 256 * (f + 256 * (g + 256 * h))))))) :
    (y + y / 256 + (y + y / 256) / 65536 + (y + y / 256 + (y + y / 256) / 65536) / 4294967296) % 128 = a + b + c + d + e + f + g + h := by
  have e1 : y / 256 = b + 256 * (c + 256 * (d + 256 * (e + 256 * (f + 256 * (g + 256 * h))))) := by omega
  obtain ⟨z, hz⟩ : ∃ z, z = y + y / 256 := ⟨_, rfl⟩
  have hz' : z = (a + b) + 256 * ((b + c) + 256 * ((c + d) + 256 * ((d + e) + 256 * ((e + f) + 256 * ((f + g) + 256 * ((g + h) + 256 * h)))))) := by rw [hz, e1, hy]; omega
  rw [← hz]
  clear hz e1 hy
  have e2 : z / 65536 = (c + d) + 256 * ((d + e) + 256 * ((e + f) + 256 * ((f + g) + 256 * ((g + h) + 256 * h)))) := by
    rw [hz']; omega
  obtain ⟨u, hu⟩ : ∃ u, u = z + z / 65536 := ⟨_, rfl⟩
  have hu' : u = (a + b + c + d) + 256 * ((b + c + d + e) + 256 * ((c + d + e + f) + 256 * ((d + e + f + g) + 256 * ((e + f + g + h) + 256 * ((f + g + h) + 256 * ((g + h) + 256 * h)))))) := by rw [hu, e2, hz']; omega
  rw [← hu]
  clear hu e2 hz'
  have e3 : u / 4294967296 = (e + f + g + h) + 256 * ((f + g + h) + 256 * ((g + h) + 256 * h)) := by
    rw [hu']; omega
  rw [e3, hu']; omega
end Go.Nxt
