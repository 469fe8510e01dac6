/- Walks of the reference's minute, perDay and Count; moments counted minute by minute; the law NextCounts (one text: a claim has at most 60 files). -/
import Derived.Test.YtnijneajlmgkjaaDoorNxtU0
set_option linter.unusedSimpArgs false
set_option linter.unusedVariables false
set_option linter.unusedSectionVars false
namespace Go.Proofs.YtnijneajlmgkjaaDoor
open Go.ChangeShapes Go.WideShapes Go.ChangeAt Go.RowKit Go.Base Go.Cro Go.Civ Go.Nxt

def minB (s : Sp) (m : Nat) : Bool := hasB s.ho ((m / 60 : Nat) : Int) && hasB s.mi ((m % 60 : Nat) : Int)
set_option maxHeartbeats 4000000 in
theorem refMin_any (s : Sp) (hs : SpOk s) (m : Nat) (hm : m < 1440) (w : World) :
    Calls Tryd.prog 36 #[spV s, .int .i64 (m : Int)] w fun e w' => e = .returned (.bool (minB s m)) ∧ Below w.heap.size w w' := by
  have g1 := hs.ho
  have g2 := hs.mi
  have e1 := has_rem g1 (v := ((m / 60 : Nat) : Int)) (by omega)
  have e2 := has_rem g2 (v := ((m % 60 : Nat) : Int)) (by omega)
  rw [Int.toNat_natCast] at e1 e2
  have H : Hid (minB s m = (decide (s.ho / 2 ^ (m / 60) % 2 = 1) && decide (s.mi / 2 ^ (m % 60) % 2 = 1))) := Lib.hid (by rw [e1, e2]; rfl)
  rw [H.out]
  obtain ⟨a1, a2⟩ := g1
  obtain ⟨b1, b2⟩ := g2
  have q1 : (0 : Int) ≤ s.ho / 2 ^ (m / 60) := Int.ediv_nonneg a1 (Int.le_of_lt (Int.pow_pos (by decide)))
  have q2 : (0 : Int) ≤ s.mi / 2 ^ (m % 60) := Int.ediv_nonneg b1 (Int.le_of_lt (Int.pow_pos (by decide)))
  have d1 : Int.tdiv (m : Int) 60 = ((m / 60 : Nat) : Int) := by rw [Int.tdiv_eq_ediv_of_nonneg (by omega)]; omega
  have d2 : Int.tmod (m : Int) 60 = ((m % 60 : Nat) : Int) := by rw [Int.tmod_eq_emod_of_nonneg (by omega)]; omega
  have d3 : (m : Int) / 60 = ((m / 60 : Nat) : Int) := by omega
  have d4 : (m : Int) % 60 = ((m % 60 : Nat) : Int) := by omega
  have hh : m / 60 < 24 := by omega
  have hk : m % 60 < 60 := by omega
  clear e1 e2 H hs
  obtain ⟨smi, sho, sda, smo, swe, ad, aw⟩ := s
  simp only [spV]
  simp only at a1 a2 b1 b2 q1 q2 ⊢
  generalize m / 60 = h at *
  generalize m % 60 = mi at *
  by_cases hA : sho / 2 ^ h % 2 = 1 <;> by_cases hB : smi / 2 ^ mi % 2 = 1
  all_goals
    go_enter Tryd.func36, Tryd.ntmps36
    go_wp2
    go_ret
    first
      | exact ⟨rfl, below_alloc w _⟩
      | (refine ⟨?_, below_alloc w _⟩; simp [hA, hB]; done)
      | trace_state

def cM (s : Sp) : Nat → Nat
  | 0 => 0
  | j + 1 => cM s j + if minB s j then 1 else 0
theorem cM_le (s : Sp) : ∀ j, cM s j ≤ j
  | 0 => Nat.le_refl _
  | j + 1 => by have := cM_le s j; simp only [cM]; split <;> omega
set_option maxHeartbeats 4000000 in
theorem perDay_any (s : Sp) (hs : SpOk s) (w : World) : Calls Tryd.prog 34 #[spV s] w fun e w' => e = .returned (.int .i64 (cM s 1440 : Nat)) ∧ Below w.heap.size w w' := by
  have HM := Lib.hid (fun m hm V => refMin_any s hs m hm V)
  have HT0 : Hid (cM s 0 = 0) := Lib.hid rfl
  have HTs : Hid (∀ j, cM s (j + 1) = cM s j + if minB s j then 1 else 0) := Lib.hid (fun _ => rfl)
  have HTl := Lib.hid (cM_le s)
  clear hs
  generalize cM s = T at *
  generalize minB s = P at *
  obtain ⟨smi, sho, sda, smo, swe, ad, aw⟩ := s
  simp only [spV] at HM ⊢
  have HBx := Lib.hid (below_alloc w (.cells (specC smi sho sda smo swe ad aw) 24 (0, 0)))
  go_enter Tryd.func34, Tryd.ntmps34
  go_wp2
  go_loopw [3, 4] (fun n k wr => ∃ j : Nat, j ≤ 1440 ∧ n = .int .i64 ((T j : Nat) : Int) ∧ k = .int .i64 (j : Int) ∧ Hid (Below (w.alloc (.cells (specC smi sho sda smo swe ad aw) 24 (0, 0))).heap.size (w.alloc (.cells (specC smi sho sda smo swe ad aw) 24 (0, 0))) wr)) (fun _ k _ => (1440 - intOf k).toNat)
  case atStart => exact ⟨0, by omega, by rw [HT0.out]; rfl, rfl, Lib.hid (Below.refl _ _)⟩
  case round =>
    obtain ⟨j, hj, rfl, rfl, HB⟩ := hrel
    by_cases hj6 : j < 1440
    · have HMj := Lib.hid (HM.out j hj6)
      have HT1 := Lib.hid (HTs.out j)
      have htl := HTl.out j
      have hjl : (j : Int) < 1440 := by omega
      obtain ⟨g0, g1, g2, g3, g4, g5, g6⟩ := sp_cells HB.out
      generalize P j = pj at *
      cases pj
      all_goals
        go_wp2_with (go_at_call 36; refine (HMj.out _).mono ?_; rintro e w3 ⟨rfl, hb3⟩; have HB3 := Lib.hid (HB.out.trans (hb3.mono HB.out.size)); clear hb3)
        go_roundw
        case rel => exact ⟨j + 1, by omega, by rw [HT1.out]; simp, by go_num, HB3⟩
        case measure => simp [intOf]; omega
    · obtain rfl : j = 1440 := by omega
      go_wp2
      go_ret
      exact ⟨rfl, HBx.out.trans (HB.out.mono HBx.out.size)⟩

def clampI (f te x : Int) : Int := if x ≤ f then f else if te ≤ x then te else x
def CntR (s : Sp) (H M : Nat) (f te x : Int) (n : Nat) : Prop := ∃ L, IV s H M f (clampI f te x) L ∧ L.length = n
theorem clamp_mono {f te x y : Int} (h : f < te) (hxy : x ≤ y) : clampI f te x ≤ clampI f te y := by unfold clampI; split <;> split <;> (try split) <;> (try split) <;> omega
theorem clamp_lo {f te x : Int} (h : f < te) : f ≤ clampI f te x := by unfold clampI; split <;> (try split) <;> omega
theorem clamp_hi {f te x : Int} (h : f < te) : clampI f te x ≤ te := by unfold clampI; split <;> (try split) <;> omega
section
variable {s : Sp} {H M : Nat} {f te : Int} (hft : f < te)
include hft
theorem cnt_start {x : Int} (h : x ≤ f) : CntR s H M f te x 0 := by
  refine ⟨[], ?_, rfl⟩
  have e : clampI f te x = f := by unfold clampI; rw [if_pos h]
  rw [e]
  exact IV.empty (fun _ _ _ _ => by omega)
theorem cnt_end {x : Int} {n : Nat} (h : te ≤ x) (hc : CntR s H M f te x n) : ∃ L, IV s H M f te L ∧ L.length = n := by
  have e : clampI f te x = te := by unfold clampI; rw [if_neg (by omega), if_pos h]
  obtain ⟨L, h1, h2⟩ := hc
  rw [e] at h1
  exact ⟨L, h1, h2⟩
theorem cnt_le {x : Int} {n : Nat} (hc : CntR s H M f te x n) : (n : Int) ≤ te - f := by
  obtain ⟨L, h1, rfl⟩ := hc
  have a := clamp_lo (x := x) hft
  have b := clamp_hi (x := x) hft
  have := sorted_len L f a h1.1 (fun y hy => ((h1.2 y).1 hy).2)
  omega
theorem cnt_step (uH : Under H 24) (uM : Under M 60) {x : Int} (hx : x % 60 = 0) {n : Nat} (hc : CntR s H M f te x n) (p : Bool) (hp : p = true ↔ Mt s H M x ∧ f ≤ x ∧ x < te) : CntR s H M f te (x + 60) (n + if p then 1 else 0) := by
  obtain ⟨L, h1, rfl⟩ := hc
  have hm := clamp_mono hft (show x ≤ x + 60 by omega)
  have key : ∀ y, Mt s H M y → clampI f te x ≤ y → y < clampI f te (x + 60) → y = x ∧ f ≤ y ∧ y < te := fun y hy a b => by
    have h60 := (mt_bd uH uM hy).2.2
    unfold clampI at a b
    split at a <;> split at b <;> (try split at a) <;> (try split at b) <;> omega
  refine ⟨L ++ (if p then [x] else []), h1.append ⟨?_, fun y => ?_⟩ (clamp_lo hft) hm, ?_⟩
  · split <;> simp
  · cases p with
    | true =>
      obtain ⟨hmt, h2, h3⟩ := hp.1 rfl
      constructor
      · intro hy
        simp at hy
        subst hy
        refine ⟨hmt, ?_, ?_⟩
        · unfold clampI; split <;> (try split) <;> omega
        · unfold clampI; split <;> (try split) <;> omega
      · rintro ⟨hy, a, b⟩
        have := (key y hy a b).1
        simp [this]
    | false =>
      constructor
      · intro hy; simp at hy
      · rintro ⟨hy, a, b⟩
        obtain ⟨rfl, h2, h3⟩ := key y hy a b
        have := hp.2 ⟨hy, h2, h3⟩
        cases this
  · rw [List.length_append]; split <;> rfl
theorem cnt_skip {x : Int} {n : Nat} (hn : ∀ y, Mt s H M y → x ≤ y → y < x + 86400 → False) (hc : CntR s H M f te x n) : CntR s H M f te (x + 86400) n := by
  obtain ⟨L, h1, rfl⟩ := hc
  have hm := clamp_mono hft (show x ≤ x + 86400 by omega)
  refine ⟨L ++ [], h1.append (IV.empty (fun y hy a b => ?_)) (clamp_lo hft) hm, by simp⟩
  refine hn y hy ?_ ?_
  · unfold clampI at a b
    split at a <;> split at b <;> (try split at a) <;> (try split at b) <;> omega
  · unfold clampI at a b
    split at a <;> split at b <;> (try split at a) <;> (try split at b) <;> omega
end
/-- What a day is. -/
def DayC (s : Sp) (H M : Nat) (k : Int) (P : Bool) : Prop := (∀ V, Calls Tryd.prog 35 #[spV s, .int .i64 k] V fun x w' => x = .returned (.bool P) ∧ Below V.heap.size V w') ∧ ∀ m : Nat, m < 1440 → (Mt s H M (86400 * k + 60 * (m : Int)) ↔ P = true ∧ minB s m = true)
theorem dayC_any (s : Sp) (hs : SpOk s) {H M : Nat} (hM : s.mi = M) (hH : s.ho = H) (uH : Under H 24) (uM : Under M 60) (k : Int) (lo : -719162 ≤ k) (hi : k ≤ 2932896) : ∃ P, DayC s H M k P := by
  obtain ⟨n, y, kk, sec, A⟩ := at_of (86400 * k) (by omega) (by omega)
  have hday := A.day
  have hs0 := A.s0
  have hs1 := A.s1
  have en : n = k := by omega
  have es : sec = 0 := by omega
  subst en
  subst es
  have hk := A.k1
  obtain ⟨d1, d2, _⟩ := at_date A
  obtain ⟨dd, ed⟩ : ∃ dd : Nat, n + 719162 - ah y - cum y kk + 1 = dd := ⟨(n + 719162 - ah y - cum y kk + 1).toNat, by omega⟩
  refine ⟨_, fun V => refDy_any s hs n y kk V A, fun m hm => ?_⟩
  rw [← mdays_at A ed]
  obtain ⟨f1, f2, f3⟩ := At.first A ed
  have e0 : y * 12 + ((kk : Int) + 1) - 1 = y * 12 + (kk : Int) := by omega
  rw [e0] at f1 f3
  have hy0 := A.y0
  have hy1 := A.y1
  have e : 86400 * n + 60 * (m : Int) = midA (y * 12 + (kk : Int)) dd + ((m / 60 : Nat) : Int) * 3600 + ((m % 60 : Nat) : Int) * 60 + 0 := by rw [f1]; omega
  have hH64 : H < 18446744073709551616 := by have := hs.ho.2; omega
  have hM64 : M < 18446744073709551616 := by have := hs.mi.2; omega
  rw [e, mt_at uH uM (by omega) (by omega) f2 f3 (by omega) (by omega) (by omega) (by omega)]
  unfold minB
  rw [hM, hH, hasB_test _ _ hH64, hasB_test _ _ hM64]
  simp only [Bool.and_eq_true, true_and]
theorem DayC.none {s : Sp} {H M : Nat} (uH : Under H 24) (uM : Under M 60) {k : Int} (h : DayC s H M k false) : ∀ y, Mt s H M y → 86400 * k ≤ y → y < 86400 * k + 86400 → False := fun y hy a b => by
  have h60 := (mt_bd uH uM hy).2.2
  have hm := (h.2 ((y - 86400 * k) / 60).toNat (by omega)).1
  rw [show 86400 * k + 60 * ((((y - 86400 * k) / 60).toNat : Nat) : Int) = y by omega] at hm
  cases (hm hy).1
theorem cnt_full {s : Sp} {H M : Nat} {f te : Int} (hft : f < te) (uH : Under H 24) (uM : Under M 60) {k : Int} (h : DayC s H M k true) (h1 : f ≤ 86400 * k) (h2 : 86400 * k + 86400 ≤ te) {n : Nat} (hc : CntR s H M f te (86400 * k) n) :
    CntR s H M f te (86400 * k + 86400) (n + cM s 1440) := by
  have g : ∀ j : Nat, j ≤ 1440 → CntR s H M f te (86400 * k + 60 * (j : Int)) (n + cM s j) := fun j => by
    induction j with
    | zero => intro _; simpa [cM] using hc
    | succ j ih =>
      intro hj
      have := cnt_step hft uH uM (x := 86400 * k + 60 * (j : Int)) (by omega) (ih (by omega)) (minB s j) (by
        rw [h.2 j (by omega)]
        constructor
        · intro hb; exact ⟨⟨rfl, hb⟩, by omega, by omega⟩
        · rintro ⟨⟨_, hb⟩, _⟩; exact hb)
      rw [show 86400 * k + 60 * ((j + 1 : Nat) : Int) = 86400 * k + 60 * (j : Int) + 60 by omega]
      simp only [cM]
      rw [← Nat.add_assoc]
      exact this
  have := g 1440 (Nat.le_refl _)
  rw [show 86400 * k + 60 * ((1440 : Nat) : Int) = 86400 * k + 86400 by omega] at this
  exact this

/-- What a round needs of a day. -/
def DayF (s : Sp) (f te : Int) (CR : Int → Nat → Prop) (T : Nat) (mB : Nat → Bool) (k : Int) (P : Bool) : Prop := (∀ V, Calls Tryd.prog 35 #[spV s, .int .i64 k] V fun x w' => x = .returned (.bool P) ∧ Below V.heap.size V w') ∧
  (P = false → ∀ n, CR (86400 * k) n → CR (86400 * (k + 1)) n) ∧ (P = true → f ≤ 86400 * k → 86400 * k + 86400 ≤ te → ∀ n, CR (86400 * k) n → CR (86400 * (k + 1)) (n + T)) ∧
  (P = true → ∀ m : Nat, m < 1440 → ∀ n, CR (86400 * k + 60 * (m : Int)) n → CR (86400 * k + 60 * ((m + 1 : Nat) : Int)) (n + if (mB m && (decide (f ≤ 86400 * k + 60 * (m : Int)) && decide (86400 * k + 60 * (m : Int) < te))) then 1 else 0))

theorem cond_cases {CR : Int → Nat → Prop} {pj : Bool} {f x te X : Int} {d : Nat} (h : CR X (d + if (pj && (decide (f ≤ x) && decide (x < te))) then 1 else 0)) :
    (pj = false ∧ CR X d) ∨ (pj = true ∧ ¬ f ≤ x ∧ CR X d) ∨ (pj = true ∧ f ≤ x ∧ ¬ x < te ∧ CR X d) ∨ (pj = true ∧ f ≤ x ∧ x < te ∧ CR X (d + 1)) := by
  cases pj
  · exact .inl ⟨rfl, h⟩
  · by_cases h1 : f ≤ x
    · by_cases h2 : x < te
      · rw [decide_eq_true h1, decide_eq_true h2] at h; exact .inr (.inr (.inr ⟨rfl, h1, h2, h⟩))
      · rw [decide_eq_true h1, decide_eq_false h2] at h; exact .inr (.inr (.inl ⟨rfl, h1, h2, h⟩))
    · rw [decide_eq_false h1] at h; exact .inr (.inl ⟨rfl, h1, h⟩)

set_option maxRecDepth 100000 in
set_option maxHeartbeats 16000000 in
theorem refCount_walk (s : Sp) (f te0 te a b F1 F2 : Int) (CR : Int → Nat → Prop) (Q : Nat → Prop) (T : Nat) (mB : Nat → Bool)
    (hf1 : -62135596800 ≤ f) (hf2 : f ≤ 253402300799) (hte : (te0 ≤ 253402300799 ∧ te = te0) ∨ (253402300799 < te0 ∧ te = 253402300800)) (hte0 : te0 ≤ 300000000000) (hft : f < te)
    (ha : Int.tdiv F1 86400 = a) (hb : Int.tdiv F2 86400 = b) (ha1 : 86400 * a ≤ f) (ha2 : f < 86400 * (a + 1)) (hb1 : 86400 * b < te) (hb2 : te ≤ 86400 * (b + 1))
    (hM : ∀ V, Calls Tryd.prog 32 #[spV s] V fun e w' => e = .returned (.bool true) ∧ Below V.heap.size V w')
    (hF1 : ∀ V, Calls Tryd.prog 33 #[.int .i64 f, .int .i64 86400] V fun e w' => e = .returned (.int .i64 F1) ∧ V = w')
    (hF2 : ∀ V, Calls Tryd.prog 33 #[.int .i64 (te - 1), .int .i64 86400] V fun e w' => e = .returned (.int .i64 F2) ∧ V = w')
    (hP : ∀ V, Calls Tryd.prog 34 #[spV s] V fun e w' => e = .returned (.int .i64 (T : Nat)) ∧ Below V.heap.size V w') (hT : T ≤ 1440)
    (hmin : ∀ m : Nat, m < 1440 → ∀ V, Calls Tryd.prog 36 #[spV s, .int .i64 (m : Int)] V fun e w' => e = .returned (.bool (mB m)) ∧ Below V.heap.size V w')
    (hday : ∀ k, a ≤ k → k ≤ b → ∃ P, DayF s f te CR T mB k P) (h0 : CR (86400 * a) 0) (hle : ∀ x n, CR x n → (n : Int) ≤ te - f) (hend : ∀ n, CR (86400 * (b + 1)) n → Q n) (w : World) :
    Calls Tryd.prog 13 #[spV s, .int .i64 f, .int .i64 te0] w fun e w' => (∃ n : Nat, Q n ∧ e = .returned (.int .i64 (n : Nat))) ∧ Below w.heap.size w w' := by
  have HM := Lib.hid hM
  have HF1 := Lib.hid hF1
  have HF2 := Lib.hid hF2
  have HP := Lib.hid hP
  have HMin := Lib.hid hmin
  have HDay := Lib.hid hday
  have H0 := Lib.hid h0
  have HLe := Lib.hid hle
  have HEnd := Lib.hid hend
  have hab : a ≤ b := by omega
  have hba : -719163 ≤ a ∧ b ≤ 2932897 := by omega
  clear hM hF1 hF2 hP hmin hday h0 hle hend
  obtain ⟨smi, sho, sda, smo, swe, ad, aw⟩ := s
  unfold DayF at HDay
  simp only [spV] at HM HP HMin HDay ⊢
  have HBx := Lib.hid (below_alloc w (.cells (specC smi sho sda smo swe ad aw) 24 (0, 0)))
  rcases hte with ⟨ht, rfl⟩ | ⟨ht, rfl⟩
  case' inr => rw [show (253402300800 : Int) - 1 = 253402300799 by decide] at HF2
  all_goals
    have tA : True := trivial
    go_enter Tryd.func13, Tryd.ntmps13
    go_wp2_with (first
      | (go_at_call 32; refine (HM.out _).mono ?_; rintro e w1 ⟨rfl, hb1⟩; have HB1 := Lib.hid hb1; clear hb1; obtain ⟨g0, g1, g2, g3, g4, g5, g6⟩ := sp_cells HB1.out)
      | (clear tA; go_at_call 33; refine (HF1.out _).mono ?_; rintro e w2 ⟨rfl, hw2⟩; rw [← hw2]; clear hw2 w2)
      | (go_at_call 33; refine (HF2.out _).mono ?_; rintro e w2 ⟨rfl, hw2⟩; rw [← hw2]; clear hw2 w2)
      | (go_at_call 34; refine (HP.out _).mono ?_; rintro e w3 ⟨rfl, hb3⟩; have HB3 := Lib.hid (HB1.out.trans (hb3.mono HB1.out.size)); clear hb3 g0 g1 g2 g3 g4 g5 g6))
    go_loopw [10, 11] (fun n k wr => ∃ (c : Nat) (kk : Int), a ≤ kk ∧ kk ≤ b + 1 ∧ n = .int .i64 (c : Int) ∧ k = .int .i64 kk ∧ Hid (CR (86400 * kk) c) ∧ Hid (Below (w.alloc (.cells (specC smi sho sda smo swe ad aw) 24 (0, 0))).heap.size (w.alloc (.cells (specC smi sho sda smo swe ad aw) 24 (0, 0))) wr)) (fun _ k _ => (b + 1 - intOf k).toNat)
    case atStart => exact ⟨0, a, by omega, by omega, rfl, rfl, H0, HB3⟩
    case round =>
      obtain ⟨c, kk, hk1, hk2, rfl, rfl, HC, HB⟩ := hrel
      have hcl := HLe.out _ _ HC.out
      by_cases hkb : kk ≤ b
      · obtain ⟨P, hd, hskip, hfull, hmn⟩ := HDay.out kk hk1 hkb
        have HD := Lib.hid hd
        have HSk := Lib.hid hskip
        have HFu := Lib.hid hfull
        have HMn := Lib.hid hmn
        clear hd hskip hfull hmn HDay
        obtain ⟨g0, g1, g2, g3, g4, g5, g6⟩ := sp_cells HB.out
        cases P
        · go_wp2_with (go_at_call 35; refine (HD.out _).mono ?_; rintro e w4 ⟨rfl, hb4⟩; have HB4 := Lib.hid (HB.out.trans (hb4.mono HB.out.size)); clear hb4)
          go_roundw
          case rel => exact ⟨c, kk + 1, by omega, by omega, rfl, by go_num, Lib.hid (HSk.out (by first | trivial | rfl) _ HC.out), HB4⟩
          case measure => simp [intOf]; omega
        · by_cases hmid : a < kk ∧ kk < b
          · obtain ⟨hm1, hm2⟩ := hmid
            go_wp2_with (go_at_call 35; refine (HD.out _).mono ?_; rintro e w4 ⟨rfl, hb4⟩; have HB4 := Lib.hid (HB.out.trans (hb4.mono HB.out.size)); clear hb4)
            go_roundw
            case rel => exact ⟨c + T, kk + 1, by omega, by omega, by go_num, by go_num, Lib.hid (HFu.out (by first | trivial | rfl) (by omega) (by omega) _ HC.out), HB4⟩
            case measure => simp [intOf]; omega
          · rcases (show (¬ a < kk) ∨ (a < kk ∧ ¬ kk < b) by omega) with hm1 | ⟨hm1, hm2⟩
            all_goals
              go_wp2_with (go_at_call 35; refine (HD.out _).mono ?_; rintro e w4 ⟨rfl, hb4⟩; have HB4 := Lib.hid (HB.out.trans (hb4.mono HB.out.size)); clear hb4)
              clear g0 g1 g2 g3 g4 g5 g6
              go_loopw [10, 12] (fun n m wq => ∃ (d j : Nat), j ≤ 1440 ∧ n = .int .i64 (d : Int) ∧ m = .int .i64 (j : Int) ∧ Hid (CR (86400 * kk + 60 * (j : Int)) d) ∧ Hid (Below (w.alloc (.cells (specC smi sho sda smo swe ad aw) 24 (0, 0))).heap.size (w.alloc (.cells (specC smi sho sda smo swe ad aw) 24 (0, 0))) wq)) (fun _ m _ => (1440 - intOf m).toNat)
              case atStart => exact ⟨c, 0, by omega, rfl, rfl, Lib.hid (by simpa using HC.out), HB4⟩
              case round =>
                obtain ⟨d, j, hj, rfl, rfl, HC2, HB5⟩ := hrel
                have hdl := HLe.out _ _ HC2.out
                by_cases hj4 : j < 1440
                · have HMj := Lib.hid (HMin.out j hj4)
                  have HN := Lib.hid (HMn.out (by first | trivial | rfl) j hj4 _ HC2.out)
                  have hj5 : (j : Int) < 1440 := by omega
                  generalize mB j = pj at *
                  obtain ⟨g0, g1, g2, g3, g4, g5, g6⟩ := sp_cells HB5.out
                  have hcs := cond_cases HN.out
                  clear HN
                  rcases hcs with ⟨rfl, hc2⟩ | ⟨rfl, hx, hc2⟩ | ⟨rfl, hx, hy, hc2⟩ | ⟨rfl, hx, hy, hc2⟩
                  all_goals
                    first
                    | (exfalso; omega)
                    | (have HN2 := Lib.hid hc2
                       clear hc2
                       go_wp2_with (go_at_call 36; refine (HMj.out _).mono ?_; rintro e w6 ⟨rfl, hb6⟩; have HB6 := Lib.hid (HB5.out.trans (hb6.mono HB5.out.size)); clear hb6)
                       go_roundw
                       case rel => exact ⟨_, j + 1, by omega, by go_num, by go_num, HN2, HB6⟩
                       case measure => simp [intOf]; omega)
                    | (have HN2 := Lib.hid hc2
                       clear hc2
                       go_wp2_with (go_at_call 36; refine (HMj.out _).mono ?_; rintro e w6 ⟨rfl, hb6⟩; have HB6 := Lib.hid (HB5.out.trans (hb6.mono HB5.out.size)); clear hb6)
                       done)
                · obtain rfl : j = 1440 := by omega
                  go_wp2
                  go_roundw
                  case rel => exact ⟨d, kk + 1, by omega, by omega, rfl, by go_num, Lib.hid (by have h9 := HC2.out; rw [show 86400 * kk + 60 * ((1440 : Nat) : Int) = 86400 * (kk + 1) by omega] at h9; exact h9), HB5⟩
                  case measure => simp [intOf]; omega
      · obtain rfl : kk = b + 1 := by omega
        have HQ := Lib.hid (HEnd.out _ HC.out)
        go_wp2
        go_ret
        exact ⟨⟨c, HQ.out, rfl⟩, HBx.out.trans (HB.out.mono HBx.out.size)⟩
theorem bndB_id2 {t : Int} (h1 : -62135596800 ≤ t) (h2 : t ≤ 253402300799) : bndB t = t := by
  unfold bndB
  split
  · omega
  · split <;> omega

theorem td_mul (x : Int) : Int.tdiv (86400 * x) 86400 = x := Int.mul_tdiv_cancel_left x (by decide)
theorem refCount_any (s : Sp) (hs : SpOk s) (hm : mayB s = true) (H M : Nat) (hM : s.mi = M) (hH : s.ho = H) (uH : Under H 24) (uM : Under M 60) (f te0 te : Int)
    (hf1 : -62135596800 ≤ f) (hf2 : f ≤ 253402300799) (hte : (te0 ≤ 253402300799 ∧ te = te0) ∨ (253402300799 < te0 ∧ te = 253402300800)) (hte0 : te0 ≤ 300000000000) (hft : f < te) (w : World) :
    Calls Tryd.prog 13 #[spV s, .int .i64 f, .int .i64 te0] w fun e w' => (∃ n : Nat, (∃ L, IV s H M f te L ∧ L.length = n) ∧ e = .returned (.int .i64 (n : Nat))) ∧ Below w.heap.size w w' := by
  have hte1 : te ≤ 253402300800 := by omega
  have e1 : fl f 86400 = 86400 * (f / 86400) := by unfold fl; omega
  have e2 : fl (te - 1) 86400 = 86400 * ((te - 1) / 86400) := by unfold fl; omega
  refine refCount_walk s f te0 te (f / 86400) ((te - 1) / 86400) (fl f 86400) (fl (te - 1) 86400) (CntR s H M f te) (fun n => ∃ L, IV s H M f te L ∧ L.length = n) (cM s 1440) (minB s)
    hf1 hf2 hte hte0 hft (by rw [e1, td_mul]) (by rw [e2, td_mul]) (by omega) (by omega) (by omega) (by omega)
    (fun V => by have h := refMay_any s hs V; rw [hm] at h; exact h) (fun V => refFloor_any f 86400 V (by omega) (by omega) (by decide)) (fun V => refFloor_any (te - 1) 86400 V (by omega) (by omega) (by decide))
    (fun V => perDay_any s hs V) (cM_le s 1440) (fun m hm V => refMin_any s hs m hm V) (fun k k1 k2 => ?_) (cnt_start hft (by omega)) (fun x n h => cnt_le hft h) (fun n h => cnt_end hft (by omega) h) w
  obtain ⟨P, hd⟩ := dayC_any s hs hM hH uH uM k (by omega) (by omega)
  refine ⟨P, hd.1, fun hp n hc => ?_, fun hp h1 h2 n hc => ?_, fun hp m hm n hc => ?_⟩
  · subst hp
    have := cnt_skip hft (DayC.none uH uM hd) hc
    rw [show 86400 * (k + 1) = 86400 * k + 86400 by omega]
    exact this
  · subst hp
    rw [show 86400 * (k + 1) = 86400 * k + 86400 by omega]
    exact cnt_full hft uH uM hd h1 h2 hc
  · subst hp
    rw [show 86400 * k + 60 * ((m + 1 : Nat) : Int) = 86400 * k + 60 * (m : Int) + 60 by omega]
    refine cnt_step hft uH uM (by omega) hc _ ?_
    rw [hd.2 m hm]
    simp only [Bool.and_eq_true, decide_eq_true_eq, true_and]
theorem refCount_no (s : Sp) (hs : SpOk s) (hm : mayB s = false) (f te : Int) (w : World) :
    Calls Tryd.prog 13 #[spV s, .int .i64 f, .int .i64 te] w fun e w' => e = .returned (.int .i64 0) ∧ Below w.heap.size w w' := by
  have HMy := Lib.hid (fun V => refMay_any s hs V)
  rw [hm] at HMy
  clear hs hm
  obtain ⟨smi, sho, sda, smo, swe, ad, aw⟩ := s
  simp only [spV] at HMy ⊢
  have HBx := Lib.hid (below_alloc w (.cells (specC smi sho sda smo swe ad aw) 24 (0, 0)))
  go_enter Tryd.func13, Tryd.ntmps13
  go_wp2_with (go_at_call 32; refine (HMy.out _).mono ?_; rintro e w1 ⟨rfl, hb1⟩; have HB1 := Lib.hid hb1; clear hb1)
  go_ret
  exact ⟨rfl, HBx.out.trans (HB1.out.mono HBx.out.size)⟩
theorem refCount_same (s : Sp) (hs : SpOk s) (hm : mayB s = true) (f : Int) (hf1 : -62135596800 ≤ f) (hf2 : f ≤ 253402300799) (w : World) :
    Calls Tryd.prog 13 #[spV s, .int .i64 f, .int .i64 f] w fun e w' => e = .returned (.int .i64 0) ∧ Below w.heap.size w w' := by
  have HMy := Lib.hid (fun V => refMay_any s hs V)
  rw [hm] at HMy
  clear hs hm
  obtain ⟨smi, sho, sda, smo, swe, ad, aw⟩ := s
  simp only [spV] at HMy ⊢
  have HBx := Lib.hid (below_alloc w (.cells (specC smi sho sda smo swe ad aw) 24 (0, 0)))
  go_enter Tryd.func13, Tryd.ntmps13
  go_wp2_with (go_at_call 32; refine (HMy.out _).mono ?_; rintro e w1 ⟨rfl, hb1⟩; have HB1 := Lib.hid hb1; clear hb1)
  go_ret
  exact ⟨rfl, HBx.out.trans (HB1.out.mono HBx.out.size)⟩
/-- The program and the reference count the same. -/
theorem counts_same (s : Sp) (hs : SpOk s) (f te0 : Int) (hf1 : -62135596800 ≤ f) (hf2 : f ≤ 253402300799) (h1 : f ≤ te0) (h2 : te0 ≤ 300000000000) :
    ∃ c : Nat, (∀ w, Vars w → Calls Tryd.prog 12 #[spV s, .int .i64 f, .int .i64 te0] w fun e w' => e = .returned (.int .i64 (c : Nat)) ∧ Below w.heap.size w w') ∧
      ∀ w, Calls Tryd.prog 13 #[spV s, .int .i64 f, .int .i64 te0] w fun e w' => e = .returned (.int .i64 (c : Nat)) ∧ Below w.heap.size w w' := by
  cases hm : mayB s with
  | false => exact ⟨0, fun w hv => count_no s f te0 (.inl hm) w hv, fun w => refCount_no s hs hm f te0 w⟩
  | true =>
    by_cases he : te0 = f
    · subst he
      exact ⟨0, fun w hv => count_no s te0 te0 (.inr (Int.le_refl _)) w hv, fun w => refCount_same s hs hm te0 hf1 hf2 w⟩
    · obtain ⟨H, hH⟩ : ∃ H : Nat, s.ho = H := ⟨s.ho.toNat, by have := hs.ho.1; omega⟩
      obtain ⟨M, hM⟩ : ∃ M : Nat, s.mi = M := ⟨s.mi.toNat, by have := hs.mi.1; omega⟩
      obtain ⟨uH, uM⟩ := may_under hs hm hM hH
      obtain ⟨C, IC, hC⟩ := count_any s hs hm H M hM hH uH uM f te0
      have ef : bndB f = f := bndB_id2 hf1 hf2
      rw [ef] at IC
      have key : ∃ te, ((te0 ≤ 253402300799 ∧ te = te0) ∨ (253402300799 < te0 ∧ te = 253402300800)) ∧ f < te ∧ IV s H M f te C := by
        by_cases ht : te0 ≤ 253402300799
        · have e2 : bndB te0 = te0 := bndB_id2 (by omega) ht
          rw [e2] at IC
          exact ⟨te0, .inl ⟨ht, rfl⟩, by omega, IC⟩
        · have e2 : bndB te0 = 253402300799 := by unfold bndB; split; omega; split <;> omega
          rw [e2] at IC
          refine ⟨253402300800, .inr ⟨by omega, rfl⟩, by omega, IC.to (fun x hx _ => ?_)⟩
          have := (mt_bd uH uM hx).2.1
          omega
      obtain ⟨te, hte, hft, IC⟩ := key
      refine ⟨C.length, hC, fun w => (refCount_any s hs hm H M hM hH uH uM f te0 te hf1 hf2 hte h2 hft w).mono ?_⟩
      rintro e w' ⟨⟨n, ⟨L, IL, hL⟩, rfl⟩, hb⟩
      rw [← hL, IL.unique IC]
      exact ⟨rfl, hb⟩

set_option maxHeartbeats 4000000 in
theorem law_counts (s : Sp) (hs : SpOk s) (f l : Int) (f0 : -9223372036854775808 ≤ f ∧ f ≤ 9223372036854775807) (l0 : -9223372036854775808 ≤ l ∧ l ≤ 9223372036854775807) (w : World) (hv : Vars w) :
    Calls Tryd.prog 4 #[spV s, .int .i64 f, .int .i64 l] w fun e w' => e = .returned (.bool true) ∧ Below w.heap.size w w' := by
  have HV := Lib.hid (fun (w' : World) (hb : Below w.heap.size w w') => hv.later hb)
  have HLi := Lib.hid (fun V hV => lives_any V hV)
  by_cases hin : 0 ≤ l ∧ l ≤ 632448000 ∧ -62135596800 ≤ f ∧ f ≤ 253402300799
  · obtain ⟨i1, i2, i3, i4⟩ := hin
    obtain ⟨c, hA, hB⟩ := counts_same s hs f (f + l) i3 i4 (by omega) (by omega)
    have hN := fun V hV => count_no s (f + l) f (.inr (bndB_mono (by omega))) V hV
    have HA := Lib.hid hA
    have HB := Lib.hid hB
    have HN := Lib.hid hN
    clear hv hA hB hN hs
    obtain ⟨smi, sho, sda, smo, swe, ad, aw⟩ := s
    simp only [spV] at HA HB HN ⊢
    have HBx := Lib.hid (below_alloc w (.cells (specC smi sho sda smo swe ad aw) 24 (0, 0)))
    go_enter Tryd.func4, Tryd.ntmps4
    go_wp2
    have HS := Lib.hid (fun V (hV : Below (w.alloc (.cells (specC smi sho sda smo swe ad aw) 24 (0, 0))).heap.size (w.alloc (.cells (specC smi sho sda smo swe ad aw) 24 (0, 0))) V) => sp_cells hV)
    generalize hW3 : w.alloc (.cells (specC smi sho sda smo swe ad aw) 24 (0, 0)) = W3 at *
    have HL3 : Hid (∀ V, Below W3.heap.size W3 V → Calls Tryd.prog 10 #[] V fun e w' => e = .returned (.bool true) ∧ Below W3.heap.size W3 w') := Lib.hid (fun V hV => called_in hV (HLi.out V (HV.out _ (HBx.out.trans (hV.mono HBx.out.size)))))
    have HA3 : Hid (∀ V, Below W3.heap.size W3 V → Calls Tryd.prog 12 #[.agg #[.int .u64 smi, .int .u64 sho, .int .u64 sda, .int .u64 smo, .int .u64 swe, .bool ad, .bool aw], .int .i64 f, .int .i64 (f + l)] V fun e w' => e = .returned (.int .i64 (c : Nat)) ∧ Below W3.heap.size W3 w') := Lib.hid (fun V hV => called_in hV (HA.out V (HV.out _ (HBx.out.trans (hV.mono HBx.out.size)))))
    have HN3 : Hid (∀ V, Below W3.heap.size W3 V → Calls Tryd.prog 12 #[.agg #[.int .u64 smi, .int .u64 sho, .int .u64 sda, .int .u64 smo, .int .u64 swe, .bool ad, .bool aw], .int .i64 (f + l), .int .i64 f] V fun e w' => e = .returned (.int .i64 0) ∧ Below W3.heap.size W3 w') := Lib.hid (fun V hV => called_in hV (HN.out V (HV.out _ (HBx.out.trans (hV.mono HBx.out.size)))))
    have HB3 : Hid (∀ V, Below W3.heap.size W3 V → Calls Tryd.prog 13 #[.agg #[.int .u64 smi, .int .u64 sho, .int .u64 sda, .int .u64 smo, .int .u64 swe, .bool ad, .bool aw], .int .i64 f, .int .i64 (f + l)] V fun e w' => e = .returned (.int .i64 (c : Nat)) ∧ Below W3.heap.size W3 w') := Lib.hid (fun V hV => called_in hV (HB.out V))
    have e1 : IntKind.i64.wrap (f + l) = f + l := IntWalk.i64_in _ ⟨by omega, by omega⟩
    have HA4 := HA3
    have HN4 := HN3
    have HB4 := HB3
    rw [← e1] at HA4 HN4 HB4
    clear e1
    clear hW3 HA HB HN HLi
    refine wp_region_quietC (C := fun V => Below W3.heap.size W3 V) (by kernel_rfl) (by kernel_rfl) (Below.refl _ _).drew ?_
    repeat (go_qc (first
      | (unfold Oper.quietAt; have gg := HS.out V hV; obtain ⟨g0, g1, g2, g3, g4, g5, g6⟩ := gg; go_simp; with_reducible rfl)
      | (unfold Oper.quietAt; go_simp; first | (with_reducible exact HL3.out V hV) | (with_reducible exact HA3.out V hV) | (with_reducible exact HB3.out V hV) | (with_reducible exact HN3.out V hV) | (with_reducible exact HA4.out V hV) | (with_reducible exact HB4.out V hV) | (with_reducible exact HN4.out V hV))))
    refine wpQuiet_nil ?_
    intro w5 hw5
    have HB5 := Lib.hid (HBx.out.trans (hw5.mono HBx.out.size))
    clear hw5
    go_wp2
    go_ret
    first | exact ⟨rfl, HB5.out⟩ | (refine ⟨?_, HB5.out⟩; go_simp)
  · have hout : l < 0 ∨ (0 ≤ l ∧ 632448000 < l) ∨ (0 ≤ l ∧ l ≤ 632448000 ∧ f < -62135596800) ∨ (0 ≤ l ∧ l ≤ 632448000 ∧ -62135596800 ≤ f ∧ 253402300799 < f) := by omega
    clear hin hv
    obtain ⟨smi, sho, sda, smo, swe, ad, aw⟩ := s
    simp only [spV]
    have HBx := Lib.hid (below_alloc w (.cells (specC smi sho sda smo swe ad aw) 24 (0, 0)))
    rcases hout with h1 | ⟨h1, h2⟩ | ⟨h1, h2, h3⟩ | ⟨h1, h2, h3, h4⟩
    all_goals
      go_enter Tryd.func4, Tryd.ntmps4
      go_wp2_with (go_at_call 10; refine (HLi.out _ (HV.out _ HBx.out)).mono ?_; rintro e w1 ⟨rfl, hb1⟩; have HB1 := Lib.hid (HBx.out.trans (hb1.mono HBx.out.size)); clear hb1)
      go_ret
      exact ⟨rfl, HB1.out⟩
end Go.Proofs.YtnijneajlmgkjaaDoor
