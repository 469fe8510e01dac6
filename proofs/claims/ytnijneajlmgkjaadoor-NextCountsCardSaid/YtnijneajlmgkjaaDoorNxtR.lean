/- How many moments match between two times: what Count answers. -/
import Derived.Test.YtnijneajlmgkjaaDoorNxtQ
set_option linter.unusedSimpArgs false
set_option linter.unusedVariables false
namespace Go.Proofs.YtnijneajlmgkjaaDoor
open Go.ChangeShapes Go.WideShapes Go.ChangeAt Go.RowKit Go.Base Go.Civ Go.Nxt Go.Cro

theorem ahead_IV {s : Sp} {H M : Nat} (hH : Under H 24) (hM : Under M 60) {t n y : Int} {k dd hh mm : Nat} {sec : Int} (hAt : At t n y k sec) (hdd : n + 719162 - ah y - cum y k + 1 = dd) (hhh : sec / 3600 = hh) (hmm : sec % 3600 / 60 = mm) :
    ∃ L, IV s H M (A (y * 12)) t L ∧ L.length = passedR s H M y k dd hh mm (sec % 60) := by
  obtain ⟨hmd, hd1, hd2⟩ := hAt.first hdd
  have hk := hAt.k1
  have hy0 := hAt.y0
  have hy1 := hAt.y1
  have hday := hAt.day
  have hs0 := hAt.s0
  have hs1 := hAt.s1
  have hm1 : 12 ≤ y * 12 + ((k : Int) + 1) - 1 := by omega
  have hm2 : y * 12 + ((k : Int) + 1) - 1 ≤ 119999 := by omega
  have em : y * 12 + (k : Int) = y * 12 + ((k : Int) + 1) - 1 := by omega
  obtain ⟨I1, l1⟩ := months_IV (s := s) hH hM (a := y * 12) (by omega) k (by omega)
  rw [em] at I1
  unfold passedR
  generalize y * 12 + ((k : Int) + 1) - 1 = m at *
  have I2 := days_IV (s := s) hH hM hm1 hm2 dd hd1 (by omega)
  have hle : A (y * 12) ≤ A m := A_mono (by omega) (by omega)
  have hAd : A m ≤ midA m dd := by rw [midA_eq]; unfold A; omega
  have I12 := I1.append I2 hle hAd
  have l12 : (monsL s H M (y * 12) k ++ monL H M m (mdays s m % 2 ^ dd)).length = (DB s (y * 12) k + pc (mdays s m % 2 ^ dd)) * (pc H * pc M) := by rw [List.length_append, l1, monL_len, Nat.add_mul]
  have hhb : hh < 24 := by omega
  have hmb : mm < 60 := by omega
  have ht : t = midA m dd + (hh : Int) * 3600 + (mm : Int) * 60 + sec % 60 := by omega
  by_cases hb : (mdays s m).testBit dd = true
  · rw [if_pos hb]
    have I3 := hours_IV (s := s) hH hM hm1 hm2 hd1 hd2 hb hh (by omega)
    have I123 := I12.append I3 (by omega) (by omega)
    have l123 : (hourL (H % 2 ^ hh) M (midA m dd)).length = pc (H % 2 ^ hh) * pc M := hourL_len _ _ _
    unfold todayR
    by_cases hhit : H.testBit hh = true
    · rw [if_pos hhit]
      have I4 := mins_IV (s := s) hH hM hm1 hm2 hd1 hd2 hhb hb hhit (if 0 < sec % 60 then mm + 1 else mm) (by split <;> omega)
      have hjl : ((ups (M % 2 ^ (if 0 < sec % 60 then mm + 1 else mm))).flatMap fun mi : Nat => [midA m dd + (hh : Int) * 3600 + (mi : Int) * 60]).length = pc (M % 2 ^ (if 0 < sec % 60 then mm + 1 else mm)) := by
        rw [flat_len (c := 1) (fun _ _ => rfl)]; simp [pc]
      have I := I123.append I4 (by omega) (by omega)
      refine ⟨_, I.to (fun x hx hlo => ?_), by rw [List.length_append, List.length_append, l12, l123, hjl]; omega⟩
      have h60 := (mt_bd hH hM hx).2.2
      have hm60 : midA m dd % 60 = 0 := by rw [midA_eq]; omega
      split <;> omega
    · rw [if_neg hhit]
      refine ⟨_, I123.to (fun x hx hlo => ⟨fun h => by omega, fun h => ?_⟩), by rw [List.length_append, l12, l123]; omega⟩
      by_cases h9 : x < midA m dd + (hh : Int) * 3600
      · exact h9
      · exfalso
        obtain ⟨mi, r, c, d, e, hx9⟩ := split60 (X := midA m dd + (hh : Int) * 3600) (x := x) (n := 60) (by omega) (by omega)
        rw [hx9] at hx
        exact hhit ((mt_at (s := s) hH hM hm1 hm2 hd1 hd2 hhb c d e).1 hx).2.2.1
  · rw [if_neg hb]
    refine ⟨_, I12.to (fun x hx hlo => ⟨fun h => by omega, fun h => ?_⟩), by rw [l12]; omega⟩
    by_cases h9 : x < midA m dd
    · exact h9
    · exfalso
      exact day_none (s := s) hH hM hm1 hm2 hd1 hd2 hb hx (by omega) (by omega)

theorem At.year_le {t t' n n' y y' : Int} {k k' : Nat} {sec sec' : Int} (h : At t n y k sec) (h' : At t' n' y' k' sec') (hlt : t < t') : y ≤ y' := by
  have h1 := h.day
  have h2 := h'.day
  have h3 := h.s0
  have h4 := h'.s1
  have h5 := h.dlo
  have h6 := h'.dhi
  by_cases hc : y' < y
  · exfalso
    have h7 : ah (y' + 1) ≤ ah y := ah_mono _ _ (by omega)
    have h8 := ah_succ y'
    have h9 : cum y' (k' + 1) ≤ cum y' 12 := cum_mono _ _ _ (by have := h'.k1; omega)
    have h10 := (cum_bd y k).1
    omega
  · omega
/-- What Count answers, of a spec that may be. -/
theorem count_any (s : Sp) (hs : SpOk s) (hm : mayB s = true) (H M : Nat) (hM : s.mi = M) (hH : s.ho = H) (uH : Under H 24) (uM : Under M 60) (a b : Int) :
    ∃ C, IV s H M (bndB a) (bndB b) C ∧ ∀ w, Vars w → Calls Tryd.prog 12 #[spV s, .int .i64 a, .int .i64 b] w fun e w' => e = .returned (.int .i64 (C.length : Nat)) ∧ Below w.heap.size w w' := by
  by_cases hlt : bndB a < bndB b
  · have bd : ∀ t, -62135596800 ≤ bndB t ∧ bndB t ≤ 253402300799 := fun t => by unfold bndB; split <;> (try split) <;> omega
    obtain ⟨n1, y1, k1, s1, A1⟩ := at_of (bndB a) (bd a).1 (bd a).2
    obtain ⟨n2, y2, k2, s2, A2⟩ := at_of (bndB b) (bd b).1 (bd b).2
    have g1 := at_date A1
    have g2 := at_date A2
    have hyy := A1.year_le A2 hlt
    obtain ⟨ny, rfl⟩ : ∃ ny : Nat, y2 = y1 + ny := ⟨(y2 - y1).toNat, by omega⟩
    obtain ⟨d1, e1⟩ : ∃ dd : Nat, n1 + 719162 - ah y1 - cum y1 k1 + 1 = dd := ⟨(n1 + 719162 - ah y1 - cum y1 k1 + 1).toNat, by omega⟩
    obtain ⟨h1, e2⟩ : ∃ hh : Nat, s1 / 3600 = hh := ⟨(s1 / 3600).toNat, by omega⟩
    obtain ⟨m1, e3⟩ : ∃ mm : Nat, s1 % 3600 / 60 = mm := ⟨(s1 % 3600 / 60).toNat, by omega⟩
    obtain ⟨d2, f1⟩ : ∃ dd : Nat, n2 + 719162 - ah (y1 + ny) - cum (y1 + ny) k2 + 1 = dd := ⟨(n2 + 719162 - ah (y1 + ny) - cum (y1 + ny) k2 + 1).toNat, by omega⟩
    obtain ⟨h2, f2⟩ : ∃ hh : Nat, s2 / 3600 = hh := ⟨(s2 / 3600).toNat, by omega⟩
    obtain ⟨m2, f3⟩ : ∃ mm : Nat, s2 % 3600 / 60 = mm := ⟨(s2 % 3600 / 60).toNat, by omega⟩
    obtain ⟨L1, I1, l1⟩ := ahead_IV (s := s) uH uM A1 e1 e2 e3
    obtain ⟨L2, I2, l2⟩ := ahead_IV (s := s) uH uM A2 f1 f2 f3
    have hy0 := A1.y0
    have hy2 := A2.y1
    obtain ⟨I3, l3⟩ := months_IV (s := s) uH uM (a := y1 * 12) (by omega) (12 * ny) (by omega)
    rw [show y1 * 12 + ((12 * ny : Nat) : Int) = (y1 + ny) * 12 by omega] at I3
    have yearLo : ∀ {t n y : Int} {k : Nat} {sec : Int}, At t n y k sec → A (y * 12) ≤ t := fun {t n y k sec} h => by
      have h1 := h.day
      have h2 := h.s0
      have h3 := h.dlo
      have h4 := (cum_bd y k).1
      unfold A F Go.Civ.num
      rw [show y * 12 / 12 = y by omega, show y * 12 % 12 + 1 = 1 by omega]
      simp [cum]; omega
    have I := I3.append I2 (A_mono (by omega) (by omega)) (yearLo A2)
    obtain ⟨C, IC, lC⟩ := I1.cut I (yearLo A1) (by omega)
    refine ⟨C, IC, fun w hv => ?_⟩
    have hc := count_ok s hs hm H M hM hH uH.1 uM.1 a b hlt n1 y1 k1 d1 h1 m1 s1 A1 e1 e2 e3 n2 ny k2 d2 h2 m2 s2 A2 f1 f2 f3 w hv
    have e : countR s H M y1 k1 d1 h1 m1 (s1 % 60) ny (y1 + ny) k2 d2 h2 m2 (s2 % 60) = (C.length : Int) := by
      rw [lC, List.length_append, l1, l2, l3]
      unfold countR
      simp
    rw [e] at hc
    exact hc
  · exact ⟨[], IV.empty (fun x _ h1 h2 => by omega), fun w hv => count_no s a b (.inr (by omega)) w hv⟩
theorem may_under {s : Sp} (hs : SpOk s) (hm : mayB s = true) {H M : Nat} (hM : s.mi = M) (hH : s.ho = H) : Under H 24 ∧ Under M 60 := by
  have h1 := hs.ho.2
  have h2 := hs.mi.2
  rw [hH] at h1
  rw [hM] at h2
  have hall : ∀ k, k < 5 → mayOne (bitsOf s k) (scB k) = true := fun k hk => by
    unfold mayB mayTo at hm
    rw [List.all_eq_true] at hm
    exact hm k (by simp; omega)
  refine ⟨⟨by omega, fun v hv => ?_⟩, by omega, fun v hv => ?_⟩
  · have h := hall 1 (by omega)
    rw [show bitsOf s 1 = (H : Int) from hH] at h
    have := may_bits (k := 1) (by omega) (by omega) h v hv
    have e : (scB 1).most.toNat = 23 := by decide
    omega
  · have h := hall 0 (by omega)
    rw [show bitsOf s 0 = (M : Int) from hM] at h
    have := may_bits (k := 0) (by omega) (by omega) h v hv
    have e : (scB 0).most.toNat = 59 := by decide
    omega
end Go.Proofs.YtnijneajlmgkjaaDoor
