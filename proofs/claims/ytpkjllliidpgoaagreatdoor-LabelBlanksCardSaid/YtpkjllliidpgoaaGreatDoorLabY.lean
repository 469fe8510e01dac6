/- Arguments of types []api.Label and []api.Clause, opened. No function of the program. -/
import Derived.Test.YtpkjllliidpgoaaGreatDoorLabG
import Derived.Deep.Slices
import Derived.Deep.Fields
import Derived.Deep.Strs
import Derived.ChangeSame
import Derived.SizedLaws
set_option linter.unusedSimpArgs false
set_option linter.unusedVariables false
namespace Go.Proofs.YtpkjllliidpgoaaGreatDoor
open Go.ChangeShapes Go.WideShapes Go.ChangeAt Go.RowKit Go.Base Go.Deep Go.Lab

theorem addr_off2 (b o j : Nat) : (⟨b, o, none⟩ : Addr).add j = ⟨b, o + j, none⟩ := by unfold Addr.add; split <;> simp_all
theorem bulk_len {H : Type} : ∀ ds : List (DataW H), (∀ d ∈ ds, 1 ≤ Rows.uptoBulk d) → ds.length ≤ Rows.uptoBulkAll ds
  | [], _ => Nat.zero_le _
  | d :: ds, h => by
    have h1 := h d (by simp)
    have h2 := bulk_len ds (fun x hx => h x (by simp [hx]))
    simp only [Rows.uptoBulkAll, List.length_cons] at *
    omega

section
variable {H : Type} {enc : TypeId × Value → H} {P : Program}
theorem open_strs_any {t e : TypeId} (ht : P.underlying t = some (.slice e)) (he : P.underlying e = some .string) (hc : P.cellsOf e = 1) {w : World} {n : Nat} {v : Value} {x : DataW H × List MemPlace}
    (h : DataW.trod enc P w 0 (fun _ => true) true n t [v] = some x) : ∃ (a : Option Addr) (l : List Bytes) (cap : Nat), v = .slice a l.length cap ∧ Strs w a l ∧ l.length ≤ maxLen ∧ l.length ≤ cap ∧ cap ≤ maxLen := by
  rcases open_strings ht he hc h with ⟨hcs, hx⟩ | ⟨a, len', cap', zs, hcs, _, hl, hm, hz, hx, hcell, hwz⟩
  · injection hcs with hcs; exact ⟨none, [], 0, hcs, fun i hi => absurd hi (Nat.not_lt_zero _), Nat.zero_le _, Nat.le_refl _, Nat.zero_le _⟩
  · injection hcs with hcs
    subst hcs
    simp only [if_true] at hz
    have hlen : ((zs.take len').map fun s => s.data.toList).length = len' := by simp; omega
    refine ⟨some a, (zs.take len').map fun s => s.data.toList, cap', by rw [hlen], ?_, by rw [hlen]; omega, by rw [hlen]; exact hl, hm⟩
    intro i hi
    rw [hlen] at hi
    have hc0 := hcell i (by omega)
    have hw := hwz zs[i] (List.getElem_mem _)
    obtain ⟨b, o, s⟩ := a
    obtain rfl : s = none := by simpa [Addr.add] using World.cell?_spot (hcell 0 (by omega))
    rw [addr_off2] at hc0
    have e2 : zs.getD i ByteArray.empty = zs[i]'(by omega) := by simp [List.getD, show i < zs.length by omega]
    rw [e2] at hc0
    refine ⟨b, o, rfl, ?_, ?_⟩
    · rw [hc0]; simp
    · simpa using hw

/-- AN ARGUMENT OF TYPE []api.Label. -/
theorem open_labs {t e ts : TypeId} {f0 f1 : Field} (ht : P.underlying t = some (.slice e)) (he : P.underlying e = some (.struct #[f0, f1])) (hC : P.cellsOf e = 2)
    (hf0 : f0.offset = 0 ∧ f1.offset = 1) (hft : f0.type = ts ∧ f1.type = ts) (hs : P.underlying ts = some .string) (c0 : P.cellsOf ts = 1) (hb : P.bytesOf e = 32)
    {W : World} {b0 : Nat} {v : Value} {d0 : DataW H} {p : List MemPlace}
    (hv : Value.okWide P W .any b0 t v) (h0 : DataW.Trod enc P W 0 (fun _ => true) true t v d0 p) :
    ∃ (a : Option Addr) (l : List Lb) (cap : Nat), v = .slice a l.length cap ∧ Labs W a l ∧ l.length ≤ maxLen ∧ l.length ≤ cap ∧ cap ≤ maxLen ∧ l.length ≤ Rows.uptoBulk d0 ∧
      ∀ (tys : List TypeId) (ds : List (DataW H)), (DataW.weightsEach (H := H) P tys ds).all (· ≤ reachBytes) = true → ∀ j : Nat, tys[j]? = some t → ds[j]? = some d0 → l.length * 32 ≤ reachBytes := by
  obtain ⟨a0, len, cap, rfl⟩ := okWide_slice ht hv
  obtain ⟨fuel, hf⟩ := h0
  obtain ⟨t0, t1⟩ := hft
  obtain ⟨o0, o1⟩ := hf0
  rcases open_slice ht hf with ⟨hcs, hx⟩ | ⟨a, len', cap', m, n, D, Pl, hcs, _, hl1, hm, hmm, hx, hcell⟩
  · simp [Value.cells] at hcs
    obtain ⟨rfl, rfl, rfl⟩ := hcs
    exact ⟨none, [], 0, rfl, fun i hi => absurd hi (Nat.not_lt_zero _), Nat.zero_le _, Nat.le_refl _, Nat.zero_le _, Nat.zero_le _, fun _ _ _ _ _ _ => by simp⟩
  · simp [Value.cells] at hcs
    obtain ⟨rfl, rfl, rfl⟩ := hcs
    simp only [if_true] at hmm
    have hspot : 0 < len → a.spot = none := fun h0 => by
      obtain ⟨cs', hc, _⟩ := hcell 0 (by omega)
      rw [hC] at hc
      obtain ⟨_, hcl, hat⟩ := World.cells?_some hc
      match cs', hcl with
      | u0 :: _, _ => exact World.cell?_spot (hat 0 (by omega))
    have each : ∀ i, i < len → ∃ x : Lb, (a.spot = none) ∧ (W.cell? ⟨a.block, a.off + i * 2, none⟩ = some (strV x.key) ∧ W.cell? ⟨a.block, a.off + i * 2 + 1, none⟩ = some (strV x.val)) ∧ x.key.length ≤ maxLen ∧ x.val.length ≤ maxLen := fun i hil => by
      obtain ⟨cs', hc, ht'⟩ := hcell i (by omega)
      rw [hC] at hc
      obtain ⟨ys, n', hn', hy, hlen, hyl, hf⟩ := DataW.trod_struct he ht'
      obtain ⟨_, hcl, hat⟩ := World.cells?_some hc
      obtain ⟨u0, u1, rfl⟩ : ∃ u0 u1, cs' = [u0, u1] := by
        match cs', hcl with
        | [u0, u1], _ => exact ⟨u0, u1, rfl⟩
      have g0 := hf 0 f0 rfl
      have g1 := hf 1 f1 rfl
      have hys : ∀ j, j < 2 → ∃ y, ys[j]? = some y := fun j hj => ⟨ys[j]'(by rw [hyl]; exact hj), List.getElem?_eq_getElem _⟩
      obtain ⟨y0, hy0⟩ := hys 0 (by omega)
      obtain ⟨y1, hy1⟩ := hys 1 (by omega)
      rw [t0, o0, c0, hy0] at g0
      rw [t1, o1, c0, hy1] at g1
      obtain ⟨z0, hz0, _, hw0⟩ := DataW.trod_string hs g0
      obtain ⟨z1, hz1, _, hw1⟩ := DataW.trod_string hs g1
      simp at hz0 hz1
      subst hz0; subst hz1
      have hsp : a.spot = none := hspot (by omega)
      have hadd : ∀ j, (a.add (i * 2)).add j = ⟨a.block, a.off + i * 2 + j, none⟩ := fun j => by
        obtain ⟨b, o, s⟩ := a
        simp only at hsp
        subst hsp
        rw [addr_off2, addr_off2]
      have k0 := hat 0 (by omega); rw [hadd] at k0
      have k1 := hat 1 (by omega); rw [hadd] at k1
      exact ⟨⟨z0.data.toList, z1.data.toList⟩, hsp, ⟨by simpa using k0, by simpa using k1⟩, by simpa using hw0, by simpa using hw1⟩
    obtain ⟨f, hf⟩ := @choose_lt Lb ⟨⟨[], []⟩⟩ len _ each
    refine ⟨some a, (List.range len).map f, cap, by simp, ?_, by simp; omega, by simp; omega, hm, ?_, ?_⟩
    · intro i hil
      have hil' : i < len := by simpa using hil
      obtain ⟨hsp, hk, hfit⟩ := hf i hil'
      obtain ⟨b, o, s⟩ := a
      simp only at hsp
      subst hsp
      exact ⟨b, o, rfl, by simpa using hk.1, by simpa using hk.2, by simpa using hfit.1, by simpa using hfit.2⟩
    · simp only [Prod.mk.injEq] at hx
      obtain ⟨rfl, _⟩ := hx
      have hb1 : ∀ d ∈ (List.range len).map D, 1 ≤ Rows.uptoBulk d := fun d hd => by
        obtain ⟨i, hi, rfl⟩ := List.mem_map.1 hd
        obtain ⟨cs', hc, ht'⟩ := hcell i (by have := List.mem_range.1 hi; omega)
        rw [hC] at hc
        obtain ⟨ys, n', hn', hy, hlen, hyl, hf⟩ := DataW.trod_struct he ht'
        injection hy with hy _
        rw [hy]
        simp only [Rows.uptoBulk]; omega
      have := bulk_len _ hb1
      simp only [Rows.uptoBulk, List.length_map, List.length_range] at this ⊢
      omega
    · intro tys ds hz j hj hd
      simp only [Prod.mk.injEq] at hx
      obtain ⟨rfl, _⟩ := hx
      have h := sized_slice hz hj hd ht
      rw [hb] at h
      simp only [List.length_map, List.length_range] at h ⊢
      exact Nat.le_trans (Nat.mul_le_mul_right _ (by omega)) h

/-- AN ARGUMENT OF TYPE []api.Clause. -/
theorem open_clauses {t e tl te ti ts : TypeId} {f0 f1 f2 : Field} (ht : P.underlying t = some (.slice e)) (he : P.underlying e = some (.struct #[f0, f1, f2])) (hC : P.cellsOf e = 3)
    (hf0 : f0.offset = 0 ∧ f1.offset = 1 ∧ f2.offset = 2) (hft : f0.type = ti ∧ f1.type = ts ∧ f2.type = tl)
    (hi : P.underlying ti = some (.int .i64)) (hs : P.underlying ts = some .string) (hl : P.underlying tl = some (.slice te)) (hte : P.underlying te = some .string)
    (c0 : P.cellsOf ti = 1) (c1 : P.cellsOf ts = 1) (c2 : P.cellsOf tl = 1) (c3 : P.cellsOf te = 1)
    {W : World} {b0 : Nat} {v : Value} {d0 : DataW H} {p : List MemPlace}
    (hv : Value.okWide P W .any b0 t v) (h0 : DataW.Trod enc P W 0 (fun _ => true) true t v d0 p) :
    ∃ (a : Option Addr) (l : List Cl) (cap : Nat), v = .slice a l.length cap ∧ (∀ (i : Nat) (h : i < l.length), ∃ b o, a = some ⟨b, o, none⟩ ∧
        (W.cell? ⟨b, o + i * 3, none⟩ = some (.int .i64 l[i].kind) ∧ W.cell? ⟨b, o + i * 3 + 1, none⟩ = some (strV l[i].key) ∧ W.cell? ⟨b, o + i * 3 + 2, none⟩ = some (.slice l[i].la l[i].vals.length l[i].lc)) ∧ l[i].Fit W ∧
        -9223372036854775808 ≤ l[i].kind ∧ l[i].kind ≤ 9223372036854775807) ∧ l.length ≤ maxLen ∧ l.length ≤ cap ∧ cap ≤ maxLen ∧ l.length ≤ Rows.uptoBulk d0 := by
  obtain ⟨a0, len, cap, rfl⟩ := okWide_slice ht hv
  obtain ⟨fuel, hf⟩ := h0
  obtain ⟨t0, t1, t2⟩ := hft
  obtain ⟨o0, o1, o2⟩ := hf0
  rcases open_slice ht hf with ⟨hcs, hx⟩ | ⟨a, len', cap', m, n, D, Pl, hcs, _, hl1, hm, hmm, hx, hcell⟩
  · simp [Value.cells] at hcs
    obtain ⟨rfl, rfl, rfl⟩ := hcs
    exact ⟨none, [], 0, rfl, fun i hi => absurd hi (Nat.not_lt_zero _), Nat.zero_le _, Nat.le_refl _, Nat.zero_le _, Nat.zero_le _⟩
  · simp [Value.cells] at hcs
    obtain ⟨rfl, rfl, rfl⟩ := hcs
    simp only [if_true] at hmm
    have hspot : 0 < len → a.spot = none := fun h0 => by
      obtain ⟨cs', hc, _⟩ := hcell 0 (by omega)
      rw [hC] at hc
      obtain ⟨_, hcl, hat⟩ := World.cells?_some hc
      match cs', hcl with
      | u0 :: _, _ => exact World.cell?_spot (hat 0 (by omega))
    have each : ∀ i, i < len → ∃ x : Cl, (a.spot = none) ∧ (W.cell? ⟨a.block, a.off + i * 3, none⟩ = some (.int .i64 x.kind) ∧ W.cell? ⟨a.block, a.off + i * 3 + 1, none⟩ = some (strV x.key) ∧ W.cell? ⟨a.block, a.off + i * 3 + 2, none⟩ = some (.slice x.la x.vals.length x.lc)) ∧ x.Fit W ∧
        -9223372036854775808 ≤ x.kind ∧ x.kind ≤ 9223372036854775807 := fun i hil => by
      obtain ⟨cs', hc, ht'⟩ := hcell i (by omega)
      rw [hC] at hc
      obtain ⟨ys, n', hn', hy, hlen, hyl, hf⟩ := DataW.trod_struct he ht'
      obtain ⟨_, hcl, hat⟩ := World.cells?_some hc
      obtain ⟨u0, u1, u2, rfl⟩ : ∃ u0 u1 u2, cs' = [u0, u1, u2] := by
        match cs', hcl with
        | [u0, u1, u2], _ => exact ⟨u0, u1, u2, rfl⟩
      have g0 := hf 0 f0 rfl
      have g1 := hf 1 f1 rfl
      have g2 := hf 2 f2 rfl
      have hys : ∀ j, j < 3 → ∃ y, ys[j]? = some y := fun j hj => ⟨ys[j]'(by rw [hyl]; exact hj), List.getElem?_eq_getElem _⟩
      obtain ⟨y0, hy0⟩ := hys 0 (by omega)
      obtain ⟨y1, hy1⟩ := hys 1 (by omega)
      obtain ⟨y2, hy2⟩ := hys 2 (by omega)
      rw [t0, o0, c0, hy0] at g0
      rw [t1, o1, c1, hy1] at g1
      rw [t2, o2, c2, hy2] at g2
      obtain ⟨z0, hz0, _, hw0⟩ := DataW.trod_int hi g0
      obtain ⟨z1, hz1, _, hw1⟩ := DataW.trod_string hs g1
      obtain ⟨la, ll, lc, hz2, hL, hlm, hlc, _⟩ := open_strs_any hl hte c3 (v := u2) g2
      simp at hz0 hz1
      subst hz0; subst hz1; subst hz2
      have hsp : a.spot = none := hspot (by omega)
      have hadd : ∀ j, (a.add (i * 3)).add j = ⟨a.block, a.off + i * 3 + j, none⟩ := fun j => by
        obtain ⟨b, o, s⟩ := a
        simp only at hsp
        subst hsp
        rw [addr_off2, addr_off2]
      have k0 := hat 0 (by omega); rw [hadd] at k0
      have k1 := hat 1 (by omega); rw [hadd] at k1
      have k2 := hat 2 (by omega); rw [hadd] at k2
      have b0 := bounds_i64 hw0
      exact ⟨⟨z0, z1.data.toList, la, ll, lc⟩, hsp, ⟨k0, by simpa using k1, k2⟩, ⟨by simpa using hw1, hL, hlm, hlc⟩, b0.1, b0.2⟩
    obtain ⟨f, hf⟩ := @choose_lt Cl ⟨⟨0, [], none, [], 0⟩⟩ len _ each
    refine ⟨some a, (List.range len).map f, cap, by simp, ?_, by simp; omega, by simp; omega, hm, ?_⟩
    · intro i hil
      have hil' : i < len := by simpa using hil
      obtain ⟨hsp, hk, hfit⟩ := hf i hil'
      obtain ⟨b, o, s⟩ := a
      simp only at hsp
      subst hsp
      exact ⟨b, o, rfl, by simpa using hk, by simpa using hfit.1, by simpa using hfit.2⟩
    · simp only [Prod.mk.injEq] at hx
      obtain ⟨rfl, _⟩ := hx
      have hb1 : ∀ d ∈ (List.range len).map D, 1 ≤ Rows.uptoBulk d := fun d hd => by
        obtain ⟨i, hi, rfl⟩ := List.mem_map.1 hd
        obtain ⟨cs', hc, ht'⟩ := hcell i (by have := List.mem_range.1 hi; omega)
        rw [hC] at hc
        obtain ⟨ys, n', hn', hy, hlen, hyl, hf⟩ := DataW.trod_struct he ht'
        injection hy with hy _
        rw [hy]
        simp only [Rows.uptoBulk]; omega
      have := bulk_len _ hb1
      simp only [Rows.uptoBulk, List.length_map, List.length_range] at this ⊢
      omega
end
end Go.Proofs.YtpkjllliidpgoaaGreatDoor
