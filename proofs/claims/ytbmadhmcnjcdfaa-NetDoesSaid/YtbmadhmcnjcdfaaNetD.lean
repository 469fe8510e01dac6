/- Package net: the search by Ids; find. -/
import Derived.Test.YtbmadhmcnjcdfaaNetC
import Derived.Lib.SliceRun
set_option linter.unusedSimpArgs false
set_option linter.unusedVariables false
namespace Go.Proofs.Ytbmadhmcnjcdfaa
open Go.ChangeShapes Go.WideShapes Go.ChangeAt Go.RowKit Go.Base Go.Net

section
variable {T : TypeId} {F G : Nat → Prop} {w w' : World} {p : Nat} {s : St} {A : Option Addr} {c : Nat} {vs : List PkV} {x : PkV}
/-- What a search answers: where the Id stands, and whether it does. -/
def FoundAt (vs : List PkV) (i : Int) (k : Nat) (r : Bool) : Prop := (r = true → ∃ h : k < vs.length, vs[k].p.id = i) ∧ (r = false → ∀ x ∈ vs, x.p.id ≠ i)
def SeekPost (vs : List PkV) (i : Int) (w : World) (e : Ending) (w' : World) : Prop := ∃ (k : Nat) (r : Bool), e = .returned (.tuple #[.int .i64 (k : Int), .bool r]) ∧ FoundAt vs i k r ∧ Below w.heap.size w w'
set_option maxHeartbeats 2000000 in
set_option maxRecDepth 20000 in
theorem seek_any {b : Nat} (h : w.ownsRow b 37 4 (.slice A vs.length c) vs.length (cellsP vs)) (hasc : (vs.map (·.p)).Pairwise (fun a b => a.id < b.id)) (hf : vs.length ≤ 4096) (i : Int) :
    Calls Try.prog 39 #[.slice A vs.length c, .int .i64 i, .func (.func 40) #[] #[]] w (SeekPost vs i w) := by
  have HAt := Lib.hid (fun (k : Nat) (hk : k < vs.length) (V : World) (hV : Below w.heap.size w V) => rowP_at (own_moved (p := fun _ => False) h (Below.movedNew hV) (fun _ _ h => h)) hk)
  have HAs := Lib.hid (fun (j k : Nat) (hj : j < vs.length) (hk : k < vs.length) (hjk : j < k) => by
    have := List.pairwise_iff_getElem.1 hasc j k (by simpa using hj) (by simpa using hk) hjk
    simpa using this : ∀ (j k : Nat) (hj : j < vs.length) (hk : k < vs.length), j < k → vs[j].p.id < vs[k].p.id)
  obtain ⟨N, HN⟩ : ∃ N, Hid (N = vs.length) := ⟨_, Lib.hid rfl⟩
  rw [← HN.out] at hf ⊢
  clear h hasc
  go_enter Try.func39, Try.ntmps39
  go_wp2
  go_loopw [9, 10] (fun iv jv wr => ∃ lo hi : Nat, lo ≤ hi ∧ hi ≤ N ∧ iv = .int .i64 (lo : Int) ∧ jv = .int .i64 (hi : Int) ∧ Hid (Below w.heap.size w wr) ∧ Hid ((∀ k (hk : k < vs.length), k < lo → vs[k].p.id < i) ∧ (∀ k (hk : k < vs.length), hi ≤ k → i ≤ vs[k].p.id))) (fun iv jv _ => (intOf jv).toNat - (intOf iv).toNat)
  case atStart => exact ⟨0, N, Nat.zero_le _, Nat.le_refl _, rfl, rfl, Lib.hid (Below.refl _ _), Lib.hid ⟨fun k _ h => by omega, fun k hk h => by have := HN.out; omega⟩⟩
  case round =>
    obtain ⟨lo, hi, hlh, hhN, rfl, rfl, HB, HP⟩ := hrel
    by_cases hlt : lo < hi
    · have hlt' : (lo : Int) < (hi : Int) := by omega
      obtain ⟨m, hm⟩ : ∃ m, m = (lo + hi) / 2 := ⟨_, rfl⟩
      have hmm : ((lo : Int) + (hi : Int)) / 2 = (m : Int) := by omega
      have hm1 : lo ≤ m := by omega
      have hm2 : m < hi := by omega
      have hmN : (m : Int) < (N : Int) := by omega
      have hm0 : (0 : Int) ≤ (m : Int) := by omega
      clear hm
      have hmv : m < vs.length := by have := HN.out; omega
      obtain ⟨g, rfl, c0, c1, c2, c3⟩ := HAt.out m hmv wr HB.out
      have HLt := Lib.hid (fun (h : vs[m].p.id < i) k (hk : k < vs.length) (hkm : k < m + 1) => by
        rcases (by omega : k < m ∨ k = m) with h1 | rfl
        · have := HAs.out k m hk hmv h1; omega
        · exact h : vs[m].p.id < i → ∀ k (hk : k < vs.length), k < m + 1 → vs[k].p.id < i)
      have HGe := Lib.hid (fun (h : ¬ vs[m].p.id < i) k (hk : k < vs.length) (hkm : m ≤ k) => by
        rcases (by omega : m < k ∨ m = k) with h1 | rfl
        · have := HAs.out m k hmv hk h1; omega
        · omega : ¬ vs[m].p.id < i → ∀ k (hk : k < vs.length), m ≤ k → i ≤ vs[k].p.id)
      obtain ⟨z, hz⟩ : ∃ z, z = vs[m].p.id := ⟨_, rfl⟩
      obtain ⟨v3, hv3⟩ : ∃ v, v = vs[m].val := ⟨_, rfl⟩
      obtain ⟨v1, hv1⟩ : ∃ v, v = vs[m].p.fr := ⟨_, rfl⟩
      obtain ⟨v2, hv2⟩ : ∃ v, v = vs[m].p.dst := ⟨_, rfl⟩
      rw [← hz] at c0 HLt HGe
      rw [← hv3] at c3
      rw [← hv1] at c1
      rw [← hv2] at c2
      clear hz hv1 hv2 hv3 hmv
      by_cases hzi : z < i
      · have hcm : cmpI z i = -1 := by unfold cmpI; rw [if_pos hzi]
        go_wp2_with (go_at_call 40; refine Calls.mono (by_id _ _ _ _ z i _ rfl) ?_; rintro e w1 ⟨rfl, hb1⟩; have HB1 := Lib.hid (HB.out.trans (hb1.mono HB.out.size)); clear hb1; rw [hcm])
        go_roundw
        case rel => exact ⟨m + 1, hi, by omega, hhN, by go_num, rfl, HB1, Lib.hid ⟨HLt.out hzi, HP.out.2⟩⟩
        case measure => simp [intOf]; omega
      · have hcm : ¬ cmpI z i < 0 := by unfold cmpI; rw [if_neg hzi]; split <;> omega
        go_wp2_with (go_at_call 40; refine Calls.mono (by_id _ _ _ _ z i _ rfl) ?_; rintro e w1 ⟨rfl, hb1⟩; have HB1 := Lib.hid (HB.out.trans (hb1.mono HB.out.size)); clear hb1)
        go_roundw
        case rel => exact ⟨lo, m, by omega, by omega, rfl, rfl, HB1, Lib.hid ⟨HP.out.1, HGe.out hzi⟩⟩
        case measure => simp [intOf]; omega
    · obtain rfl : hi = lo := by omega
      have hlt' : ¬ (hi : Int) < (hi : Int) := by omega
      by_cases hin : hi < N
      · have hin' : (hi : Int) < (N : Int) := by omega
        have hm0 : (0 : Int) ≤ (hi : Int) := by omega
        have hmv : hi < vs.length := by have := HN.out; omega
        obtain ⟨g, rfl, c0, c1, c2, c3⟩ := HAt.out hi hmv wr HB.out
        have HEq := Lib.hid (⟨fun h => ⟨hmv, by simpa using h⟩, fun h x hx => by
          obtain ⟨k, hk, rfl⟩ := List.getElem_of_mem hx
          have h1 : vs[hi].p.id ≠ i := by simpa using h
          rcases (by omega : k < hi ∨ k = hi ∨ hi < k) with h2 | rfl | h2
          · have := HP.out.1 k hk h2; omega
          · exact h1
          · have := HAs.out hi k hmv hk h2; have := HP.out.2 hi hmv (Nat.le_refl _); omega⟩ : FoundAt vs i hi (decide (vs[hi].p.id = i)))
        obtain ⟨z, hz⟩ : ∃ z, z = vs[hi].p.id := ⟨_, rfl⟩
        obtain ⟨v3, hv3⟩ : ∃ v, v = vs[hi].val := ⟨_, rfl⟩
        obtain ⟨v1, hv1⟩ : ∃ v, v = vs[hi].p.fr := ⟨_, rfl⟩
        obtain ⟨v2, hv2⟩ : ∃ v, v = vs[hi].p.dst := ⟨_, rfl⟩
        rw [← hz] at c0 HEq
        rw [← hv3] at c3
        rw [← hv1] at c1
        rw [← hv2] at c2
        clear hz hv1 hv2 hv3 hmv
        obtain ⟨r, hr⟩ : ∃ r, r = decide (z = i) := ⟨_, rfl⟩
        have hcm : (cmpI z i == 0) = r := by
          rw [hr]; unfold cmpI
          by_cases h1 : z < i
          · rw [if_pos h1, decide_eq_false (by omega)]; rfl
          · rw [if_neg h1]
            by_cases h2 : i < z
            · rw [if_pos h2, decide_eq_false (by omega)]; rfl
            · rw [if_neg h2, decide_eq_true (by omega)]; rfl
        rw [← hr] at HEq
        clear hr
        go_wp2_with (go_at_call 40; refine Calls.mono (by_id _ _ _ _ z i _ rfl) ?_; rintro e w1 ⟨rfl, hb1⟩; have HB1 := Lib.hid (HB.out.trans (hb1.mono HB.out.size)); clear hb1; obtain ⟨zc, hzc⟩ : ∃ zc, zc = cmpI z i := ⟨_, rfl⟩; rw [← hzc] at hcm ⊢; clear hzc)
        go_ret2
        exact ⟨hi, r, rfl, HEq.out, HB1.out⟩
      · have hin' : ¬ (hi : Int) < (N : Int) := by omega
        go_wp2
        go_ret2
        refine ⟨hi, false, rfl, ⟨(fun h => by cases h), fun _ x hx => ?_⟩, HB.out⟩
        obtain ⟨k, hk, rfl⟩ := List.getElem_of_mem hx
        have := HP.out.1 k hk (by have := HN.out; omega)
        omega
def FindPost (s : St) (vs : List PkV) (i : Int) (w : World) (e : Ending) (w' : World) : Prop :=
  Below w.heap.size w w' ∧ (if idx s.l i < s.l.length then e = .returned (.tuple #[.int .i64 (idx s.l i : Int), .int .i64 0]) else e = .returned (.tuple #[.int .i64 0, .int .i64 4]))
theorem find_any (h : NetX T w F p s A c vs) (i : Int) : Calls Try.prog 31 #[.pointer (some ⟨p, 0, none⟩), .int .i64 i] w (FindPost s vs i w) := by
  have HC := Lib.hid (closed_any h)
  have HSk := Lib.hid (seek_any h.row (by rw [h.is]; exact h.good.asc) h.few i)
  obtain ⟨c0, c1, c2, c3⟩ := h.cells
  have HFn := Lib.hid (fun (k : Nat) (r : Bool) (hf : FoundAt vs i k r) => (⟨fun hr => by
      obtain ⟨hk, hi⟩ := hf.1 hr
      have hk' : k < s.l.length := by rw [← h.len]; exact hk
      have e : s.l[k].id = i := by rw [← hi]; simp only [← h.is, List.getElem_map]
      have h1 := idx_at h.good.asc hk'
      rw [e] at h1
      exact ⟨by rw [h1]; exact hk', h1⟩, fun hr hlt => by
      have h1 := idx_hit hlt
      obtain ⟨x, hx, he⟩ : ∃ x ∈ vs, x.p = s.l[idx s.l i] := by
        have : s.l[idx s.l i] ∈ vs.map (·.p) := by rw [h.is]; exact List.getElem_mem hlt
        obtain ⟨x, hx, he⟩ := List.mem_map.1 this
        exact ⟨x, hx, he⟩
      exact hf.2 hr x hx (by rw [he]; exact h1)⟩ : (r = true → idx s.l i < s.l.length ∧ idx s.l i = k) ∧ (r = false → ¬ idx s.l i < s.l.length)))
  clear h
  go_enter Try.func31, Try.ntmps31
  go_wp2_with (first
    | (go_at_call 26; refine Calls.mono HC.out ?_; rintro e w1 ⟨rfl, rfl⟩)
    | (go_at_call 39; refine Calls.mono HSk.out ?_; rintro e w1 ⟨k, r, rfl, hf, hb⟩; have HF := Lib.hid (HFn.out k r hf); have HB := Lib.hid hb; clear hf hb))
  · rename_i hr
    go_ret2
    refine ⟨HB.out, ?_⟩
    rw [if_neg (HF.out.2 (by simpa using hr))]
    rfl
  · rename_i hr
    go_ret2
    refine ⟨HB.out, ?_⟩
    have h9 := HF.out.1 (by simpa using hr)
    rw [if_pos h9.1, h9.2]
    rfl
end
end Go.Proofs.Ytbmadhmcnjcdfaa
