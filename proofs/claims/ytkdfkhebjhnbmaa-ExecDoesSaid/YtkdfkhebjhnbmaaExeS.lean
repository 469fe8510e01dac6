/- Package exec: the reference's Start, Finish and Kill, where they change the list. -/
import Derived.Test.YtkdfkhebjhnbmaaExeR
import Derived.Test.YtkdfkhebjhnbmaaHeldZ
set_option linter.unusedSimpArgs false
set_option linter.unusedVariables false
namespace Go.Proofs.Ytkdfkhebjhnbmaa
open Go.ChangeShapes Go.WideShapes Go.ChangeAt Go.RowKit Go.Base Go.Que Go.Exe

theorem cells_of_block {w : World} {g : Nat} {cs : Array Value} {t : TypeId} {z : Nat × Nat} (h : w.heap[g]? = some (.cells cs t z)) : ∀ j u, cs.toList[j]? = some u → w.cell? ((⟨g, 0, none⟩ : Addr).add j) = some u := fun j u hu => by
  have e : (⟨g, 0, none⟩ : Addr).add j = ⟨g, j, none⟩ := by unfold Addr.add; split <;> simp_all
  rw [e, cell_of_row _ _ j _ _ _ h, ← Array.getElem?_toList]; exact hu
/-- A part of a slice of runs, as an append reads it. -/
theorem rd_src {w : World} {A : Option Addr} {l : List Rn} (h : Rd w A l) {i m : Nat} (hi : i + m ≤ l.length) {AD : Option Addr} (hA : 0 < m → AD = A.map (fun a => (⟨a.block, a.off + i * 4, none⟩ : Addr))) : 0 < m → ∃ ad, AD = some ad ∧ ∀ j u, (cellsR ((l.drop i).take m))[j]? = some u → w.cell? (ad.add j) = some u := fun hm => by
  obtain ⟨g, e, _⟩ := h i (by omega)
  rw [hA hm, e]
  refine ⟨_, rfl, fun j u hu => ?_⟩
  have hlen : ((l.drop i).take m).length = m := by rw [List.length_take, List.length_drop]; omega
  have hj : j < m * 4 := by
    have := (List.getElem?_eq_some_iff.1 hu).1
    rw [cellsR_len, hlen] at this; exact this
  have hq : j / 4 < m := by omega
  obtain ⟨g', e', hc⟩ := h (i + j / 4) (by omega)
  rw [e] at e'
  injection e' with e'; injection e' with e'
  subst e'
  have h1 := cellsR_at ((l.drop i).take m) (j / 4) (j % 4) (by rw [hlen]; exact hq) (by omega)
  rw [show j / 4 * 4 + j % 4 = j by omega, hu] at h1
  have h2 := hc (j % 4) (by omega)
  rw [add_off]
  show w.cell? ⟨g, 0 + i * 4 + j, none⟩ = some u
  rw [show 0 + i * 4 + j = (i + j / 4) * 4 + j % 4 by omega, h2, h1]
  simp [List.getElem_take, List.getElem_drop]
theorem own_wideR {w : World} {b b' n s : Nat} {e : TypeId} {v : Value} {xs : List Value} (h : w.ownsRow b e s v n xs) (hb : b' ≤ b) : w.ownsRow b' e s v n xs := by
  refine ⟨h.1, ?_⟩
  rcases h.2 with h0 | ⟨g, cap, cur, h1, h2, h3⟩
  · exact .inl h0
  · exact .inr ⟨g, cap, cur, h1, Nat.le_trans hb h2, h3⟩
theorem ins_cells {L : List Rn} {i n : Nat} (r : Rn) (hn : n = L.length) : (cellsR ((L.drop 0).take i) ++ goC r) ++ cellsR ((L.drop i).take (n - i)) = cellsR (L.take i ++ r :: L.drop i) := by
  rw [List.drop_zero, List.take_of_length_le (l := L.drop i) (by rw [List.length_drop]; omega), cellsR_append]
  simp [cellsR]
theorem del_cells {L : List Rn} {i n : Nat} (hn : n = L.length) : cellsR ((L.drop 0).take i) ++ cellsR ((L.drop (i + 1)).take (n - (i + 1))) = cellsR (L.take i ++ L.drop (i + 1)) := by
  rw [List.drop_zero, List.take_of_length_le (l := L.drop (i + 1)) (by rw [List.length_drop]; omega), cellsR_append]
/-- What a change of the list leaves. -/
def ROp (y : Nat) (slots : Int) (L : List Rn) (v : Value) (w : World) (e : Ending) (w' : World) : Prop := e = .returned v ∧ RYP (fun k => w.heap.size ≤ k) w' y slots L ∧ Moved (fun k => k = y) w w'
theorem ry_end {w V : World} {y : Nat} {slots : Int} {L' : List Rn} {A0 A : Option Addr} {c0 n0 n c : Nat} (hy : w.heap[y]? = some (.cells #[.int .i64 slots, .slice A0 n0 c0] 48 (0, 0))) (hb : Below w.heap.size w V) {xs : List Value} (ho : V.ownsRow w.heap.size 41 4 (.slice A n c) n xs) (hn : n = L'.length) (hx : xs = cellsR L') :
    RYP (fun k => w.heap.size ≤ k) (V.setCell ⟨y, 1, none⟩ (.slice A n c)) y slots L' ∧ Moved (fun k => k = y) w (V.setCell ⟨y, 1, none⟩ (.slice A n c)) := by
  subst hn
  subst hx
  have hyl := heap_lt hy
  have hyV := (hb.block _ hyl).trans hy
  refine ⟨⟨A, c, by rw [heap_set hyV]; rfl, ?_, fun k hk => (ho.lt k hk).1⟩, (Below.movedNew (p := fun k => k = y) hb).setCell (.inr rfl) _⟩
  have h1 := own_moved (p := fun k => k = y) ho ((Moved.refl (fun k => k = y) V).setCell (.inr rfl) (.slice A L'.length c) (i := 1)) (fun k hk e => by have := (ho.lt k hk).1; omega)
  exact own_wideR h1 (Nat.zero_le _)
section
variable {w : World} {y : Nat} {slots started : Int} {L : List Rn}
theorem info_going : ∃ i0, Try.prog.info? 41 = some i0 ∧ i0.zero = some zGo ∧ i0.size = 4 ∧ i0.bytes = 40 := info_parts (P := Try.prog) (e := 41) (z := zGo) (size := 4) (bytes := 40) (by kernel_rfl)
set_option maxHeartbeats 4000000 in
set_option maxRecDepth 20000 in
theorem rstart_ok (h : RY w y slots L) {k : Ky} {u now num : Int} (hN : (L.length : Int) < slots) (hs : 1 ≤ slots ∧ slots ≤ 65536) (hu : now < u) (hno : ∀ r ∈ L, r.key ≠ k) :
    Calls Try.prog 11 #[.pointer (some ⟨y, 0, none⟩), kyV k, .int .i64 u, .int .i64 now] w (ROp y slots (insR ⟨k, u, num⟩ L) (.int .i64 0) w) := by
  have hL6 : L.length ≤ 65536 := by omega
  have HFi := Lib.hid (fun V (hV : Below w.heap.size w V) => rfind_any (h.later hV) k hL6)
  have HNo := Lib.hid hno
  obtain ⟨i0, hinfo, hz0, hz1, hz2⟩ := info_going
  obtain ⟨A, c, hy, ho⟩ := h
  have HYh := Lib.hid hy
  have HO := Lib.hid ho
  have hyl := heap_lt hy
  have HRd := Lib.hid (fun V (hV : Below w.heap.size w V) => (rd_of ho rfl).later hV)
  obtain ⟨n, hn⟩ : ∃ n, n = L.length := ⟨_, rfl⟩
  rw [← hn] at hy hN hL6
  have HN := Lib.hid hn
  have HYc := Lib.hid (fun V (hV : Below w.heap.size w V) => (show V.cell? ⟨y, 1, none⟩ = some (.slice A n c) ∧ V.cell? ⟨y, 0, none⟩ = some (.int .i64 slots) ∧ V.frozen? ⟨y, 1, none⟩ = false from ⟨cell_later hV (cell_of_row _ _ 1 _ _ _ hy), cell_later hV (cell_of_row _ _ 0 _ _ _ hy), (cells_of_heap ((hV.block _ hyl).trans hy)).2 1⟩))
  have hu2 : ¬ u ≤ now := by omega
  have hfl : decide (slots ≤ (n : Int)) = false := by rw [decide_eq_false_iff_not]; omega
  have HF2 : Hid (∀ idx, FindIs L k idx → idx = -1) := Lib.hid (fun idx hf => by
    rcases hf with ⟨h, _⟩ | ⟨i, hi, rfl, e⟩
    · exact h
    · exact absurd e (hno _ (List.getElem_mem hi)))
  have HB1 := Lib.hid (below_alloc w (.cells #[.string k.job, .int .i64 k.occ, .int .i64 k.host] 32))
  have HKb : Hid (∀ V, Below (w.alloc (.cells #[.string k.job, .int .i64 k.occ, .int .i64 k.host] 32)).heap.size (w.alloc (.cells #[.string k.job, .int .i64 k.occ, .int .i64 k.host] 32)) V → V.heap[w.heap.size]? = some (.cells #[.string k.job, .int .i64 k.occ, .int .i64 k.host] 32 (0, 0))) := Lib.hid (fun V hV => (hV.block _ (by simp)).trans (heap_new w _))
  obtain ⟨kj, ko, kg⟩ := k
  clear hy ho hn hno hyl
  go_enter Try.func11, Try.ntmps11
  go_wp2_with (go_at_call 18; refine Calls.mono (HFi.out _ HB1.out) ?_; rintro e w1 ⟨idx, rfl, hf, hb⟩; have hi0 := HF2.out idx hf; have HB2 := Lib.hid (HB1.out.trans (hb.mono (by simp))); obtain ⟨y1, y0, _⟩ := HYc.out _ HB2.out; have HK2 := Lib.hid (HKb.out _ hb); subst hi0; clear hf hb)
  go_quiet (fail)
  go_upto_block 0 with fail
  go_cut [9] from 27 to 47 (fun iv wx => ∃ i : Nat, i ≤ n ∧ iv = .int .i64 (i : Int) ∧ Hid (∀ a ∈ L.take i, a.until_ ≤ u) ∧ Hid (∀ a, L[i]? = some a → u < a.until_) ∧ Hid (Below w.heap.size w wx) ∧ Hid (wx.heap[w.heap.size]? = some (.cells #[.string kj, .int .i64 ko, .int .i64 kg] 32 (0, 0))))
  case first =>
    go_wp2_with fail
    go_loopw [9] (fun iv wr => ∃ i : Nat, i ≤ n ∧ iv = .int .i64 (i : Int) ∧ Hid (∀ a ∈ L.take i, a.until_ ≤ u) ∧ Hid (Below w.heap.size w wr) ∧ Hid (wr.heap[w.heap.size]? = some (.cells #[.string kj, .int .i64 ko, .int .i64 kg] 32 (0, 0)))) (fun iv _ => n - (intOf iv).toNat)
    case atStart => exact ⟨0, by omega, rfl, Lib.hid (fun a ha => by simp at ha), Lib.hid (below_drewN HB2.out _), Lib.hid HK2.out⟩
    case round =>
      clear HB2 HK2 y1 y0
      obtain ⟨i, hi, rfl, HT, HB, HK⟩ := hrel
      have hi0 : (0 : Int) ≤ (i : Int) := by omega
      obtain ⟨cy1, _, _⟩ := HYc.out _ HB.out
      by_cases hid : i < n
      · have hid' : (i : Int) < (n : Int) := by omega
        have hil : i < L.length := by rw [← HN.out]; exact hid
        obtain ⟨g, hA, hc⟩ := HRd.out _ HB.out i hil
        have HTk : Hid (∀ r ∈ L.take (i + 1), r = L[i] ∨ r ∈ L.take i) := Lib.hid (fun r hr => by
          rw [List.take_succ_eq_append_getElem hil] at hr
          rcases List.mem_append.1 hr with h | h
          · exact .inr h
          · rw [List.mem_singleton] at h; exact .inl h)
        have HGt : Hid (∀ a, L[i]? = some a → a = L[i]) := Lib.hid (fun a ha => by rw [List.getElem?_eq_getElem hil] at ha; exact (Option.some.inj ha).symm)
        obtain ⟨r, hr⟩ : ∃ r, r = L[i] := ⟨_, rfl⟩
        rw [← hr] at hc HTk HGt
        obtain ⟨⟨j, o, gg⟩, ru, rnum⟩ := r
        have a3 : wr.cell? ⟨g, i * 4 + 3, none⟩ = some (.int .i64 ru) := (hc 3 (by omega)).trans rfl
        clear hr hc hil
        subst hA
        by_cases hru : ru ≤ u
        · go_wp2
          go_roundw
          case rel => exact ⟨i + 1, by omega, by go_num, Lib.hid (fun r hr => by
            rcases HTk.out r hr with rfl | h
            · exact hru
            · exact HT.out r h), HB, HK⟩
          case measure => simp [intOf]; omega
        · have hru2 : decide (ru ≤ u) = false := by rw [decide_eq_false_iff_not]; exact hru
          go_wp2
          go_meet
          exact ⟨i, hi, rfl, HT, Lib.hid (fun a ha => by rw [HGt.out a ha]; show u < ru; omega), HB, HK⟩
      · have hid' : ¬ (i : Int) < (n : Int) := by omega
        go_wp2
        go_meet
        exact ⟨i, hi, rfl, HT, Lib.hid (fun a ha => by rw [List.getElem?_eq_none (by rw [← HN.out]; omega)] at ha; cases ha), HB, HK⟩
  case rest =>
    clear HB2 HK2 y1 y0 HKb HFi HF2 HNo HB1
    obtain ⟨i, hi, rfl, HT, HG, HB, HK⟩ := hcut
    have HIns := Lib.hid (insR_at (r := ⟨⟨kj, ko, kg⟩, u, num⟩) (i := i) (by rw [← HN.out]; exact hi) HT.out HG.out)
    have HNl : Hid (L.take i ++ L.drop i = L ∧ (L.drop i).take (n - i) = L.drop i) := Lib.hid ⟨List.take_append_drop _ _, List.take_of_length_le (by rw [List.length_drop, ← HN.out]; omega)⟩
    clear HT HG
    have hi0 : (0 : Int) ≤ (i : Int) := by omega
    rcases (HO.out).2 with ⟨hA, hn0⟩ | ⟨g, cap, cur, hA, _, _, hnc, hcm, _⟩
    · injection hA with hA hA2 hA3
      subst hA
      subst hA3
      have hn00 : n = 0 := by rw [HN.out]; exact hn0
      subst hn00
      obtain rfl : i = 0 := by omega
      obtain rfl : L = [] := List.eq_nil_of_length_eq_zero hn0
      clear hn0
      go_wp2
      refine wp_region_heldz_drew (S := (fun V => Below w.heap.size w V ∧ V.heap[w.heap.size]? = some (.cells #[.string kj, .int .i64 ko, .int .i64 kg] 32 (0, 0)))) 23 (by kernel_rfl) ⟨HB.out.drew, HK.out⟩ (fun hHeld => ?_)
      refine at_world (C := fun V => wpAnyZ _ _ _ _ _ _ _ _ _ V) (P := fun V => Below w.heap.size w V ∧ V.heap[w.heap.size]? = some (.cells #[.string kj, .int .i64 ko, .int .i64 kg] 32 (0, 0))) ⟨HB.out.drew, HK.out⟩ (fun V18 hV => ?_)
      obtain ⟨r0, r1⟩ := hV
      have HB18 := Lib.hid r0
      have HK18 := Lib.hid r1
      clear hHeld r0 r1
      have hHeld := And.intro HB18.out HK18.out
      refine wpAnyZ_take (i := 0) (v := ?vv20) rfl (by kernel_rfl) (by kernel_rfl) (by kernel_rfl) (fun _ _ _ h => h) (Or.inl ⟨by rfl, ?hy20⟩) hHeld ?rr20
      case hy20 => (intro w' hSw; obtain ⟨s1, s2⟩ := hSw; obtain ⟨g1, g0, g2⟩ := HYc.out _ s1; have b0 := (cells_of_heap s2).1 0; have b1 := (cells_of_heap s2).1 1; have b2 := (cells_of_heap s2).1 2; go_simp; try with_reducible rfl)
      try simp only [Act.put, List.setIfInBounds_toArray, List.set_cons_zero, List.set_cons_succ, List.getElem_toArray, List.getElem_cons_succ, List.getElem_cons_zero]
      refine wpAnyZ_take (i := 2) (v := ?vv21) rfl (by kernel_rfl) (by kernel_rfl) (by kernel_rfl) (fun _ _ _ h => h) (Or.inl ⟨by rfl, ?hy21⟩) hHeld ?rr21
      case hy21 => (intro w' hSw; obtain ⟨s1, s2⟩ := hSw; obtain ⟨g1, g0, g2⟩ := HYc.out _ s1; have b0 := (cells_of_heap s2).1 0; have b1 := (cells_of_heap s2).1 1; have b2 := (cells_of_heap s2).1 2; go_simp; try with_reducible rfl)
      try simp only [Act.put, List.setIfInBounds_toArray, List.set_cons_zero, List.set_cons_succ, List.getElem_toArray, List.getElem_cons_succ, List.getElem_cons_zero]
      refine wpAnyZ_take (i := 3) (v := ?vv22) rfl (by kernel_rfl) (by kernel_rfl) (by kernel_rfl) (fun _ _ _ h => h) (Or.inl ⟨by rfl, ?hy22⟩) hHeld ?rr22
      case hy22 => (intro w' hSw; obtain ⟨s1, s2⟩ := hSw; obtain ⟨g1, g0, g2⟩ := HYc.out _ s1; have b0 := (cells_of_heap s2).1 0; have b1 := (cells_of_heap s2).1 1; have b2 := (cells_of_heap s2).1 2; go_simp; try with_reducible rfl)
      try simp only [Act.put, List.setIfInBounds_toArray, List.set_cons_zero, List.set_cons_succ, List.getElem_toArray, List.getElem_cons_succ, List.getElem_cons_zero]
      refine wpAnyZ_take (i := 4) (v := ?vv23) rfl (by kernel_rfl) (by kernel_rfl) (by kernel_rfl) (fun _ _ _ h => h) (Or.inl ⟨by rfl, ?hy23⟩) hHeld ?rr23
      case hy23 => (intro w' hSw; obtain ⟨s1, s2⟩ := hSw; obtain ⟨g1, g0, g2⟩ := HYc.out _ s1; have b0 := (cells_of_heap s2).1 0; have b1 := (cells_of_heap s2).1 1; have b2 := (cells_of_heap s2).1 2; go_simp; try with_reducible rfl)
      try simp only [Act.put, List.setIfInBounds_toArray, List.set_cons_zero, List.set_cons_succ, List.getElem_toArray, List.getElem_cons_succ, List.getElem_cons_zero]
      refine wpAnyZ_take (i := 5) (v := ?vv24) rfl (by kernel_rfl) (by kernel_rfl) (by kernel_rfl) (fun _ _ _ h => h) (Or.inl ⟨by rfl, ?hy24⟩) hHeld ?rr24
      case hy24 => (intro w' hSw; obtain ⟨s1, s2⟩ := hSw; obtain ⟨g1, g0, g2⟩ := HYc.out _ s1; have b0 := (cells_of_heap s2).1 0; have b1 := (cells_of_heap s2).1 1; have b2 := (cells_of_heap s2).1 2; go_simp; try with_reducible rfl)
      try simp only [Act.put, List.setIfInBounds_toArray, List.set_cons_zero, List.set_cons_succ, List.getElem_toArray, List.getElem_cons_succ, List.getElem_cons_zero]
      refine wpAnyZ_take (i := 6) (v := ?vv25) rfl (by kernel_rfl) (by kernel_rfl) (by kernel_rfl) (fun _ _ _ h => h) (Or.inl ⟨by rfl, ?hy25⟩) hHeld ?rr25
      case hy25 => (intro w' hSw; obtain ⟨s1, s2⟩ := hSw; obtain ⟨g1, g0, g2⟩ := HYc.out _ s1; have b0 := (cells_of_heap s2).1 0; have b1 := (cells_of_heap s2).1 1; have b2 := (cells_of_heap s2).1 2; go_simp; try with_reducible rfl)
      try simp only [Act.put, List.setIfInBounds_toArray, List.set_cons_zero, List.set_cons_succ, List.getElem_toArray, List.getElem_cons_succ, List.getElem_cons_zero]
      refine wpAnyZ_take (i := 7) (v := ?vv26) rfl (by kernel_rfl) (by kernel_rfl) (by kernel_rfl) (fun _ _ _ h => h) (Or.inl ⟨by rfl, ?hy26⟩) hHeld ?rr26
      case hy26 => (intro w' hSw; obtain ⟨s1, s2⟩ := hSw; obtain ⟨g1, g0, g2⟩ := HYc.out _ s1; have b0 := (cells_of_heap s2).1 0; have b1 := (cells_of_heap s2).1 1; have b2 := (cells_of_heap s2).1 2; go_simp; try with_reducible rfl)
      try simp only [Act.put, List.setIfInBounds_toArray, List.set_cons_zero, List.set_cons_succ, List.getElem_toArray, List.getElem_cons_succ, List.getElem_cons_zero]
      refine wpAnyZ_take (i := 9) (v := ?vv27) rfl (by kernel_rfl) (by kernel_rfl) (by kernel_rfl) (fun _ _ _ h => h) (Or.inl ⟨by rfl, ?hy27⟩) hHeld ?rr27
      case hy27 => (intro w' hSw; obtain ⟨s1, s2⟩ := hSw; obtain ⟨g1, g0, g2⟩ := HYc.out _ s1; have b0 := (cells_of_heap s2).1 0; have b1 := (cells_of_heap s2).1 1; have b2 := (cells_of_heap s2).1 2; go_simp; try with_reducible rfl)
      try simp only [Act.put, List.setIfInBounds_toArray, List.set_cons_zero, List.set_cons_succ, List.getElem_toArray, List.getElem_cons_succ, List.getElem_cons_zero]
      refine wpAnyZ_take (i := 10) (v := ?vv28) rfl (by kernel_rfl) (by kernel_rfl) (by kernel_rfl) (fun _ _ _ h => h) (Or.inl ⟨by rfl, ?hy28⟩) hHeld ?rr28
      case hy28 => (intro w' hSw; obtain ⟨s1, s2⟩ := hSw; obtain ⟨g1, g0, g2⟩ := HYc.out _ s1; have b0 := (cells_of_heap s2).1 0; have b1 := (cells_of_heap s2).1 1; have b2 := (cells_of_heap s2).1 2; go_simp; try with_reducible rfl)
      try simp only [Act.put, List.setIfInBounds_toArray, List.set_cons_zero, List.set_cons_succ, List.getElem_toArray, List.getElem_cons_succ, List.getElem_cons_zero]
      refine wpAnyZ_take (i := 11) (v := ?vv29) rfl (by kernel_rfl) (by kernel_rfl) (by kernel_rfl) (fun _ _ _ h => h) (Or.inl ⟨by rfl, ?hy29⟩) hHeld ?rr29
      case hy29 => (intro w' hSw; obtain ⟨s1, s2⟩ := hSw; obtain ⟨g1, g0, g2⟩ := HYc.out _ s1; have b0 := (cells_of_heap s2).1 0; have b1 := (cells_of_heap s2).1 1; have b2 := (cells_of_heap s2).1 2; go_simp; try with_reducible rfl)
      try simp only [Act.put, List.setIfInBounds_toArray, List.set_cons_zero, List.set_cons_succ, List.getElem_toArray, List.getElem_cons_succ, List.getElem_cons_zero]
      refine wpAnyZ_take (i := 14) (v := ?vv30) rfl (by kernel_rfl) (by kernel_rfl) (by kernel_rfl) (fun _ _ _ h => h) (Or.inl ⟨by rfl, ?hy30⟩) hHeld ?rr30
      case hy30 => (intro w' hSw; obtain ⟨s1, s2⟩ := hSw; obtain ⟨g1, g0, g2⟩ := HYc.out _ s1; have b0 := (cells_of_heap s2).1 0; have b1 := (cells_of_heap s2).1 1; have b2 := (cells_of_heap s2).1 2; go_simp; try with_reducible rfl)
      try simp only [Act.put, List.setIfInBounds_toArray, List.set_cons_zero, List.set_cons_succ, List.getElem_toArray, List.getElem_cons_succ, List.getElem_cons_zero]
      refine wpAnyZ_take (i := 15) (v := ?vv31) rfl (by kernel_rfl) (by kernel_rfl) (by kernel_rfl) (fun _ _ _ h => h) (Or.inl ⟨by rfl, ?hy31⟩) hHeld ?rr31
      case hy31 => (intro w' hSw; obtain ⟨s1, s2⟩ := hSw; obtain ⟨g1, g0, g2⟩ := HYc.out _ s1; have b0 := (cells_of_heap s2).1 0; have b1 := (cells_of_heap s2).1 1; have b2 := (cells_of_heap s2).1 2; go_simp; try with_reducible rfl)
      try simp only [Act.put, List.setIfInBounds_toArray, List.set_cons_zero, List.set_cons_succ, List.getElem_toArray, List.getElem_cons_succ, List.getElem_cons_zero]
      refine wpAnyZ_take (i := 16) (v := ?vv32) rfl (by kernel_rfl) (by kernel_rfl) (by kernel_rfl) (fun _ _ _ h => h) (Or.inl ⟨by rfl, ?hy32⟩) hHeld ?rr32
      case hy32 => (intro w' hSw; obtain ⟨s1, s2⟩ := hSw; obtain ⟨g1, g0, g2⟩ := HYc.out _ s1; have b0 := (cells_of_heap s2).1 0; have b1 := (cells_of_heap s2).1 1; have b2 := (cells_of_heap s2).1 2; go_simp; try with_reducible rfl)
      try simp only [Act.put, List.setIfInBounds_toArray, List.set_cons_zero, List.set_cons_succ, List.getElem_toArray, List.getElem_cons_succ, List.getElem_cons_zero]
      refine wpAnyZ_take (i := 17) (v := ?vv33) rfl (by kernel_rfl) (by kernel_rfl) (by kernel_rfl) (fun _ _ _ h => h) (Or.inl ⟨by rfl, ?hy33⟩) hHeld ?rr33
      case hy33 => (intro w' hSw; obtain ⟨s1, s2⟩ := hSw; obtain ⟨g1, g0, g2⟩ := HYc.out _ s1; have b0 := (cells_of_heap s2).1 0; have b1 := (cells_of_heap s2).1 1; have b2 := (cells_of_heap s2).1 2; go_simp; try with_reducible rfl)
      try simp only [Act.put, List.setIfInBounds_toArray, List.set_cons_zero, List.set_cons_succ, List.getElem_toArray, List.getElem_cons_succ, List.getElem_cons_zero]
      refine wpAnyZ_take (i := 18) (v := ?vv34) rfl (by kernel_rfl) (by kernel_rfl) (by kernel_rfl) (fun _ _ _ h => h) (Or.inl ⟨by rfl, ?hy34⟩) hHeld ?rr34
      case hy34 => (intro w' hSw; obtain ⟨s1, s2⟩ := hSw; obtain ⟨g1, g0, g2⟩ := HYc.out _ s1; have b0 := (cells_of_heap s2).1 0; have b1 := (cells_of_heap s2).1 1; have b2 := (cells_of_heap s2).1 2; go_simp; try with_reducible rfl)
      try simp only [Act.put, List.setIfInBounds_toArray, List.set_cons_zero, List.set_cons_succ, List.getElem_toArray, List.getElem_cons_succ, List.getElem_cons_zero]
      refine wpAnyZ_take (i := 19) (v := ?vv35) rfl (by kernel_rfl) (by kernel_rfl) (by kernel_rfl) (fun _ _ _ h => h) (Or.inl ⟨by rfl, ?hy35⟩) hHeld ?rr35
      case hy35 => (intro w' hSw; obtain ⟨s1, s2⟩ := hSw; obtain ⟨g1, g0, g2⟩ := HYc.out _ s1; have b0 := (cells_of_heap s2).1 0; have b1 := (cells_of_heap s2).1 1; have b2 := (cells_of_heap s2).1 2; go_simp; try with_reducible rfl)
      try simp only [Act.put, List.setIfInBounds_toArray, List.set_cons_zero, List.set_cons_succ, List.getElem_toArray, List.getElem_cons_succ, List.getElem_cons_zero]
      refine wpAnyZ_ready (rs := [1, 12]) (by kernel_rfl) (by simp) ?_
      refine AllReadyZ.cons rfl (fun K hK => ?x19a) (AllReadyZ.cons rfl (fun K hK => ?x19b) AllReadyZ.nil)
      case x19a =>
        try rw [if_pos (by rfl)]
        obtain ⟨gR20, hgR20⟩ : ∃ g, g = V18.heap.size := ⟨_, rfl⟩
        go_simp
        refine hK.out _ _ ⟨(HB18.out.alloc HB18.out.size _), (heap_old _ (heap_lt HK18.out) HK18.out)⟩ (fun hHeld2 => ?_)
        clear hK K hHeld
        have hHeld := hHeld2
        clear hHeld2
        try simp only [Act.put, List.setIfInBounds_toArray, List.set_cons_zero, List.set_cons_succ, List.getElem_toArray, List.getElem_cons_succ, List.getElem_cons_zero]
        try rw [← hgR20]
        refine at_world (C := fun V => wpAnyZ _ _ _ _ _ _ _ _ _ V) (P := fun V => Below w.heap.size w V ∧ V.heap[w.heap.size]? = some (.cells #[.string kj, .int .i64 ko, .int .i64 kg] 32 (0, 0)) ∧ V.ownsRow w.heap.size 41 4 (.slice (some ⟨gR20, 0, none⟩) 0 0) 0 []) ⟨HB18.out.alloc HB18.out.size _, heap_old _ (heap_lt HK18.out) HK18.out, (by rw [hgR20]; exact World.ownsRow_made V18 #[] 0 HB18.out.size (Nat.zero_le _) rfl)⟩ (fun V20 hV => ?_)
        obtain ⟨r0, r1, r2⟩ := hV
        have HB20 := Lib.hid r0
        have HK20 := Lib.hid r1
        have HR20 := Lib.hid r2
        clear hHeld r0 r1 r2
        have hHeld := And.intro HB20.out HK20.out
        clear hgR20
        refine wpAnyZ_ready (rs := [8, 12]) (by kernel_rfl) (by simp) ?_
        refine AllReadyZ.cons rfl (fun K hK => ?x21a) (AllReadyZ.cons rfl (fun K hK => ?x21b) AllReadyZ.nil)
        case x21a =>
          try rw [if_pos (by rfl)]
          refine oper_append_k _ (.tmp 49) (.tmp 55) 38 rfl 41 i0 zGo 4 40 Try.underlying38 hinfo hz0 hz1 hz2 rfl (by decide) w.heap.size (.slice (some ⟨gR20, 0, none⟩) 0 0) 0 [] rfl HR20.out none 0 0 (cellsR ((([] : List Rn).drop 0).take 0)) rfl (by rw [cellsR_len, List.length_take, List.length_drop, ← HN.out]; omega) (rd_src (HRd.out _ HB20.out) (by rw [← HN.out]; omega) (fun _ => rfl)) (cellsR_one _) (by unfold maxLen; omega) (by omega) HB20.out.size ?_
          intro A22 d22 V22 hown hgrow hloc
          try simp only [Nat.zero_add, List.nil_append] at hown hloc ⊢
          have HB22 : Hid (Below w.heap.size w V22) := Lib.hid (HB20.out.grown hgrow HB20.out.size (fun j e => (HR20.out.lt j e).1))
          have HR22 := Lib.hid hown
          have HK22 := Lib.hid ((hgrow.block _ (heap_lt HK20.out) (fun e => own_ne HR20.out HK20.out (by decide) e.symm)).trans HK20.out)
          clear hown hgrow hloc
          refine hK.out _ _ ⟨HB22.out, HK22.out⟩ (fun hHeld2 => ?_)
          clear hK K hHeld
          have hHeld := hHeld2
          clear hHeld2
          try simp only [Act.put, List.setIfInBounds_toArray, List.set_cons_zero, List.set_cons_succ, List.getElem_toArray, List.getElem_cons_succ, List.getElem_cons_zero]
          refine wpAnyZ_ready (rs := [12]) (by kernel_rfl) (by simp) ?_
          refine AllReadyZ.cons rfl (fun K hK => ?_) AllReadyZ.nil
          try rw [if_pos (by rfl)]
          obtain ⟨gX23, hgX23⟩ : ∃ g, g = V22.heap.size := ⟨_, rfl⟩
          go_simp
          refine hK.out _ _ ⟨(HB22.out.alloc HB22.out.size _), (heap_old _ (heap_lt HK22.out) HK22.out)⟩ (fun hHeld2 => ?_)
          clear hK K hHeld
          have hHeld := hHeld2
          clear hHeld2
          try simp only [Act.put, List.setIfInBounds_toArray, List.set_cons_zero, List.set_cons_succ, List.getElem_toArray, List.getElem_cons_succ, List.getElem_cons_zero]
          try rw [← hgX23]
          refine at_world (C := fun V => wpAnyZ _ _ _ _ _ _ _ _ _ V) (P := fun V => Below w.heap.size w V ∧ V.heap[w.heap.size]? = some (.cells #[.string kj, .int .i64 ko, .int .i64 kg] 32 (0, 0)) ∧ V.ownsRow w.heap.size 41 4 (.slice A22 0 d22) 0 (cellsR ((([] : List Rn).drop 0).take 0)) ∧ V.heap[gX23]? = some (.cells #[.string kj, .int .i64 ko, .int .i64 kg, .int .i64 u] 41 (0, 0)) ∧ ∀ j, ((.slice A22 0 d22) : Value).ownBlock = some j → j ≠ gX23) ⟨HB22.out.alloc HB22.out.size _, heap_old _ (heap_lt HK22.out) HK22.out, HR22.out.alloc _, (by rw [hgX23]; exact heap_new V22 _), (fun j e => by have := (HR22.out.lt j e).2; omega)⟩ (fun V23 hV => ?_)
          obtain ⟨r0, r1, r2, r3, r4⟩ := hV
          have HB23 := Lib.hid r0
          have HK23 := Lib.hid r1
          have HR23 := Lib.hid r2
          have HX23 := Lib.hid r3
          have HD23 := Lib.hid r4
          clear hHeld r0 r1 r2 r3 r4
          have hHeld := And.intro HB23.out HK23.out
          clear hgX23
          refine wpAnyZ_ready (rs := [13]) (by kernel_rfl) (by simp) ?_
          refine AllReadyZ.cons rfl (fun K hK => ?_) AllReadyZ.nil
          try rw [if_pos (by rfl)]
          refine oper_append_k _ (.tmp 56) (.tmp 60) 38 rfl 41 i0 zGo 4 40 Try.underlying38 hinfo hz0 hz1 hz2 rfl (by decide) w.heap.size (.slice A22 0 d22) 0 (cellsR ((([] : List Rn).drop 0).take 0)) rfl HR23.out (some ⟨gX23, 0, none⟩) 1 1 (goC ⟨⟨kj, ko, kg⟩, u, num⟩) rfl rfl (fun _ => ⟨_, rfl, cells_of_block HX23.out⟩) (fun v hv => by simp only [goC, List.mem_cons, List.not_mem_nil, or_false] at hv; rcases hv with rfl | rfl | rfl | rfl <;> rfl) (by unfold maxLen; omega) (by omega) HB23.out.size ?_
          intro A24 d24 V24 hown hgrow hloc
          try simp only [Nat.zero_add, List.nil_append] at hown hloc ⊢
          have HB24 : Hid (Below w.heap.size w V24) := Lib.hid (HB23.out.grown hgrow HB23.out.size (fun j e => (HR23.out.lt j e).1))
          have HR24 := Lib.hid hown
          have HK24 := Lib.hid ((hgrow.block _ (heap_lt HK23.out) (fun e => own_ne HR23.out HK23.out (by decide) e.symm)).trans HK23.out)
          clear hown hgrow hloc
          refine hK.out _ _ ⟨HB24.out, HK24.out⟩ (fun hHeld2 => ?_)
          clear hK K hHeld
          have hHeld := hHeld2
          clear hHeld2
          try simp only [Act.put, List.setIfInBounds_toArray, List.set_cons_zero, List.set_cons_succ, List.getElem_toArray, List.getElem_cons_succ, List.getElem_cons_zero]
          refine wpAnyZ_ready (rs := [20]) (by kernel_rfl) (by simp) ?_
          refine AllReadyZ.cons rfl (fun K hK => ?_) AllReadyZ.nil
          try rw [if_pos (by rfl)]
          refine oper_append_k _ (.tmp 61) (.tmp 67) 38 rfl 41 i0 zGo 4 40 Try.underlying38 hinfo hz0 hz1 hz2 rfl (by decide) w.heap.size (.slice A24 1 d24) 1 (goC ⟨⟨kj, ko, kg⟩, u, num⟩) rfl HR24.out none 0 0 (cellsR ((([] : List Rn).drop 0).take 0)) rfl (by rw [cellsR_len, List.length_take, List.length_drop, ← HN.out]; omega) (rd_src (HRd.out _ HB24.out) (by rw [← HN.out]; omega) (fun h => absurd h (Nat.lt_irrefl _))) (cellsR_one _) (by unfold maxLen; omega) (by omega) HB24.out.size ?_
          intro A25 d25 V25 hown hgrow hloc
          have HB25 : Hid (Below w.heap.size w V25) := Lib.hid (HB24.out.grown hgrow HB24.out.size (fun j e => (HR24.out.lt j e).1))
          have HR25 := Lib.hid hown
          have HK25 := Lib.hid ((hgrow.block _ (heap_lt HK24.out) (fun e => own_ne HR24.out HK24.out (by decide) e.symm)).trans HK24.out)
          clear hown hgrow hloc
          refine hK.out _ _ ⟨HB25.out, HK25.out⟩ (fun hHeld2 => ?_)
          clear hK K hHeld
          have hHeld := hHeld2
          clear hHeld2
          try simp only [Act.put, List.setIfInBounds_toArray, List.set_cons_zero, List.set_cons_succ, List.getElem_toArray, List.getElem_cons_succ, List.getElem_cons_zero]
          refine wpAnyZ_ready (rs := [21]) (by kernel_rfl) (by simp) ?_
          refine AllReadyZ.cons rfl (fun K hK => ?_) AllReadyZ.nil
          try rw [if_pos (by rfl)]
          go_simp
          refine hK.out _ _ ⟨HB25.out, HK25.out⟩ (fun hHeld2 => ?_)
          clear hK K hHeld
          have hHeld := hHeld2
          clear hHeld2
          try simp only [Act.put, List.setIfInBounds_toArray, List.set_cons_zero, List.set_cons_succ, List.getElem_toArray, List.getElem_cons_succ, List.getElem_cons_zero]
          refine wpAnyZ_take (i := 22) (v := ?vv36) rfl (by kernel_rfl) (by kernel_rfl) (by kernel_rfl) (fun _ _ _ h => h) (Or.inl ⟨by rfl, ?hy36⟩) hHeld ?rr36
          case hy36 => (intro w' hSw; obtain ⟨s1, s2⟩ := hSw; obtain ⟨g1, g0, g2⟩ := HYc.out _ s1; have b0 := (cells_of_heap s2).1 0; have b1 := (cells_of_heap s2).1 1; have b2 := (cells_of_heap s2).1 2; go_simp; try with_reducible rfl)
          try simp only [Act.put, List.setIfInBounds_toArray, List.set_cons_zero, List.set_cons_succ, List.getElem_toArray, List.getElem_cons_succ, List.getElem_cons_zero]
          obtain ⟨g1, g0, g2⟩ := HYc.out _ HB25.out
          refine wpAnyZ_ready (rs := [23]) (by kernel_rfl) (by simp) ?_
          refine AllReadyZ.last rfl (fun K hK => ?_)
          try rw [if_pos (by rfl)]
          go_simp
          refine hK.out _ _ ?_
          clear hK K hHeld
          try simp only [Act.put, List.setIfInBounds_toArray, List.set_cons_zero, List.set_cons_succ, List.getElem_toArray, List.getElem_cons_succ, List.getElem_cons_zero]
          refine wpAnyZ_done (by kernel_rfl) ?_ _
          go_wp2
          go_ret
          exact ⟨rfl, ry_end HYh.out HB25.out HR25.out (by rw [HIns.out]; rfl) (by rw [HIns.out]; simp [cellsR])⟩
        case x21b =>
          try rw [if_pos (by rfl)]
          obtain ⟨gX26, hgX26⟩ : ∃ g, g = V20.heap.size := ⟨_, rfl⟩
          go_simp
          refine hK.out _ _ ⟨(HB20.out.alloc HB20.out.size _), (heap_old _ (heap_lt HK20.out) HK20.out)⟩ (fun hHeld2 => ?_)
          clear hK K hHeld
          have hHeld := hHeld2
          clear hHeld2
          try simp only [Act.put, List.setIfInBounds_toArray, List.set_cons_zero, List.set_cons_succ, List.getElem_toArray, List.getElem_cons_succ, List.getElem_cons_zero]
          try rw [← hgX26]
          refine at_world (C := fun V => wpAnyZ _ _ _ _ _ _ _ _ _ V) (P := fun V => Below w.heap.size w V ∧ V.heap[w.heap.size]? = some (.cells #[.string kj, .int .i64 ko, .int .i64 kg] 32 (0, 0)) ∧ V.ownsRow w.heap.size 41 4 (.slice (some ⟨gR20, 0, none⟩) 0 0) 0 [] ∧ V.heap[gX26]? = some (.cells #[.string kj, .int .i64 ko, .int .i64 kg, .int .i64 u] 41 (0, 0)) ∧ ∀ j, ((.slice (some ⟨gR20, 0, none⟩) 0 0) : Value).ownBlock = some j → j ≠ gX26) ⟨HB20.out.alloc HB20.out.size _, heap_old _ (heap_lt HK20.out) HK20.out, HR20.out.alloc _, (by rw [hgX26]; exact heap_new V20 _), (fun j e => by have := (HR20.out.lt j e).2; omega)⟩ (fun V26 hV => ?_)
          obtain ⟨r0, r1, r2, r3, r4⟩ := hV
          have HB26 := Lib.hid r0
          have HK26 := Lib.hid r1
          have HR26 := Lib.hid r2
          have HX26 := Lib.hid r3
          have HD26 := Lib.hid r4
          clear hHeld r0 r1 r2 r3 r4
          have hHeld := And.intro HB26.out HK26.out
          clear hgX26
          refine wpAnyZ_ready (rs := [8]) (by kernel_rfl) (by simp) ?_
          refine AllReadyZ.cons rfl (fun K hK => ?_) AllReadyZ.nil
          try rw [if_pos (by rfl)]
          refine oper_append_k _ (.tmp 49) (.tmp 55) 38 rfl 41 i0 zGo 4 40 Try.underlying38 hinfo hz0 hz1 hz2 rfl (by decide) w.heap.size (.slice (some ⟨gR20, 0, none⟩) 0 0) 0 [] rfl HR26.out none 0 0 (cellsR ((([] : List Rn).drop 0).take 0)) rfl (by rw [cellsR_len, List.length_take, List.length_drop, ← HN.out]; omega) (rd_src (HRd.out _ HB26.out) (by rw [← HN.out]; omega) (fun _ => rfl)) (cellsR_one _) (by unfold maxLen; omega) (by omega) HB26.out.size ?_
          intro A27 d27 V27 hown hgrow hloc
          try simp only [Nat.zero_add, List.nil_append] at hown hloc ⊢
          have HB27 : Hid (Below w.heap.size w V27) := Lib.hid (HB26.out.grown hgrow HB26.out.size (fun j e => (HR26.out.lt j e).1))
          have HR27 := Lib.hid hown
          have HK27 := Lib.hid ((hgrow.block _ (heap_lt HK26.out) (fun e => own_ne HR26.out HK26.out (by decide) e.symm)).trans HK26.out)
          have HX27 := Lib.hid ((hgrow.block _ (heap_lt HX26.out) (fun e => HD26.out _ e.symm rfl)).trans HX26.out)
          have HD27 := Lib.hid (fun j (e : (Value.slice A27 0 d27).ownBlock = some j) => show j ≠ gX26 by
            rcases hloc with h | h
            · rw [h] at e; exact HD26.out j e
            · rw [h] at e; have := Option.some.inj e; have := heap_lt HX26.out; omega)
          clear hown hgrow hloc
          refine hK.out _ _ ⟨HB27.out, HK27.out⟩ (fun hHeld2 => ?_)
          clear hK K hHeld
          have hHeld := hHeld2
          clear hHeld2
          try simp only [Act.put, List.setIfInBounds_toArray, List.set_cons_zero, List.set_cons_succ, List.getElem_toArray, List.getElem_cons_succ, List.getElem_cons_zero]
          refine wpAnyZ_ready (rs := [13]) (by kernel_rfl) (by simp) ?_
          refine AllReadyZ.cons rfl (fun K hK => ?_) AllReadyZ.nil
          try rw [if_pos (by rfl)]
          refine oper_append_k _ (.tmp 56) (.tmp 60) 38 rfl 41 i0 zGo 4 40 Try.underlying38 hinfo hz0 hz1 hz2 rfl (by decide) w.heap.size (.slice A27 0 d27) 0 (cellsR ((([] : List Rn).drop 0).take 0)) rfl HR27.out (some ⟨gX26, 0, none⟩) 1 1 (goC ⟨⟨kj, ko, kg⟩, u, num⟩) rfl rfl (fun _ => ⟨_, rfl, cells_of_block HX27.out⟩) (fun v hv => by simp only [goC, List.mem_cons, List.not_mem_nil, or_false] at hv; rcases hv with rfl | rfl | rfl | rfl <;> rfl) (by unfold maxLen; omega) (by omega) HB27.out.size ?_
          intro A28 d28 V28 hown hgrow hloc
          try simp only [Nat.zero_add, List.nil_append] at hown hloc ⊢
          have HB28 : Hid (Below w.heap.size w V28) := Lib.hid (HB27.out.grown hgrow HB27.out.size (fun j e => (HR27.out.lt j e).1))
          have HR28 := Lib.hid hown
          have HK28 := Lib.hid ((hgrow.block _ (heap_lt HK27.out) (fun e => own_ne HR27.out HK27.out (by decide) e.symm)).trans HK27.out)
          clear hown hgrow hloc
          refine hK.out _ _ ⟨HB28.out, HK28.out⟩ (fun hHeld2 => ?_)
          clear hK K hHeld
          have hHeld := hHeld2
          clear hHeld2
          try simp only [Act.put, List.setIfInBounds_toArray, List.set_cons_zero, List.set_cons_succ, List.getElem_toArray, List.getElem_cons_succ, List.getElem_cons_zero]
          refine wpAnyZ_ready (rs := [20]) (by kernel_rfl) (by simp) ?_
          refine AllReadyZ.cons rfl (fun K hK => ?_) AllReadyZ.nil
          try rw [if_pos (by rfl)]
          refine oper_append_k _ (.tmp 61) (.tmp 67) 38 rfl 41 i0 zGo 4 40 Try.underlying38 hinfo hz0 hz1 hz2 rfl (by decide) w.heap.size (.slice A28 1 d28) 1 (goC ⟨⟨kj, ko, kg⟩, u, num⟩) rfl HR28.out none 0 0 (cellsR ((([] : List Rn).drop 0).take 0)) rfl (by rw [cellsR_len, List.length_take, List.length_drop, ← HN.out]; omega) (rd_src (HRd.out _ HB28.out) (by rw [← HN.out]; omega) (fun h => absurd h (Nat.lt_irrefl _))) (cellsR_one _) (by unfold maxLen; omega) (by omega) HB28.out.size ?_
          intro A29 d29 V29 hown hgrow hloc
          have HB29 : Hid (Below w.heap.size w V29) := Lib.hid (HB28.out.grown hgrow HB28.out.size (fun j e => (HR28.out.lt j e).1))
          have HR29 := Lib.hid hown
          have HK29 := Lib.hid ((hgrow.block _ (heap_lt HK28.out) (fun e => own_ne HR28.out HK28.out (by decide) e.symm)).trans HK28.out)
          clear hown hgrow hloc
          refine hK.out _ _ ⟨HB29.out, HK29.out⟩ (fun hHeld2 => ?_)
          clear hK K hHeld
          have hHeld := hHeld2
          clear hHeld2
          try simp only [Act.put, List.setIfInBounds_toArray, List.set_cons_zero, List.set_cons_succ, List.getElem_toArray, List.getElem_cons_succ, List.getElem_cons_zero]
          refine wpAnyZ_ready (rs := [21]) (by kernel_rfl) (by simp) ?_
          refine AllReadyZ.cons rfl (fun K hK => ?_) AllReadyZ.nil
          try rw [if_pos (by rfl)]
          go_simp
          refine hK.out _ _ ⟨HB29.out, HK29.out⟩ (fun hHeld2 => ?_)
          clear hK K hHeld
          have hHeld := hHeld2
          clear hHeld2
          try simp only [Act.put, List.setIfInBounds_toArray, List.set_cons_zero, List.set_cons_succ, List.getElem_toArray, List.getElem_cons_succ, List.getElem_cons_zero]
          refine wpAnyZ_take (i := 22) (v := ?vv37) rfl (by kernel_rfl) (by kernel_rfl) (by kernel_rfl) (fun _ _ _ h => h) (Or.inl ⟨by rfl, ?hy37⟩) hHeld ?rr37
          case hy37 => (intro w' hSw; obtain ⟨s1, s2⟩ := hSw; obtain ⟨g1, g0, g2⟩ := HYc.out _ s1; have b0 := (cells_of_heap s2).1 0; have b1 := (cells_of_heap s2).1 1; have b2 := (cells_of_heap s2).1 2; go_simp; try with_reducible rfl)
          try simp only [Act.put, List.setIfInBounds_toArray, List.set_cons_zero, List.set_cons_succ, List.getElem_toArray, List.getElem_cons_succ, List.getElem_cons_zero]
          obtain ⟨g1, g0, g2⟩ := HYc.out _ HB29.out
          refine wpAnyZ_ready (rs := [23]) (by kernel_rfl) (by simp) ?_
          refine AllReadyZ.last rfl (fun K hK => ?_)
          try rw [if_pos (by rfl)]
          go_simp
          refine hK.out _ _ ?_
          clear hK K hHeld
          try simp only [Act.put, List.setIfInBounds_toArray, List.set_cons_zero, List.set_cons_succ, List.getElem_toArray, List.getElem_cons_succ, List.getElem_cons_zero]
          refine wpAnyZ_done (by kernel_rfl) ?_ _
          go_wp2
          go_ret
          exact ⟨rfl, ry_end HYh.out HB29.out HR29.out (by rw [HIns.out]; rfl) (by rw [HIns.out]; simp [cellsR])⟩
      case x19b =>
        try rw [if_pos (by rfl)]
        obtain ⟨gX30, hgX30⟩ : ∃ g, g = V18.heap.size := ⟨_, rfl⟩
        go_simp
        refine hK.out _ _ ⟨(HB18.out.alloc HB18.out.size _), (heap_old _ (heap_lt HK18.out) HK18.out)⟩ (fun hHeld2 => ?_)
        clear hK K hHeld
        have hHeld := hHeld2
        clear hHeld2
        try simp only [Act.put, List.setIfInBounds_toArray, List.set_cons_zero, List.set_cons_succ, List.getElem_toArray, List.getElem_cons_succ, List.getElem_cons_zero]
        try rw [← hgX30]
        refine at_world (C := fun V => wpAnyZ _ _ _ _ _ _ _ _ _ V) (P := fun V => Below w.heap.size w V ∧ V.heap[w.heap.size]? = some (.cells #[.string kj, .int .i64 ko, .int .i64 kg] 32 (0, 0)) ∧ V.heap[gX30]? = some (.cells #[.string kj, .int .i64 ko, .int .i64 kg, .int .i64 u] 41 (0, 0))) ⟨HB18.out.alloc HB18.out.size _, heap_old _ (heap_lt HK18.out) HK18.out, (by rw [hgX30]; exact heap_new V18 _)⟩ (fun V30 hV => ?_)
        obtain ⟨r0, r1, r2⟩ := hV
        have HB30 := Lib.hid r0
        have HK30 := Lib.hid r1
        have HX30 := Lib.hid r2
        clear hHeld r0 r1 r2
        have hHeld := And.intro HB30.out HK30.out
        clear hgX30
        refine wpAnyZ_ready (rs := [1]) (by kernel_rfl) (by simp) ?_
        refine AllReadyZ.cons rfl (fun K hK => ?_) AllReadyZ.nil
        try rw [if_pos (by rfl)]
        obtain ⟨gR31, hgR31⟩ : ∃ g, g = V30.heap.size := ⟨_, rfl⟩
        go_simp
        refine hK.out _ _ ⟨(HB30.out.alloc HB30.out.size _), (heap_old _ (heap_lt HK30.out) HK30.out)⟩ (fun hHeld2 => ?_)
        clear hK K hHeld
        have hHeld := hHeld2
        clear hHeld2
        try simp only [Act.put, List.setIfInBounds_toArray, List.set_cons_zero, List.set_cons_succ, List.getElem_toArray, List.getElem_cons_succ, List.getElem_cons_zero]
        try rw [← hgR31]
        refine at_world (C := fun V => wpAnyZ _ _ _ _ _ _ _ _ _ V) (P := fun V => Below w.heap.size w V ∧ V.heap[w.heap.size]? = some (.cells #[.string kj, .int .i64 ko, .int .i64 kg] 32 (0, 0)) ∧ V.ownsRow w.heap.size 41 4 (.slice (some ⟨gR31, 0, none⟩) 0 0) 0 [] ∧ V.heap[gX30]? = some (.cells #[.string kj, .int .i64 ko, .int .i64 kg, .int .i64 u] 41 (0, 0)) ∧ ∀ j, ((.slice (some ⟨gR31, 0, none⟩) 0 0) : Value).ownBlock = some j → j ≠ gX30) ⟨HB30.out.alloc HB30.out.size _, heap_old _ (heap_lt HK30.out) HK30.out, (by rw [hgR31]; exact World.ownsRow_made V30 #[] 0 HB30.out.size (Nat.zero_le _) rfl), heap_old _ (heap_lt HX30.out) HX30.out, (fun j e => by have e2 : gR31 = j := Option.some.inj e; have := heap_lt HX30.out; omega)⟩ (fun V31 hV => ?_)
        obtain ⟨r0, r1, r2, r3, r4⟩ := hV
        have HB31 := Lib.hid r0
        have HK31 := Lib.hid r1
        have HR31 := Lib.hid r2
        have HX31 := Lib.hid r3
        have HD31 := Lib.hid r4
        clear hHeld r0 r1 r2 r3 r4
        have hHeld := And.intro HB31.out HK31.out
        clear hgR31
        refine wpAnyZ_ready (rs := [8]) (by kernel_rfl) (by simp) ?_
        refine AllReadyZ.cons rfl (fun K hK => ?_) AllReadyZ.nil
        try rw [if_pos (by rfl)]
        refine oper_append_k _ (.tmp 49) (.tmp 55) 38 rfl 41 i0 zGo 4 40 Try.underlying38 hinfo hz0 hz1 hz2 rfl (by decide) w.heap.size (.slice (some ⟨gR31, 0, none⟩) 0 0) 0 [] rfl HR31.out none 0 0 (cellsR ((([] : List Rn).drop 0).take 0)) rfl (by rw [cellsR_len, List.length_take, List.length_drop, ← HN.out]; omega) (rd_src (HRd.out _ HB31.out) (by rw [← HN.out]; omega) (fun _ => rfl)) (cellsR_one _) (by unfold maxLen; omega) (by omega) HB31.out.size ?_
        intro A32 d32 V32 hown hgrow hloc
        try simp only [Nat.zero_add, List.nil_append] at hown hloc ⊢
        have HB32 : Hid (Below w.heap.size w V32) := Lib.hid (HB31.out.grown hgrow HB31.out.size (fun j e => (HR31.out.lt j e).1))
        have HR32 := Lib.hid hown
        have HK32 := Lib.hid ((hgrow.block _ (heap_lt HK31.out) (fun e => own_ne HR31.out HK31.out (by decide) e.symm)).trans HK31.out)
        have HX32 := Lib.hid ((hgrow.block _ (heap_lt HX31.out) (fun e => HD31.out _ e.symm rfl)).trans HX31.out)
        have HD32 := Lib.hid (fun j (e : (Value.slice A32 0 d32).ownBlock = some j) => show j ≠ gX30 by
          rcases hloc with h | h
          · rw [h] at e; exact HD31.out j e
          · rw [h] at e; have := Option.some.inj e; have := heap_lt HX31.out; omega)
        clear hown hgrow hloc
        refine hK.out _ _ ⟨HB32.out, HK32.out⟩ (fun hHeld2 => ?_)
        clear hK K hHeld
        have hHeld := hHeld2
        clear hHeld2
        try simp only [Act.put, List.setIfInBounds_toArray, List.set_cons_zero, List.set_cons_succ, List.getElem_toArray, List.getElem_cons_succ, List.getElem_cons_zero]
        refine wpAnyZ_ready (rs := [13]) (by kernel_rfl) (by simp) ?_
        refine AllReadyZ.cons rfl (fun K hK => ?_) AllReadyZ.nil
        try rw [if_pos (by rfl)]
        refine oper_append_k _ (.tmp 56) (.tmp 60) 38 rfl 41 i0 zGo 4 40 Try.underlying38 hinfo hz0 hz1 hz2 rfl (by decide) w.heap.size (.slice A32 0 d32) 0 (cellsR ((([] : List Rn).drop 0).take 0)) rfl HR32.out (some ⟨gX30, 0, none⟩) 1 1 (goC ⟨⟨kj, ko, kg⟩, u, num⟩) rfl rfl (fun _ => ⟨_, rfl, cells_of_block HX32.out⟩) (fun v hv => by simp only [goC, List.mem_cons, List.not_mem_nil, or_false] at hv; rcases hv with rfl | rfl | rfl | rfl <;> rfl) (by unfold maxLen; omega) (by omega) HB32.out.size ?_
        intro A33 d33 V33 hown hgrow hloc
        try simp only [Nat.zero_add, List.nil_append] at hown hloc ⊢
        have HB33 : Hid (Below w.heap.size w V33) := Lib.hid (HB32.out.grown hgrow HB32.out.size (fun j e => (HR32.out.lt j e).1))
        have HR33 := Lib.hid hown
        have HK33 := Lib.hid ((hgrow.block _ (heap_lt HK32.out) (fun e => own_ne HR32.out HK32.out (by decide) e.symm)).trans HK32.out)
        clear hown hgrow hloc
        refine hK.out _ _ ⟨HB33.out, HK33.out⟩ (fun hHeld2 => ?_)
        clear hK K hHeld
        have hHeld := hHeld2
        clear hHeld2
        try simp only [Act.put, List.setIfInBounds_toArray, List.set_cons_zero, List.set_cons_succ, List.getElem_toArray, List.getElem_cons_succ, List.getElem_cons_zero]
        refine wpAnyZ_ready (rs := [20]) (by kernel_rfl) (by simp) ?_
        refine AllReadyZ.cons rfl (fun K hK => ?_) AllReadyZ.nil
        try rw [if_pos (by rfl)]
        refine oper_append_k _ (.tmp 61) (.tmp 67) 38 rfl 41 i0 zGo 4 40 Try.underlying38 hinfo hz0 hz1 hz2 rfl (by decide) w.heap.size (.slice A33 1 d33) 1 (goC ⟨⟨kj, ko, kg⟩, u, num⟩) rfl HR33.out none 0 0 (cellsR ((([] : List Rn).drop 0).take 0)) rfl (by rw [cellsR_len, List.length_take, List.length_drop, ← HN.out]; omega) (rd_src (HRd.out _ HB33.out) (by rw [← HN.out]; omega) (fun h => absurd h (Nat.lt_irrefl _))) (cellsR_one _) (by unfold maxLen; omega) (by omega) HB33.out.size ?_
        intro A34 d34 V34 hown hgrow hloc
        have HB34 : Hid (Below w.heap.size w V34) := Lib.hid (HB33.out.grown hgrow HB33.out.size (fun j e => (HR33.out.lt j e).1))
        have HR34 := Lib.hid hown
        have HK34 := Lib.hid ((hgrow.block _ (heap_lt HK33.out) (fun e => own_ne HR33.out HK33.out (by decide) e.symm)).trans HK33.out)
        clear hown hgrow hloc
        refine hK.out _ _ ⟨HB34.out, HK34.out⟩ (fun hHeld2 => ?_)
        clear hK K hHeld
        have hHeld := hHeld2
        clear hHeld2
        try simp only [Act.put, List.setIfInBounds_toArray, List.set_cons_zero, List.set_cons_succ, List.getElem_toArray, List.getElem_cons_succ, List.getElem_cons_zero]
        refine wpAnyZ_ready (rs := [21]) (by kernel_rfl) (by simp) ?_
        refine AllReadyZ.cons rfl (fun K hK => ?_) AllReadyZ.nil
        try rw [if_pos (by rfl)]
        go_simp
        refine hK.out _ _ ⟨HB34.out, HK34.out⟩ (fun hHeld2 => ?_)
        clear hK K hHeld
        have hHeld := hHeld2
        clear hHeld2
        try simp only [Act.put, List.setIfInBounds_toArray, List.set_cons_zero, List.set_cons_succ, List.getElem_toArray, List.getElem_cons_succ, List.getElem_cons_zero]
        refine wpAnyZ_take (i := 22) (v := ?vv38) rfl (by kernel_rfl) (by kernel_rfl) (by kernel_rfl) (fun _ _ _ h => h) (Or.inl ⟨by rfl, ?hy38⟩) hHeld ?rr38
        case hy38 => (intro w' hSw; obtain ⟨s1, s2⟩ := hSw; obtain ⟨g1, g0, g2⟩ := HYc.out _ s1; have b0 := (cells_of_heap s2).1 0; have b1 := (cells_of_heap s2).1 1; have b2 := (cells_of_heap s2).1 2; go_simp; try with_reducible rfl)
        try simp only [Act.put, List.setIfInBounds_toArray, List.set_cons_zero, List.set_cons_succ, List.getElem_toArray, List.getElem_cons_succ, List.getElem_cons_zero]
        obtain ⟨g1, g0, g2⟩ := HYc.out _ HB34.out
        refine wpAnyZ_ready (rs := [23]) (by kernel_rfl) (by simp) ?_
        refine AllReadyZ.last rfl (fun K hK => ?_)
        try rw [if_pos (by rfl)]
        go_simp
        refine hK.out _ _ ?_
        clear hK K hHeld
        try simp only [Act.put, List.setIfInBounds_toArray, List.set_cons_zero, List.set_cons_succ, List.getElem_toArray, List.getElem_cons_succ, List.getElem_cons_zero]
        refine wpAnyZ_done (by kernel_rfl) ?_ _
        go_wp2
        go_ret
        exact ⟨rfl, ry_end HYh.out HB34.out HR34.out (by rw [HIns.out]; rfl) (by rw [HIns.out]; simp [cellsR])⟩
    · injection hA with hA hA2 hA3
      subst hA
      subst hA3
      have hic : i ≤ c := by rw [← HN.out] at hnc; omega
      have hnc2 : n ≤ c := by rw [← HN.out] at hnc; omega
      clear hcm hnc
      go_wp2
      refine wp_region_heldz_drew (S := (fun V => Below w.heap.size w V ∧ V.heap[w.heap.size]? = some (.cells #[.string kj, .int .i64 ko, .int .i64 kg] 32 (0, 0)))) 23 (by kernel_rfl) ⟨HB.out.drew, HK.out⟩ (fun hHeld => ?_)
      refine at_world (C := fun V => wpAnyZ _ _ _ _ _ _ _ _ _ V) (P := fun V => Below w.heap.size w V ∧ V.heap[w.heap.size]? = some (.cells #[.string kj, .int .i64 ko, .int .i64 kg] 32 (0, 0))) ⟨HB.out.drew, HK.out⟩ (fun V1 hV => ?_)
      obtain ⟨r0, r1⟩ := hV
      have HB1 := Lib.hid r0
      have HK1 := Lib.hid r1
      clear hHeld r0 r1
      have hHeld := And.intro HB1.out HK1.out
      refine wpAnyZ_take (i := 0) (v := ?vv1) rfl (by kernel_rfl) (by kernel_rfl) (by kernel_rfl) (fun _ _ _ h => h) (Or.inl ⟨by rfl, ?hy1⟩) hHeld ?rr1
      case hy1 => (intro w' hSw; obtain ⟨s1, s2⟩ := hSw; obtain ⟨g1, g0, g2⟩ := HYc.out _ s1; have b0 := (cells_of_heap s2).1 0; have b1 := (cells_of_heap s2).1 1; have b2 := (cells_of_heap s2).1 2; go_simp; try with_reducible rfl)
      try simp only [Act.put, List.setIfInBounds_toArray, List.set_cons_zero, List.set_cons_succ, List.getElem_toArray, List.getElem_cons_succ, List.getElem_cons_zero]
      refine wpAnyZ_take (i := 2) (v := ?vv2) rfl (by kernel_rfl) (by kernel_rfl) (by kernel_rfl) (fun _ _ _ h => h) (Or.inl ⟨by rfl, ?hy2⟩) hHeld ?rr2
      case hy2 => (intro w' hSw; obtain ⟨s1, s2⟩ := hSw; obtain ⟨g1, g0, g2⟩ := HYc.out _ s1; have b0 := (cells_of_heap s2).1 0; have b1 := (cells_of_heap s2).1 1; have b2 := (cells_of_heap s2).1 2; go_simp; try with_reducible rfl)
      try simp only [Act.put, List.setIfInBounds_toArray, List.set_cons_zero, List.set_cons_succ, List.getElem_toArray, List.getElem_cons_succ, List.getElem_cons_zero]
      refine wpAnyZ_take (i := 3) (v := ?vv3) rfl (by kernel_rfl) (by kernel_rfl) (by kernel_rfl) (fun _ _ _ h => h) (Or.inl ⟨by rfl, ?hy3⟩) hHeld ?rr3
      case hy3 => (intro w' hSw; obtain ⟨s1, s2⟩ := hSw; obtain ⟨g1, g0, g2⟩ := HYc.out _ s1; have b0 := (cells_of_heap s2).1 0; have b1 := (cells_of_heap s2).1 1; have b2 := (cells_of_heap s2).1 2; go_simp; try with_reducible rfl)
      try simp only [Act.put, List.setIfInBounds_toArray, List.set_cons_zero, List.set_cons_succ, List.getElem_toArray, List.getElem_cons_succ, List.getElem_cons_zero]
      refine wpAnyZ_take (i := 4) (v := ?vv4) rfl (by kernel_rfl) (by kernel_rfl) (by kernel_rfl) (fun _ _ _ h => h) (Or.inl ⟨by rfl, ?hy4⟩) hHeld ?rr4
      case hy4 => (intro w' hSw; obtain ⟨s1, s2⟩ := hSw; obtain ⟨g1, g0, g2⟩ := HYc.out _ s1; have b0 := (cells_of_heap s2).1 0; have b1 := (cells_of_heap s2).1 1; have b2 := (cells_of_heap s2).1 2; go_simp; try with_reducible rfl)
      try simp only [Act.put, List.setIfInBounds_toArray, List.set_cons_zero, List.set_cons_succ, List.getElem_toArray, List.getElem_cons_succ, List.getElem_cons_zero]
      refine wpAnyZ_take (i := 5) (v := ?vv5) rfl (by kernel_rfl) (by kernel_rfl) (by kernel_rfl) (fun _ _ _ h => h) (Or.inl ⟨by rfl, ?hy5⟩) hHeld ?rr5
      case hy5 => (intro w' hSw; obtain ⟨s1, s2⟩ := hSw; obtain ⟨g1, g0, g2⟩ := HYc.out _ s1; have b0 := (cells_of_heap s2).1 0; have b1 := (cells_of_heap s2).1 1; have b2 := (cells_of_heap s2).1 2; go_simp; try with_reducible rfl)
      try simp only [Act.put, List.setIfInBounds_toArray, List.set_cons_zero, List.set_cons_succ, List.getElem_toArray, List.getElem_cons_succ, List.getElem_cons_zero]
      refine wpAnyZ_take (i := 6) (v := ?vv6) rfl (by kernel_rfl) (by kernel_rfl) (by kernel_rfl) (fun _ _ _ h => h) (Or.inl ⟨by rfl, ?hy6⟩) hHeld ?rr6
      case hy6 => (intro w' hSw; obtain ⟨s1, s2⟩ := hSw; obtain ⟨g1, g0, g2⟩ := HYc.out _ s1; have b0 := (cells_of_heap s2).1 0; have b1 := (cells_of_heap s2).1 1; have b2 := (cells_of_heap s2).1 2; go_simp; try with_reducible rfl)
      try simp only [Act.put, List.setIfInBounds_toArray, List.set_cons_zero, List.set_cons_succ, List.getElem_toArray, List.getElem_cons_succ, List.getElem_cons_zero]
      refine wpAnyZ_take (i := 7) (v := .slice (some ⟨g, 0, none⟩) i c) rfl (by kernel_rfl) (by kernel_rfl) (by kernel_rfl) (fun _ _ _ h => h) (Or.inl ⟨by rfl, ?hy7⟩) hHeld ?rr7
      case hy7 => (intro w' hSw; obtain ⟨s1, s2⟩ := hSw; obtain ⟨g1, g0, g2⟩ := HYc.out _ s1; have b0 := (cells_of_heap s2).1 0; have b1 := (cells_of_heap s2).1 1; have b2 := (cells_of_heap s2).1 2; go_simp; try rw [if_pos hic]; try go_simp; try rfl)
      try simp only [Act.put, List.setIfInBounds_toArray, List.set_cons_zero, List.set_cons_succ, List.getElem_toArray, List.getElem_cons_succ, List.getElem_cons_zero]
      refine wpAnyZ_take (i := 9) (v := ?vv8) rfl (by kernel_rfl) (by kernel_rfl) (by kernel_rfl) (fun _ _ _ h => h) (Or.inl ⟨by rfl, ?hy8⟩) hHeld ?rr8
      case hy8 => (intro w' hSw; obtain ⟨s1, s2⟩ := hSw; obtain ⟨g1, g0, g2⟩ := HYc.out _ s1; have b0 := (cells_of_heap s2).1 0; have b1 := (cells_of_heap s2).1 1; have b2 := (cells_of_heap s2).1 2; go_simp; try with_reducible rfl)
      try simp only [Act.put, List.setIfInBounds_toArray, List.set_cons_zero, List.set_cons_succ, List.getElem_toArray, List.getElem_cons_succ, List.getElem_cons_zero]
      refine wpAnyZ_take (i := 10) (v := ?vv9) rfl (by kernel_rfl) (by kernel_rfl) (by kernel_rfl) (fun _ _ _ h => h) (Or.inl ⟨by rfl, ?hy9⟩) hHeld ?rr9
      case hy9 => (intro w' hSw; obtain ⟨s1, s2⟩ := hSw; obtain ⟨g1, g0, g2⟩ := HYc.out _ s1; have b0 := (cells_of_heap s2).1 0; have b1 := (cells_of_heap s2).1 1; have b2 := (cells_of_heap s2).1 2; go_simp; try with_reducible rfl)
      try simp only [Act.put, List.setIfInBounds_toArray, List.set_cons_zero, List.set_cons_succ, List.getElem_toArray, List.getElem_cons_succ, List.getElem_cons_zero]
      refine wpAnyZ_take (i := 11) (v := ?vv10) rfl (by kernel_rfl) (by kernel_rfl) (by kernel_rfl) (fun _ _ _ h => h) (Or.inl ⟨by rfl, ?hy10⟩) hHeld ?rr10
      case hy10 => (intro w' hSw; obtain ⟨s1, s2⟩ := hSw; obtain ⟨g1, g0, g2⟩ := HYc.out _ s1; have b0 := (cells_of_heap s2).1 0; have b1 := (cells_of_heap s2).1 1; have b2 := (cells_of_heap s2).1 2; go_simp; try with_reducible rfl)
      try simp only [Act.put, List.setIfInBounds_toArray, List.set_cons_zero, List.set_cons_succ, List.getElem_toArray, List.getElem_cons_succ, List.getElem_cons_zero]
      refine wpAnyZ_take (i := 14) (v := ?vv11) rfl (by kernel_rfl) (by kernel_rfl) (by kernel_rfl) (fun _ _ _ h => h) (Or.inl ⟨by rfl, ?hy11⟩) hHeld ?rr11
      case hy11 => (intro w' hSw; obtain ⟨s1, s2⟩ := hSw; obtain ⟨g1, g0, g2⟩ := HYc.out _ s1; have b0 := (cells_of_heap s2).1 0; have b1 := (cells_of_heap s2).1 1; have b2 := (cells_of_heap s2).1 2; go_simp; try with_reducible rfl)
      try simp only [Act.put, List.setIfInBounds_toArray, List.set_cons_zero, List.set_cons_succ, List.getElem_toArray, List.getElem_cons_succ, List.getElem_cons_zero]
      refine wpAnyZ_take (i := 15) (v := ?vv12) rfl (by kernel_rfl) (by kernel_rfl) (by kernel_rfl) (fun _ _ _ h => h) (Or.inl ⟨by rfl, ?hy12⟩) hHeld ?rr12
      case hy12 => (intro w' hSw; obtain ⟨s1, s2⟩ := hSw; obtain ⟨g1, g0, g2⟩ := HYc.out _ s1; have b0 := (cells_of_heap s2).1 0; have b1 := (cells_of_heap s2).1 1; have b2 := (cells_of_heap s2).1 2; go_simp; try with_reducible rfl)
      try simp only [Act.put, List.setIfInBounds_toArray, List.set_cons_zero, List.set_cons_succ, List.getElem_toArray, List.getElem_cons_succ, List.getElem_cons_zero]
      refine wpAnyZ_take (i := 16) (v := ?vv13) rfl (by kernel_rfl) (by kernel_rfl) (by kernel_rfl) (fun _ _ _ h => h) (Or.inl ⟨by rfl, ?hy13⟩) hHeld ?rr13
      case hy13 => (intro w' hSw; obtain ⟨s1, s2⟩ := hSw; obtain ⟨g1, g0, g2⟩ := HYc.out _ s1; have b0 := (cells_of_heap s2).1 0; have b1 := (cells_of_heap s2).1 1; have b2 := (cells_of_heap s2).1 2; go_simp; try with_reducible rfl)
      try simp only [Act.put, List.setIfInBounds_toArray, List.set_cons_zero, List.set_cons_succ, List.getElem_toArray, List.getElem_cons_succ, List.getElem_cons_zero]
      refine wpAnyZ_take (i := 17) (v := ?vv14) rfl (by kernel_rfl) (by kernel_rfl) (by kernel_rfl) (fun _ _ _ h => h) (Or.inl ⟨by rfl, ?hy14⟩) hHeld ?rr14
      case hy14 => (intro w' hSw; obtain ⟨s1, s2⟩ := hSw; obtain ⟨g1, g0, g2⟩ := HYc.out _ s1; have b0 := (cells_of_heap s2).1 0; have b1 := (cells_of_heap s2).1 1; have b2 := (cells_of_heap s2).1 2; go_simp; try with_reducible rfl)
      try simp only [Act.put, List.setIfInBounds_toArray, List.set_cons_zero, List.set_cons_succ, List.getElem_toArray, List.getElem_cons_succ, List.getElem_cons_zero]
      refine wpAnyZ_take (i := 18) (v := ?vv15) rfl (by kernel_rfl) (by kernel_rfl) (by kernel_rfl) (fun _ _ _ h => h) (Or.inl ⟨by rfl, ?hy15⟩) hHeld ?rr15
      case hy15 => (intro w' hSw; obtain ⟨s1, s2⟩ := hSw; obtain ⟨g1, g0, g2⟩ := HYc.out _ s1; have b0 := (cells_of_heap s2).1 0; have b1 := (cells_of_heap s2).1 1; have b2 := (cells_of_heap s2).1 2; go_simp; try with_reducible rfl)
      try simp only [Act.put, List.setIfInBounds_toArray, List.set_cons_zero, List.set_cons_succ, List.getElem_toArray, List.getElem_cons_succ, List.getElem_cons_zero]
      refine wpAnyZ_take (i := 19) (v := .slice (if c = i then some ⟨g, 0, none⟩ else some ⟨g, i * 4, none⟩) (n - i) (c - i)) rfl (by kernel_rfl) (by kernel_rfl) (by kernel_rfl) (fun _ _ _ h => h) (Or.inl ⟨by rfl, ?hy16⟩) hHeld ?rr16
      case hy16 => (intro w' hSw; obtain ⟨s1, s2⟩ := hSw; obtain ⟨g1, g0, g2⟩ := HYc.out _ s1; have b0 := (cells_of_heap s2).1 0; have b1 := (cells_of_heap s2).1 1; have b2 := (cells_of_heap s2).1 2; go_simp)
      try simp only [Act.put, List.setIfInBounds_toArray, List.set_cons_zero, List.set_cons_succ, List.getElem_toArray, List.getElem_cons_succ, List.getElem_cons_zero]
      obtain ⟨AD, hAD⟩ : ∃ AD, AD = (if c = i then (some ⟨g, 0, none⟩ : Option Addr) else some ⟨g, i * 4, none⟩) := ⟨_, rfl⟩
      rw [← hAD]
      have HAD := Lib.hid hAD
      clear hAD
      refine wpAnyZ_ready (rs := [1, 12]) (by kernel_rfl) (by simp) ?_
      refine AllReadyZ.cons rfl (fun K hK => ?x2a) (AllReadyZ.cons rfl (fun K hK => ?x2b) AllReadyZ.nil)
      case x2a =>
        try rw [if_pos (by rfl)]
        obtain ⟨gR3, hgR3⟩ : ∃ g, g = V1.heap.size := ⟨_, rfl⟩
        go_simp
        refine hK.out _ _ ⟨(HB1.out.alloc HB1.out.size _), (heap_old _ (heap_lt HK1.out) HK1.out)⟩ (fun hHeld2 => ?_)
        clear hK K hHeld
        have hHeld := hHeld2
        clear hHeld2
        try simp only [Act.put, List.setIfInBounds_toArray, List.set_cons_zero, List.set_cons_succ, List.getElem_toArray, List.getElem_cons_succ, List.getElem_cons_zero]
        try rw [← hgR3]
        refine at_world (C := fun V => wpAnyZ _ _ _ _ _ _ _ _ _ V) (P := fun V => Below w.heap.size w V ∧ V.heap[w.heap.size]? = some (.cells #[.string kj, .int .i64 ko, .int .i64 kg] 32 (0, 0)) ∧ V.ownsRow w.heap.size 41 4 (.slice (some ⟨gR3, 0, none⟩) 0 0) 0 []) ⟨HB1.out.alloc HB1.out.size _, heap_old _ (heap_lt HK1.out) HK1.out, (by rw [hgR3]; exact World.ownsRow_made V1 #[] 0 HB1.out.size (Nat.zero_le _) rfl)⟩ (fun V3 hV => ?_)
        obtain ⟨r0, r1, r2⟩ := hV
        have HB3 := Lib.hid r0
        have HK3 := Lib.hid r1
        have HR3 := Lib.hid r2
        clear hHeld r0 r1 r2
        have hHeld := And.intro HB3.out HK3.out
        clear hgR3
        refine wpAnyZ_ready (rs := [8, 12]) (by kernel_rfl) (by simp) ?_
        refine AllReadyZ.cons rfl (fun K hK => ?x4a) (AllReadyZ.cons rfl (fun K hK => ?x4b) AllReadyZ.nil)
        case x4a =>
          try rw [if_pos (by rfl)]
          refine oper_append_k _ (.tmp 49) (.tmp 55) 38 rfl 41 i0 zGo 4 40 Try.underlying38 hinfo hz0 hz1 hz2 rfl (by decide) w.heap.size (.slice (some ⟨gR3, 0, none⟩) 0 0) 0 [] rfl HR3.out (some ⟨g, 0, none⟩) i c (cellsR ((L.drop 0).take i)) rfl (by rw [cellsR_len, List.length_take, List.length_drop, ← HN.out]; omega) (rd_src (HRd.out _ HB3.out) (by rw [← HN.out]; omega) (fun _ => rfl)) (cellsR_one _) (by unfold maxLen; omega) (by omega) HB3.out.size ?_
          intro A5 d5 V5 hown hgrow hloc
          try simp only [Nat.zero_add, List.nil_append] at hown hloc ⊢
          have HB5 : Hid (Below w.heap.size w V5) := Lib.hid (HB3.out.grown hgrow HB3.out.size (fun j e => (HR3.out.lt j e).1))
          have HR5 := Lib.hid hown
          have HK5 := Lib.hid ((hgrow.block _ (heap_lt HK3.out) (fun e => own_ne HR3.out HK3.out (by decide) e.symm)).trans HK3.out)
          clear hown hgrow hloc
          refine hK.out _ _ ⟨HB5.out, HK5.out⟩ (fun hHeld2 => ?_)
          clear hK K hHeld
          have hHeld := hHeld2
          clear hHeld2
          try simp only [Act.put, List.setIfInBounds_toArray, List.set_cons_zero, List.set_cons_succ, List.getElem_toArray, List.getElem_cons_succ, List.getElem_cons_zero]
          refine wpAnyZ_ready (rs := [12]) (by kernel_rfl) (by simp) ?_
          refine AllReadyZ.cons rfl (fun K hK => ?_) AllReadyZ.nil
          try rw [if_pos (by rfl)]
          obtain ⟨gX6, hgX6⟩ : ∃ g, g = V5.heap.size := ⟨_, rfl⟩
          go_simp
          refine hK.out _ _ ⟨(HB5.out.alloc HB5.out.size _), (heap_old _ (heap_lt HK5.out) HK5.out)⟩ (fun hHeld2 => ?_)
          clear hK K hHeld
          have hHeld := hHeld2
          clear hHeld2
          try simp only [Act.put, List.setIfInBounds_toArray, List.set_cons_zero, List.set_cons_succ, List.getElem_toArray, List.getElem_cons_succ, List.getElem_cons_zero]
          try rw [← hgX6]
          refine at_world (C := fun V => wpAnyZ _ _ _ _ _ _ _ _ _ V) (P := fun V => Below w.heap.size w V ∧ V.heap[w.heap.size]? = some (.cells #[.string kj, .int .i64 ko, .int .i64 kg] 32 (0, 0)) ∧ V.ownsRow w.heap.size 41 4 (.slice A5 i d5) i (cellsR ((L.drop 0).take i)) ∧ V.heap[gX6]? = some (.cells #[.string kj, .int .i64 ko, .int .i64 kg, .int .i64 u] 41 (0, 0)) ∧ ∀ j, ((.slice A5 i d5) : Value).ownBlock = some j → j ≠ gX6) ⟨HB5.out.alloc HB5.out.size _, heap_old _ (heap_lt HK5.out) HK5.out, HR5.out.alloc _, (by rw [hgX6]; exact heap_new V5 _), (fun j e => by have := (HR5.out.lt j e).2; omega)⟩ (fun V6 hV => ?_)
          obtain ⟨r0, r1, r2, r3, r4⟩ := hV
          have HB6 := Lib.hid r0
          have HK6 := Lib.hid r1
          have HR6 := Lib.hid r2
          have HX6 := Lib.hid r3
          have HD6 := Lib.hid r4
          clear hHeld r0 r1 r2 r3 r4
          have hHeld := And.intro HB6.out HK6.out
          clear hgX6
          refine wpAnyZ_ready (rs := [13]) (by kernel_rfl) (by simp) ?_
          refine AllReadyZ.cons rfl (fun K hK => ?_) AllReadyZ.nil
          try rw [if_pos (by rfl)]
          refine oper_append_k _ (.tmp 56) (.tmp 60) 38 rfl 41 i0 zGo 4 40 Try.underlying38 hinfo hz0 hz1 hz2 rfl (by decide) w.heap.size (.slice A5 i d5) i (cellsR ((L.drop 0).take i)) rfl HR6.out (some ⟨gX6, 0, none⟩) 1 1 (goC ⟨⟨kj, ko, kg⟩, u, num⟩) rfl rfl (fun _ => ⟨_, rfl, cells_of_block HX6.out⟩) (fun v hv => by simp only [goC, List.mem_cons, List.not_mem_nil, or_false] at hv; rcases hv with rfl | rfl | rfl | rfl <;> rfl) (by unfold maxLen; omega) (by omega) HB6.out.size ?_
          intro A7 d7 V7 hown hgrow hloc
          have HB7 : Hid (Below w.heap.size w V7) := Lib.hid (HB6.out.grown hgrow HB6.out.size (fun j e => (HR6.out.lt j e).1))
          have HR7 := Lib.hid hown
          have HK7 := Lib.hid ((hgrow.block _ (heap_lt HK6.out) (fun e => own_ne HR6.out HK6.out (by decide) e.symm)).trans HK6.out)
          clear hown hgrow hloc
          refine hK.out _ _ ⟨HB7.out, HK7.out⟩ (fun hHeld2 => ?_)
          clear hK K hHeld
          have hHeld := hHeld2
          clear hHeld2
          try simp only [Act.put, List.setIfInBounds_toArray, List.set_cons_zero, List.set_cons_succ, List.getElem_toArray, List.getElem_cons_succ, List.getElem_cons_zero]
          refine wpAnyZ_ready (rs := [20]) (by kernel_rfl) (by simp) ?_
          refine AllReadyZ.cons rfl (fun K hK => ?_) AllReadyZ.nil
          try rw [if_pos (by rfl)]
          refine oper_append_k _ (.tmp 61) (.tmp 67) 38 rfl 41 i0 zGo 4 40 Try.underlying38 hinfo hz0 hz1 hz2 rfl (by decide) w.heap.size (.slice A7 (i + 1) d7) (i + 1) ((cellsR ((L.drop 0).take i)) ++ (goC ⟨⟨kj, ko, kg⟩, u, num⟩)) rfl HR7.out AD (n - i) (c - i) (cellsR ((L.drop i).take (n - i))) rfl (by rw [cellsR_len, List.length_take, List.length_drop, ← HN.out]; omega) (rd_src (HRd.out _ HB7.out) (by rw [← HN.out]; omega) (fun h => by rw [HAD.out, if_neg (by omega)]; simp)) (cellsR_one _) (by unfold maxLen; omega) (by omega) HB7.out.size ?_
          intro A8 d8 V8 hown hgrow hloc
          have HB8 : Hid (Below w.heap.size w V8) := Lib.hid (HB7.out.grown hgrow HB7.out.size (fun j e => (HR7.out.lt j e).1))
          have HR8 := Lib.hid hown
          have HK8 := Lib.hid ((hgrow.block _ (heap_lt HK7.out) (fun e => own_ne HR7.out HK7.out (by decide) e.symm)).trans HK7.out)
          clear hown hgrow hloc
          refine hK.out _ _ ⟨HB8.out, HK8.out⟩ (fun hHeld2 => ?_)
          clear hK K hHeld
          have hHeld := hHeld2
          clear hHeld2
          try simp only [Act.put, List.setIfInBounds_toArray, List.set_cons_zero, List.set_cons_succ, List.getElem_toArray, List.getElem_cons_succ, List.getElem_cons_zero]
          refine wpAnyZ_ready (rs := [21]) (by kernel_rfl) (by simp) ?_
          refine AllReadyZ.cons rfl (fun K hK => ?_) AllReadyZ.nil
          try rw [if_pos (by rfl)]
          go_simp
          refine hK.out _ _ ⟨HB8.out, HK8.out⟩ (fun hHeld2 => ?_)
          clear hK K hHeld
          have hHeld := hHeld2
          clear hHeld2
          try simp only [Act.put, List.setIfInBounds_toArray, List.set_cons_zero, List.set_cons_succ, List.getElem_toArray, List.getElem_cons_succ, List.getElem_cons_zero]
          refine wpAnyZ_take (i := 22) (v := ?vv17) rfl (by kernel_rfl) (by kernel_rfl) (by kernel_rfl) (fun _ _ _ h => h) (Or.inl ⟨by rfl, ?hy17⟩) hHeld ?rr17
          case hy17 => (intro w' hSw; obtain ⟨s1, s2⟩ := hSw; obtain ⟨g1, g0, g2⟩ := HYc.out _ s1; have b0 := (cells_of_heap s2).1 0; have b1 := (cells_of_heap s2).1 1; have b2 := (cells_of_heap s2).1 2; go_simp; try with_reducible rfl)
          try simp only [Act.put, List.setIfInBounds_toArray, List.set_cons_zero, List.set_cons_succ, List.getElem_toArray, List.getElem_cons_succ, List.getElem_cons_zero]
          obtain ⟨g1, g0, g2⟩ := HYc.out _ HB8.out
          refine wpAnyZ_ready (rs := [23]) (by kernel_rfl) (by simp) ?_
          refine AllReadyZ.last rfl (fun K hK => ?_)
          try rw [if_pos (by rfl)]
          go_simp
          refine hK.out _ _ ?_
          clear hK K hHeld
          try simp only [Act.put, List.setIfInBounds_toArray, List.set_cons_zero, List.set_cons_succ, List.getElem_toArray, List.getElem_cons_succ, List.getElem_cons_zero]
          refine wpAnyZ_done (by kernel_rfl) ?_ _
          go_wp2
          go_ret
          exact ⟨rfl, ry_end HYh.out HB8.out HR8.out (by rw [HIns.out]; rw [List.length_append, List.length_cons, List.length_take, List.length_drop, ← HN.out]; omega) (by rw [HIns.out]; exact ins_cells _ HN.out)⟩
        case x4b =>
          try rw [if_pos (by rfl)]
          obtain ⟨gX9, hgX9⟩ : ∃ g, g = V3.heap.size := ⟨_, rfl⟩
          go_simp
          refine hK.out _ _ ⟨(HB3.out.alloc HB3.out.size _), (heap_old _ (heap_lt HK3.out) HK3.out)⟩ (fun hHeld2 => ?_)
          clear hK K hHeld
          have hHeld := hHeld2
          clear hHeld2
          try simp only [Act.put, List.setIfInBounds_toArray, List.set_cons_zero, List.set_cons_succ, List.getElem_toArray, List.getElem_cons_succ, List.getElem_cons_zero]
          try rw [← hgX9]
          refine at_world (C := fun V => wpAnyZ _ _ _ _ _ _ _ _ _ V) (P := fun V => Below w.heap.size w V ∧ V.heap[w.heap.size]? = some (.cells #[.string kj, .int .i64 ko, .int .i64 kg] 32 (0, 0)) ∧ V.ownsRow w.heap.size 41 4 (.slice (some ⟨gR3, 0, none⟩) 0 0) 0 [] ∧ V.heap[gX9]? = some (.cells #[.string kj, .int .i64 ko, .int .i64 kg, .int .i64 u] 41 (0, 0)) ∧ ∀ j, ((.slice (some ⟨gR3, 0, none⟩) 0 0) : Value).ownBlock = some j → j ≠ gX9) ⟨HB3.out.alloc HB3.out.size _, heap_old _ (heap_lt HK3.out) HK3.out, HR3.out.alloc _, (by rw [hgX9]; exact heap_new V3 _), (fun j e => by have := (HR3.out.lt j e).2; omega)⟩ (fun V9 hV => ?_)
          obtain ⟨r0, r1, r2, r3, r4⟩ := hV
          have HB9 := Lib.hid r0
          have HK9 := Lib.hid r1
          have HR9 := Lib.hid r2
          have HX9 := Lib.hid r3
          have HD9 := Lib.hid r4
          clear hHeld r0 r1 r2 r3 r4
          have hHeld := And.intro HB9.out HK9.out
          clear hgX9
          refine wpAnyZ_ready (rs := [8]) (by kernel_rfl) (by simp) ?_
          refine AllReadyZ.cons rfl (fun K hK => ?_) AllReadyZ.nil
          try rw [if_pos (by rfl)]
          refine oper_append_k _ (.tmp 49) (.tmp 55) 38 rfl 41 i0 zGo 4 40 Try.underlying38 hinfo hz0 hz1 hz2 rfl (by decide) w.heap.size (.slice (some ⟨gR3, 0, none⟩) 0 0) 0 [] rfl HR9.out (some ⟨g, 0, none⟩) i c (cellsR ((L.drop 0).take i)) rfl (by rw [cellsR_len, List.length_take, List.length_drop, ← HN.out]; omega) (rd_src (HRd.out _ HB9.out) (by rw [← HN.out]; omega) (fun _ => rfl)) (cellsR_one _) (by unfold maxLen; omega) (by omega) HB9.out.size ?_
          intro A10 d10 V10 hown hgrow hloc
          try simp only [Nat.zero_add, List.nil_append] at hown hloc ⊢
          have HB10 : Hid (Below w.heap.size w V10) := Lib.hid (HB9.out.grown hgrow HB9.out.size (fun j e => (HR9.out.lt j e).1))
          have HR10 := Lib.hid hown
          have HK10 := Lib.hid ((hgrow.block _ (heap_lt HK9.out) (fun e => own_ne HR9.out HK9.out (by decide) e.symm)).trans HK9.out)
          have HX10 := Lib.hid ((hgrow.block _ (heap_lt HX9.out) (fun e => HD9.out _ e.symm rfl)).trans HX9.out)
          have HD10 := Lib.hid (fun j (e : (Value.slice A10 i d10).ownBlock = some j) => show j ≠ gX9 by
            rcases hloc with h | h
            · rw [h] at e; exact HD9.out j e
            · rw [h] at e; have := Option.some.inj e; have := heap_lt HX9.out; omega)
          clear hown hgrow hloc
          refine hK.out _ _ ⟨HB10.out, HK10.out⟩ (fun hHeld2 => ?_)
          clear hK K hHeld
          have hHeld := hHeld2
          clear hHeld2
          try simp only [Act.put, List.setIfInBounds_toArray, List.set_cons_zero, List.set_cons_succ, List.getElem_toArray, List.getElem_cons_succ, List.getElem_cons_zero]
          refine wpAnyZ_ready (rs := [13]) (by kernel_rfl) (by simp) ?_
          refine AllReadyZ.cons rfl (fun K hK => ?_) AllReadyZ.nil
          try rw [if_pos (by rfl)]
          refine oper_append_k _ (.tmp 56) (.tmp 60) 38 rfl 41 i0 zGo 4 40 Try.underlying38 hinfo hz0 hz1 hz2 rfl (by decide) w.heap.size (.slice A10 i d10) i (cellsR ((L.drop 0).take i)) rfl HR10.out (some ⟨gX9, 0, none⟩) 1 1 (goC ⟨⟨kj, ko, kg⟩, u, num⟩) rfl rfl (fun _ => ⟨_, rfl, cells_of_block HX10.out⟩) (fun v hv => by simp only [goC, List.mem_cons, List.not_mem_nil, or_false] at hv; rcases hv with rfl | rfl | rfl | rfl <;> rfl) (by unfold maxLen; omega) (by omega) HB10.out.size ?_
          intro A11 d11 V11 hown hgrow hloc
          have HB11 : Hid (Below w.heap.size w V11) := Lib.hid (HB10.out.grown hgrow HB10.out.size (fun j e => (HR10.out.lt j e).1))
          have HR11 := Lib.hid hown
          have HK11 := Lib.hid ((hgrow.block _ (heap_lt HK10.out) (fun e => own_ne HR10.out HK10.out (by decide) e.symm)).trans HK10.out)
          clear hown hgrow hloc
          refine hK.out _ _ ⟨HB11.out, HK11.out⟩ (fun hHeld2 => ?_)
          clear hK K hHeld
          have hHeld := hHeld2
          clear hHeld2
          try simp only [Act.put, List.setIfInBounds_toArray, List.set_cons_zero, List.set_cons_succ, List.getElem_toArray, List.getElem_cons_succ, List.getElem_cons_zero]
          refine wpAnyZ_ready (rs := [20]) (by kernel_rfl) (by simp) ?_
          refine AllReadyZ.cons rfl (fun K hK => ?_) AllReadyZ.nil
          try rw [if_pos (by rfl)]
          refine oper_append_k _ (.tmp 61) (.tmp 67) 38 rfl 41 i0 zGo 4 40 Try.underlying38 hinfo hz0 hz1 hz2 rfl (by decide) w.heap.size (.slice A11 (i + 1) d11) (i + 1) ((cellsR ((L.drop 0).take i)) ++ (goC ⟨⟨kj, ko, kg⟩, u, num⟩)) rfl HR11.out AD (n - i) (c - i) (cellsR ((L.drop i).take (n - i))) rfl (by rw [cellsR_len, List.length_take, List.length_drop, ← HN.out]; omega) (rd_src (HRd.out _ HB11.out) (by rw [← HN.out]; omega) (fun h => by rw [HAD.out, if_neg (by omega)]; simp)) (cellsR_one _) (by unfold maxLen; omega) (by omega) HB11.out.size ?_
          intro A12 d12 V12 hown hgrow hloc
          have HB12 : Hid (Below w.heap.size w V12) := Lib.hid (HB11.out.grown hgrow HB11.out.size (fun j e => (HR11.out.lt j e).1))
          have HR12 := Lib.hid hown
          have HK12 := Lib.hid ((hgrow.block _ (heap_lt HK11.out) (fun e => own_ne HR11.out HK11.out (by decide) e.symm)).trans HK11.out)
          clear hown hgrow hloc
          refine hK.out _ _ ⟨HB12.out, HK12.out⟩ (fun hHeld2 => ?_)
          clear hK K hHeld
          have hHeld := hHeld2
          clear hHeld2
          try simp only [Act.put, List.setIfInBounds_toArray, List.set_cons_zero, List.set_cons_succ, List.getElem_toArray, List.getElem_cons_succ, List.getElem_cons_zero]
          refine wpAnyZ_ready (rs := [21]) (by kernel_rfl) (by simp) ?_
          refine AllReadyZ.cons rfl (fun K hK => ?_) AllReadyZ.nil
          try rw [if_pos (by rfl)]
          go_simp
          refine hK.out _ _ ⟨HB12.out, HK12.out⟩ (fun hHeld2 => ?_)
          clear hK K hHeld
          have hHeld := hHeld2
          clear hHeld2
          try simp only [Act.put, List.setIfInBounds_toArray, List.set_cons_zero, List.set_cons_succ, List.getElem_toArray, List.getElem_cons_succ, List.getElem_cons_zero]
          refine wpAnyZ_take (i := 22) (v := ?vv18) rfl (by kernel_rfl) (by kernel_rfl) (by kernel_rfl) (fun _ _ _ h => h) (Or.inl ⟨by rfl, ?hy18⟩) hHeld ?rr18
          case hy18 => (intro w' hSw; obtain ⟨s1, s2⟩ := hSw; obtain ⟨g1, g0, g2⟩ := HYc.out _ s1; have b0 := (cells_of_heap s2).1 0; have b1 := (cells_of_heap s2).1 1; have b2 := (cells_of_heap s2).1 2; go_simp; try with_reducible rfl)
          try simp only [Act.put, List.setIfInBounds_toArray, List.set_cons_zero, List.set_cons_succ, List.getElem_toArray, List.getElem_cons_succ, List.getElem_cons_zero]
          obtain ⟨g1, g0, g2⟩ := HYc.out _ HB12.out
          refine wpAnyZ_ready (rs := [23]) (by kernel_rfl) (by simp) ?_
          refine AllReadyZ.last rfl (fun K hK => ?_)
          try rw [if_pos (by rfl)]
          go_simp
          refine hK.out _ _ ?_
          clear hK K hHeld
          try simp only [Act.put, List.setIfInBounds_toArray, List.set_cons_zero, List.set_cons_succ, List.getElem_toArray, List.getElem_cons_succ, List.getElem_cons_zero]
          refine wpAnyZ_done (by kernel_rfl) ?_ _
          go_wp2
          go_ret
          exact ⟨rfl, ry_end HYh.out HB12.out HR12.out (by rw [HIns.out]; rw [List.length_append, List.length_cons, List.length_take, List.length_drop, ← HN.out]; omega) (by rw [HIns.out]; exact ins_cells _ HN.out)⟩
      case x2b =>
        try rw [if_pos (by rfl)]
        obtain ⟨gX13, hgX13⟩ : ∃ g, g = V1.heap.size := ⟨_, rfl⟩
        go_simp
        refine hK.out _ _ ⟨(HB1.out.alloc HB1.out.size _), (heap_old _ (heap_lt HK1.out) HK1.out)⟩ (fun hHeld2 => ?_)
        clear hK K hHeld
        have hHeld := hHeld2
        clear hHeld2
        try simp only [Act.put, List.setIfInBounds_toArray, List.set_cons_zero, List.set_cons_succ, List.getElem_toArray, List.getElem_cons_succ, List.getElem_cons_zero]
        try rw [← hgX13]
        refine at_world (C := fun V => wpAnyZ _ _ _ _ _ _ _ _ _ V) (P := fun V => Below w.heap.size w V ∧ V.heap[w.heap.size]? = some (.cells #[.string kj, .int .i64 ko, .int .i64 kg] 32 (0, 0)) ∧ V.heap[gX13]? = some (.cells #[.string kj, .int .i64 ko, .int .i64 kg, .int .i64 u] 41 (0, 0))) ⟨HB1.out.alloc HB1.out.size _, heap_old _ (heap_lt HK1.out) HK1.out, (by rw [hgX13]; exact heap_new V1 _)⟩ (fun V13 hV => ?_)
        obtain ⟨r0, r1, r2⟩ := hV
        have HB13 := Lib.hid r0
        have HK13 := Lib.hid r1
        have HX13 := Lib.hid r2
        clear hHeld r0 r1 r2
        have hHeld := And.intro HB13.out HK13.out
        clear hgX13
        refine wpAnyZ_ready (rs := [1]) (by kernel_rfl) (by simp) ?_
        refine AllReadyZ.cons rfl (fun K hK => ?_) AllReadyZ.nil
        try rw [if_pos (by rfl)]
        obtain ⟨gR14, hgR14⟩ : ∃ g, g = V13.heap.size := ⟨_, rfl⟩
        go_simp
        refine hK.out _ _ ⟨(HB13.out.alloc HB13.out.size _), (heap_old _ (heap_lt HK13.out) HK13.out)⟩ (fun hHeld2 => ?_)
        clear hK K hHeld
        have hHeld := hHeld2
        clear hHeld2
        try simp only [Act.put, List.setIfInBounds_toArray, List.set_cons_zero, List.set_cons_succ, List.getElem_toArray, List.getElem_cons_succ, List.getElem_cons_zero]
        try rw [← hgR14]
        refine at_world (C := fun V => wpAnyZ _ _ _ _ _ _ _ _ _ V) (P := fun V => Below w.heap.size w V ∧ V.heap[w.heap.size]? = some (.cells #[.string kj, .int .i64 ko, .int .i64 kg] 32 (0, 0)) ∧ V.ownsRow w.heap.size 41 4 (.slice (some ⟨gR14, 0, none⟩) 0 0) 0 [] ∧ V.heap[gX13]? = some (.cells #[.string kj, .int .i64 ko, .int .i64 kg, .int .i64 u] 41 (0, 0)) ∧ ∀ j, ((.slice (some ⟨gR14, 0, none⟩) 0 0) : Value).ownBlock = some j → j ≠ gX13) ⟨HB13.out.alloc HB13.out.size _, heap_old _ (heap_lt HK13.out) HK13.out, (by rw [hgR14]; exact World.ownsRow_made V13 #[] 0 HB13.out.size (Nat.zero_le _) rfl), heap_old _ (heap_lt HX13.out) HX13.out, (fun j e => by have e2 : gR14 = j := Option.some.inj e; have := heap_lt HX13.out; omega)⟩ (fun V14 hV => ?_)
        obtain ⟨r0, r1, r2, r3, r4⟩ := hV
        have HB14 := Lib.hid r0
        have HK14 := Lib.hid r1
        have HR14 := Lib.hid r2
        have HX14 := Lib.hid r3
        have HD14 := Lib.hid r4
        clear hHeld r0 r1 r2 r3 r4
        have hHeld := And.intro HB14.out HK14.out
        clear hgR14
        refine wpAnyZ_ready (rs := [8]) (by kernel_rfl) (by simp) ?_
        refine AllReadyZ.cons rfl (fun K hK => ?_) AllReadyZ.nil
        try rw [if_pos (by rfl)]
        refine oper_append_k _ (.tmp 49) (.tmp 55) 38 rfl 41 i0 zGo 4 40 Try.underlying38 hinfo hz0 hz1 hz2 rfl (by decide) w.heap.size (.slice (some ⟨gR14, 0, none⟩) 0 0) 0 [] rfl HR14.out (some ⟨g, 0, none⟩) i c (cellsR ((L.drop 0).take i)) rfl (by rw [cellsR_len, List.length_take, List.length_drop, ← HN.out]; omega) (rd_src (HRd.out _ HB14.out) (by rw [← HN.out]; omega) (fun _ => rfl)) (cellsR_one _) (by unfold maxLen; omega) (by omega) HB14.out.size ?_
        intro A15 d15 V15 hown hgrow hloc
        try simp only [Nat.zero_add, List.nil_append] at hown hloc ⊢
        have HB15 : Hid (Below w.heap.size w V15) := Lib.hid (HB14.out.grown hgrow HB14.out.size (fun j e => (HR14.out.lt j e).1))
        have HR15 := Lib.hid hown
        have HK15 := Lib.hid ((hgrow.block _ (heap_lt HK14.out) (fun e => own_ne HR14.out HK14.out (by decide) e.symm)).trans HK14.out)
        have HX15 := Lib.hid ((hgrow.block _ (heap_lt HX14.out) (fun e => HD14.out _ e.symm rfl)).trans HX14.out)
        have HD15 := Lib.hid (fun j (e : (Value.slice A15 i d15).ownBlock = some j) => show j ≠ gX13 by
          rcases hloc with h | h
          · rw [h] at e; exact HD14.out j e
          · rw [h] at e; have := Option.some.inj e; have := heap_lt HX14.out; omega)
        clear hown hgrow hloc
        refine hK.out _ _ ⟨HB15.out, HK15.out⟩ (fun hHeld2 => ?_)
        clear hK K hHeld
        have hHeld := hHeld2
        clear hHeld2
        try simp only [Act.put, List.setIfInBounds_toArray, List.set_cons_zero, List.set_cons_succ, List.getElem_toArray, List.getElem_cons_succ, List.getElem_cons_zero]
        refine wpAnyZ_ready (rs := [13]) (by kernel_rfl) (by simp) ?_
        refine AllReadyZ.cons rfl (fun K hK => ?_) AllReadyZ.nil
        try rw [if_pos (by rfl)]
        refine oper_append_k _ (.tmp 56) (.tmp 60) 38 rfl 41 i0 zGo 4 40 Try.underlying38 hinfo hz0 hz1 hz2 rfl (by decide) w.heap.size (.slice A15 i d15) i (cellsR ((L.drop 0).take i)) rfl HR15.out (some ⟨gX13, 0, none⟩) 1 1 (goC ⟨⟨kj, ko, kg⟩, u, num⟩) rfl rfl (fun _ => ⟨_, rfl, cells_of_block HX15.out⟩) (fun v hv => by simp only [goC, List.mem_cons, List.not_mem_nil, or_false] at hv; rcases hv with rfl | rfl | rfl | rfl <;> rfl) (by unfold maxLen; omega) (by omega) HB15.out.size ?_
        intro A16 d16 V16 hown hgrow hloc
        have HB16 : Hid (Below w.heap.size w V16) := Lib.hid (HB15.out.grown hgrow HB15.out.size (fun j e => (HR15.out.lt j e).1))
        have HR16 := Lib.hid hown
        have HK16 := Lib.hid ((hgrow.block _ (heap_lt HK15.out) (fun e => own_ne HR15.out HK15.out (by decide) e.symm)).trans HK15.out)
        clear hown hgrow hloc
        refine hK.out _ _ ⟨HB16.out, HK16.out⟩ (fun hHeld2 => ?_)
        clear hK K hHeld
        have hHeld := hHeld2
        clear hHeld2
        try simp only [Act.put, List.setIfInBounds_toArray, List.set_cons_zero, List.set_cons_succ, List.getElem_toArray, List.getElem_cons_succ, List.getElem_cons_zero]
        refine wpAnyZ_ready (rs := [20]) (by kernel_rfl) (by simp) ?_
        refine AllReadyZ.cons rfl (fun K hK => ?_) AllReadyZ.nil
        try rw [if_pos (by rfl)]
        refine oper_append_k _ (.tmp 61) (.tmp 67) 38 rfl 41 i0 zGo 4 40 Try.underlying38 hinfo hz0 hz1 hz2 rfl (by decide) w.heap.size (.slice A16 (i + 1) d16) (i + 1) ((cellsR ((L.drop 0).take i)) ++ (goC ⟨⟨kj, ko, kg⟩, u, num⟩)) rfl HR16.out AD (n - i) (c - i) (cellsR ((L.drop i).take (n - i))) rfl (by rw [cellsR_len, List.length_take, List.length_drop, ← HN.out]; omega) (rd_src (HRd.out _ HB16.out) (by rw [← HN.out]; omega) (fun h => by rw [HAD.out, if_neg (by omega)]; simp)) (cellsR_one _) (by unfold maxLen; omega) (by omega) HB16.out.size ?_
        intro A17 d17 V17 hown hgrow hloc
        have HB17 : Hid (Below w.heap.size w V17) := Lib.hid (HB16.out.grown hgrow HB16.out.size (fun j e => (HR16.out.lt j e).1))
        have HR17 := Lib.hid hown
        have HK17 := Lib.hid ((hgrow.block _ (heap_lt HK16.out) (fun e => own_ne HR16.out HK16.out (by decide) e.symm)).trans HK16.out)
        clear hown hgrow hloc
        refine hK.out _ _ ⟨HB17.out, HK17.out⟩ (fun hHeld2 => ?_)
        clear hK K hHeld
        have hHeld := hHeld2
        clear hHeld2
        try simp only [Act.put, List.setIfInBounds_toArray, List.set_cons_zero, List.set_cons_succ, List.getElem_toArray, List.getElem_cons_succ, List.getElem_cons_zero]
        refine wpAnyZ_ready (rs := [21]) (by kernel_rfl) (by simp) ?_
        refine AllReadyZ.cons rfl (fun K hK => ?_) AllReadyZ.nil
        try rw [if_pos (by rfl)]
        go_simp
        refine hK.out _ _ ⟨HB17.out, HK17.out⟩ (fun hHeld2 => ?_)
        clear hK K hHeld
        have hHeld := hHeld2
        clear hHeld2
        try simp only [Act.put, List.setIfInBounds_toArray, List.set_cons_zero, List.set_cons_succ, List.getElem_toArray, List.getElem_cons_succ, List.getElem_cons_zero]
        refine wpAnyZ_take (i := 22) (v := ?vv19) rfl (by kernel_rfl) (by kernel_rfl) (by kernel_rfl) (fun _ _ _ h => h) (Or.inl ⟨by rfl, ?hy19⟩) hHeld ?rr19
        case hy19 => (intro w' hSw; obtain ⟨s1, s2⟩ := hSw; obtain ⟨g1, g0, g2⟩ := HYc.out _ s1; have b0 := (cells_of_heap s2).1 0; have b1 := (cells_of_heap s2).1 1; have b2 := (cells_of_heap s2).1 2; go_simp; try with_reducible rfl)
        try simp only [Act.put, List.setIfInBounds_toArray, List.set_cons_zero, List.set_cons_succ, List.getElem_toArray, List.getElem_cons_succ, List.getElem_cons_zero]
        obtain ⟨g1, g0, g2⟩ := HYc.out _ HB17.out
        refine wpAnyZ_ready (rs := [23]) (by kernel_rfl) (by simp) ?_
        refine AllReadyZ.last rfl (fun K hK => ?_)
        try rw [if_pos (by rfl)]
        go_simp
        refine hK.out _ _ ?_
        clear hK K hHeld
        try simp only [Act.put, List.setIfInBounds_toArray, List.set_cons_zero, List.set_cons_succ, List.getElem_toArray, List.getElem_cons_succ, List.getElem_cons_zero]
        refine wpAnyZ_done (by kernel_rfl) ?_ _
        go_wp2
        go_ret
        exact ⟨rfl, ry_end HYh.out HB17.out HR17.out (by rw [HIns.out]; rw [List.length_append, List.length_cons, List.length_take, List.length_drop, ← HN.out]; omega) (by rw [HIns.out]; exact ins_cells _ HN.out)⟩
set_option maxHeartbeats 4000000 in
set_option maxRecDepth 20000 in
theorem rfinish_miss (h : RY w y slots L) {k : Ky} (hN : L.length ≤ 65536) (hno : ∀ r ∈ L, r.key ≠ k) :
    Calls Try.prog 13 #[.pointer (some ⟨y, 0, none⟩), kyV k] w (NoPost 4 w) := by
  have HFi := Lib.hid (fun V (hV : Below w.heap.size w V) => rfind_any (h.later hV) k hN)
  have HB1 := Lib.hid (below_alloc w (.cells #[.string k.job, .int .i64 k.occ, .int .i64 k.host] 32))
  have HF2 : Hid (∀ idx, FindIs L k idx → idx = -1) := Lib.hid (fun idx hf => by
    rcases hf with ⟨h, _⟩ | ⟨i, hi, rfl, e⟩
    · exact h
    · exact absurd e (hno _ (List.getElem_mem hi)))
  obtain ⟨kj, ko, kg⟩ := k
  clear h hno
  go_enter Try.func13, Try.ntmps13
  go_wp2_with (go_at_call 18; refine Calls.mono (HFi.out _ HB1.out) ?_; rintro e w1 ⟨idx, rfl, hf, hb⟩; have hi0 := HF2.out idx hf; have HB2 := Lib.hid (HB1.out.trans (hb.mono (by simp))); subst hi0; clear hf hb)
  go_ret
  exact ⟨rfl, HB2.out⟩
set_option maxHeartbeats 4000000 in
set_option maxRecDepth 20000 in
theorem rfinish_hit (h : RY w y slots L) {r : Rn} (hok : Ok slots started L) (hr : r ∈ L) :
    Calls Try.prog 13 #[.pointer (some ⟨y, 0, none⟩), kyV r.key] w (ROp y slots (del L r.num) (.int .i64 0) w) := by
  have hL6 : L.length ≤ 65536 := by have h1 := hok.room; have h2 := hok.few; omega
  have HFi := Lib.hid (fun V (hV : Below w.heap.size w V) => rfind_any (h.later hV) r.key hL6)
  obtain ⟨i0, hinfo, hz0, hz1, hz2⟩ := info_going
  obtain ⟨A, c, hy, ho⟩ := h
  have HYh := Lib.hid hy
  have hyl := heap_lt hy
  have HRd := Lib.hid (fun V (hV : Below w.heap.size w V) => (rd_of ho rfl).later hV)
  obtain ⟨n, hn⟩ : ∃ n, n = L.length := ⟨_, rfl⟩
  have hsome : ∃ g, A = some ⟨g, 0, none⟩ ∧ n ≤ c ∧ c ≤ maxLen := by
    rcases ho.2 with ⟨_, h2⟩ | ⟨g, cap, cur, h1, _, _, h3, h4, _⟩
    · rw [List.eq_nil_of_length_eq_zero h2] at hr; cases hr
    · injection h1 with e1 e2 e3
      exact ⟨g, e1, by rw [hn, e3]; exact h3, by rw [e3]; exact h4⟩
  obtain ⟨g, rfl, hnc2, hcm⟩ := hsome
  have HF2 : Hid (∀ idx, FindIs L r.key idx → ∃ i : Nat, idx = (i : Int) ∧ i < n ∧ del L r.num = L.take i ++ L.drop (i + 1)) := Lib.hid (fun idx hf => by
    rcases hf with ⟨_, hno⟩ | ⟨i, hi, rfl, e⟩
    · exact absurd rfl (hno r hr)
    · have e2 := hok.keys _ (List.getElem_mem hi) r hr e
      refine ⟨i, rfl, by rw [hn]; exact hi, ?_⟩
      rw [← e2]
      exact del_at hi (fun a ha ea => hok.nums a ha _ (List.getElem_mem hi) ea) hok.asc)
  rw [← hn] at hy hL6
  have HN := Lib.hid hn
  have HYc := Lib.hid (fun V (hV : Below w.heap.size w V) => (show V.cell? ⟨y, 1, none⟩ = some (.slice (some ⟨g, 0, none⟩) n c) ∧ V.cell? ⟨y, 0, none⟩ = some (.int .i64 slots) ∧ V.frozen? ⟨y, 1, none⟩ = false from ⟨cell_later hV (cell_of_row _ _ 1 _ _ _ hy), cell_later hV (cell_of_row _ _ 0 _ _ _ hy), (cells_of_heap ((hV.block _ hyl).trans hy)).2 1⟩))
  have HB1 := Lib.hid (below_alloc w (.cells #[.string r.key.job, .int .i64 r.key.occ, .int .i64 r.key.host] 32))
  clear hok hr hy ho hn hyl
  obtain ⟨L', hL'⟩ : ∃ L', L' = del L r.num := ⟨_, rfl⟩
  rw [← hL'] at HF2 ⊢
  clear hL'
  obtain ⟨⟨kj, ko, kg⟩, ru, rnum⟩ := r
  go_enter Try.func13, Try.ntmps13
  go_wp2_with (go_at_call 18; refine Calls.mono (HFi.out _ HB1.out) ?_; rintro e w1 ⟨idx, rfl, hf, hb⟩; obtain ⟨i, rfl, hin, hdl⟩ := HF2.out idx hf; have hi0 : (0 : Int) ≤ (i : Int) := (by omega); have HB := Lib.hid (HB1.out.trans (hb.mono (by simp))); have HIns := Lib.hid hdl; clear hf hb hdl)
  have hic : i ≤ c := by omega
  have hw1 : wrap64 ((i : Int) + 1) = ((i + 1 : Nat) : Int) := by rw [IntWalk.wrap64_in _ ⟨by omega, by unfold maxLen at hcm; omega⟩]; omega
  have hw2 : wrap64 ((i : Int) + 1) = (i : Int) + 1 := by rw [hw1]; omega
  have hw3 : IntKind.i64.wrap ((i : Int) + 1) = (i : Int) + 1 := IntWalk.i64_in _ ⟨by omega, by unfold maxLen at hcm; omega⟩
  clear HF2 HFi HB1
  refine wp_region_heldz_drew (S := (fun V => Below w.heap.size w V)) 19 (by kernel_rfl) HB.out.drew (fun hHeld => ?_)
  refine at_world (C := fun V => wpAnyZ _ _ _ _ _ _ _ _ _ V) (P := fun V => Below w.heap.size w V) HB.out.drew (fun V35 hV => ?_)
  have r0 := hV
  have HB35 := Lib.hid r0
  clear hHeld hV r0
  have hHeld := HB35.out
  refine wpAnyZ_take (i := 0) (v := ?vv39) rfl (by kernel_rfl) (by kernel_rfl) (by kernel_rfl) (fun _ _ _ h => h) (Or.inl ⟨by rfl, ?hy39⟩) hHeld ?rr39
  case hy39 => (intro w' hSw; obtain ⟨g1, g0, g2⟩ := HYc.out _ hSw; go_simp; try with_reducible rfl)
  try simp only [Act.put, List.setIfInBounds_toArray, List.set_cons_zero, List.set_cons_succ, List.getElem_toArray, List.getElem_cons_succ, List.getElem_cons_zero]
  refine wpAnyZ_take (i := 2) (v := ?vv40) rfl (by kernel_rfl) (by kernel_rfl) (by kernel_rfl) (fun _ _ _ h => h) (Or.inl ⟨by rfl, ?hy40⟩) hHeld ?rr40
  case hy40 => (intro w' hSw; obtain ⟨g1, g0, g2⟩ := HYc.out _ hSw; go_simp; try with_reducible rfl)
  try simp only [Act.put, List.setIfInBounds_toArray, List.set_cons_zero, List.set_cons_succ, List.getElem_toArray, List.getElem_cons_succ, List.getElem_cons_zero]
  refine wpAnyZ_take (i := 3) (v := ?vv41) rfl (by kernel_rfl) (by kernel_rfl) (by kernel_rfl) (fun _ _ _ h => h) (Or.inl ⟨by rfl, ?hy41⟩) hHeld ?rr41
  case hy41 => (intro w' hSw; obtain ⟨g1, g0, g2⟩ := HYc.out _ hSw; go_simp; try with_reducible rfl)
  try simp only [Act.put, List.setIfInBounds_toArray, List.set_cons_zero, List.set_cons_succ, List.getElem_toArray, List.getElem_cons_succ, List.getElem_cons_zero]
  refine wpAnyZ_take (i := 4) (v := ?vv42) rfl (by kernel_rfl) (by kernel_rfl) (by kernel_rfl) (fun _ _ _ h => h) (Or.inl ⟨by rfl, ?hy42⟩) hHeld ?rr42
  case hy42 => (intro w' hSw; obtain ⟨g1, g0, g2⟩ := HYc.out _ hSw; go_simp; try with_reducible rfl)
  try simp only [Act.put, List.setIfInBounds_toArray, List.set_cons_zero, List.set_cons_succ, List.getElem_toArray, List.getElem_cons_succ, List.getElem_cons_zero]
  refine wpAnyZ_take (i := 5) (v := ?vv43) rfl (by kernel_rfl) (by kernel_rfl) (by kernel_rfl) (fun _ _ _ h => h) (Or.inl ⟨by rfl, ?hy43⟩) hHeld ?rr43
  case hy43 => (intro w' hSw; obtain ⟨g1, g0, g2⟩ := HYc.out _ hSw; go_simp; try with_reducible rfl)
  try simp only [Act.put, List.setIfInBounds_toArray, List.set_cons_zero, List.set_cons_succ, List.getElem_toArray, List.getElem_cons_succ, List.getElem_cons_zero]
  refine wpAnyZ_take (i := 6) (v := ?vv44) rfl (by kernel_rfl) (by kernel_rfl) (by kernel_rfl) (fun _ _ _ h => h) (Or.inl ⟨by rfl, ?hy44⟩) hHeld ?rr44
  case hy44 => (intro w' hSw; obtain ⟨g1, g0, g2⟩ := HYc.out _ hSw; go_simp; try with_reducible rfl)
  try simp only [Act.put, List.setIfInBounds_toArray, List.set_cons_zero, List.set_cons_succ, List.getElem_toArray, List.getElem_cons_succ, List.getElem_cons_zero]
  refine wpAnyZ_take (i := 7) (v := .slice (some ⟨g, 0, none⟩) i c) rfl (by kernel_rfl) (by kernel_rfl) (by kernel_rfl) (fun _ _ _ h => h) (Or.inl ⟨by rfl, ?hy45⟩) hHeld ?rr45
  case hy45 => (intro w' hSw; obtain ⟨g1, g0, g2⟩ := HYc.out _ hSw; go_simp; try rw [if_pos hic]; try go_simp; try rfl)
  try simp only [Act.put, List.setIfInBounds_toArray, List.set_cons_zero, List.set_cons_succ, List.getElem_toArray, List.getElem_cons_succ, List.getElem_cons_zero]
  refine wpAnyZ_take (i := 9) (v := ?vv46) rfl (by kernel_rfl) (by kernel_rfl) (by kernel_rfl) (fun _ _ _ h => h) (Or.inl ⟨by rfl, ?hy46⟩) hHeld ?rr46
  case hy46 => (intro w' hSw; obtain ⟨g1, g0, g2⟩ := HYc.out _ hSw; go_simp; try with_reducible rfl)
  try simp only [Act.put, List.setIfInBounds_toArray, List.set_cons_zero, List.set_cons_succ, List.getElem_toArray, List.getElem_cons_succ, List.getElem_cons_zero]
  refine wpAnyZ_take (i := 10) (v := ?vv47) rfl (by kernel_rfl) (by kernel_rfl) (by kernel_rfl) (fun _ _ _ h => h) (Or.inl ⟨by rfl, ?hy47⟩) hHeld ?rr47
  case hy47 => (intro w' hSw; obtain ⟨g1, g0, g2⟩ := HYc.out _ hSw; go_simp; try with_reducible rfl)
  try simp only [Act.put, List.setIfInBounds_toArray, List.set_cons_zero, List.set_cons_succ, List.getElem_toArray, List.getElem_cons_succ, List.getElem_cons_zero]
  refine wpAnyZ_take (i := 11) (v := ?vv48) rfl (by kernel_rfl) (by kernel_rfl) (by kernel_rfl) (fun _ _ _ h => h) (Or.inl ⟨by rfl, ?hy48⟩) hHeld ?rr48
  case hy48 => (intro w' hSw; obtain ⟨g1, g0, g2⟩ := HYc.out _ hSw; go_simp; try with_reducible rfl)
  try simp only [Act.put, List.setIfInBounds_toArray, List.set_cons_zero, List.set_cons_succ, List.getElem_toArray, List.getElem_cons_succ, List.getElem_cons_zero]
  refine wpAnyZ_take (i := 12) (v := ?vv49) rfl (by kernel_rfl) (by kernel_rfl) (by kernel_rfl) (fun _ _ _ h => h) (Or.inl ⟨by rfl, ?hy49⟩) hHeld ?rr49
  case hy49 => (intro w' hSw; obtain ⟨g1, g0, g2⟩ := HYc.out _ hSw; go_simp; try with_reducible rfl)
  try simp only [Act.put, List.setIfInBounds_toArray, List.set_cons_zero, List.set_cons_succ, List.getElem_toArray, List.getElem_cons_succ, List.getElem_cons_zero]
  refine wpAnyZ_take (i := 13) (v := ?vv50) rfl (by kernel_rfl) (by kernel_rfl) (by kernel_rfl) (fun _ _ _ h => h) (Or.inl ⟨by rfl, ?hy50⟩) hHeld ?rr50
  case hy50 => (intro w' hSw; obtain ⟨g1, g0, g2⟩ := HYc.out _ hSw; go_simp; try with_reducible rfl)
  try simp only [Act.put, List.setIfInBounds_toArray, List.set_cons_zero, List.set_cons_succ, List.getElem_toArray, List.getElem_cons_succ, List.getElem_cons_zero]
  refine wpAnyZ_take (i := 14) (v := .int .i64 ((i + 1 : Nat) : Int)) rfl (by kernel_rfl) (by kernel_rfl) (by kernel_rfl) (fun _ _ _ h => h) (Or.inl ⟨by rfl, ?hy51⟩) hHeld ?rr51
  case hy51 => (intro w' hSw; obtain ⟨g1, g0, g2⟩ := HYc.out _ hSw; go_simp; try exact hw3)
  try simp only [Act.put, List.setIfInBounds_toArray, List.set_cons_zero, List.set_cons_succ, List.getElem_toArray, List.getElem_cons_succ, List.getElem_cons_zero]
  refine wpAnyZ_take (i := 15) (v := .slice (if c = i + 1 then some ⟨g, 0, none⟩ else some ⟨g, (i + 1) * 4, none⟩) (n - (i + 1)) (c - (i + 1))) rfl (by kernel_rfl) (by kernel_rfl) (by kernel_rfl) (fun _ _ _ h => h) (Or.inl ⟨by rfl, ?hy52⟩) hHeld ?rr52
  case hy52 => (intro w' hSw; obtain ⟨g1, g0, g2⟩ := HYc.out _ hSw; go_simp; exact fun hx => absurd (hx (by omega)) (by omega))
  try simp only [Act.put, List.setIfInBounds_toArray, List.set_cons_zero, List.set_cons_succ, List.getElem_toArray, List.getElem_cons_succ, List.getElem_cons_zero]
  obtain ⟨AD, hAD⟩ : ∃ AD, AD = (if c = i + 1 then (some ⟨g, 0, none⟩ : Option Addr) else some ⟨g, (i + 1) * 4, none⟩) := ⟨_, rfl⟩
  rw [← hAD]
  have HAD := Lib.hid hAD
  clear hAD
  refine wpAnyZ_ready (rs := [1]) (by kernel_rfl) (by simp) ?_
  refine AllReadyZ.cons rfl (fun K hK => ?_) AllReadyZ.nil
  try rw [if_pos (by rfl)]
  obtain ⟨gR36, hgR36⟩ : ∃ g, g = V35.heap.size := ⟨_, rfl⟩
  go_simp
  refine hK.out _ _ (HB35.out.alloc HB35.out.size _) (fun hHeld2 => ?_)
  clear hK K hHeld
  have hHeld := hHeld2
  clear hHeld2
  try simp only [Act.put, List.setIfInBounds_toArray, List.set_cons_zero, List.set_cons_succ, List.getElem_toArray, List.getElem_cons_succ, List.getElem_cons_zero]
  try rw [← hgR36]
  refine at_world (C := fun V => wpAnyZ _ _ _ _ _ _ _ _ _ V) (P := fun V => Below w.heap.size w V ∧ V.ownsRow w.heap.size 41 4 (.slice (some ⟨gR36, 0, none⟩) 0 0) 0 []) ⟨HB35.out.alloc HB35.out.size _, (by rw [hgR36]; exact World.ownsRow_made V35 #[] 0 HB35.out.size (Nat.zero_le _) rfl)⟩ (fun V36 hV => ?_)
  obtain ⟨r0, r1⟩ := hV
  have HB36 := Lib.hid r0
  have HR36 := Lib.hid r1
  clear hHeld r0 r1
  have hHeld := HB36.out
  clear hgR36
  refine wpAnyZ_ready (rs := [8]) (by kernel_rfl) (by simp) ?_
  refine AllReadyZ.cons rfl (fun K hK => ?_) AllReadyZ.nil
  try rw [if_pos (by rfl)]
  refine oper_append_k _ (.tmp 12) (.tmp 18) 38 rfl 41 i0 zGo 4 40 Try.underlying38 hinfo hz0 hz1 hz2 rfl (by decide) w.heap.size (.slice (some ⟨gR36, 0, none⟩) 0 0) 0 [] rfl HR36.out (some ⟨g, 0, none⟩) i c (cellsR ((L.drop 0).take i)) rfl (by rw [cellsR_len, List.length_take, List.length_drop, ← HN.out]; omega) (rd_src (HRd.out _ HB36.out) (by rw [← HN.out]; omega) (fun _ => rfl)) (cellsR_one _) (by unfold maxLen; omega) (by omega) HB36.out.size ?_
  intro A37 d37 V37 hown hgrow hloc
  try simp only [Nat.zero_add, List.nil_append] at hown hloc ⊢
  have HB37 : Hid (Below w.heap.size w V37) := Lib.hid (HB36.out.grown hgrow HB36.out.size (fun j e => (HR36.out.lt j e).1))
  have HR37 := Lib.hid hown
  clear hown hgrow hloc
  refine hK.out _ _ HB37.out (fun hHeld2 => ?_)
  clear hK K hHeld
  have hHeld := hHeld2
  clear hHeld2
  try simp only [Act.put, List.setIfInBounds_toArray, List.set_cons_zero, List.set_cons_succ, List.getElem_toArray, List.getElem_cons_succ, List.getElem_cons_zero]
  refine wpAnyZ_ready (rs := [16]) (by kernel_rfl) (by simp) ?_
  refine AllReadyZ.cons rfl (fun K hK => ?_) AllReadyZ.nil
  try rw [if_pos (by rfl)]
  refine oper_append_k _ (.tmp 19) (.tmp 26) 38 rfl 41 i0 zGo 4 40 Try.underlying38 hinfo hz0 hz1 hz2 rfl (by decide) w.heap.size (.slice A37 i d37) i (cellsR ((L.drop 0).take i)) rfl HR37.out AD (n - (i + 1)) (c - (i + 1)) (cellsR ((L.drop (i + 1)).take (n - (i + 1)))) rfl (by rw [cellsR_len, List.length_take, List.length_drop, ← HN.out]; omega) (rd_src (HRd.out _ HB37.out) (by rw [← HN.out]; omega) (fun h => by rw [HAD.out, if_neg (by omega)]; simp)) (cellsR_one _) (by unfold maxLen; omega) (by omega) HB37.out.size ?_
  intro A38 d38 V38 hown hgrow hloc
  have HB38 : Hid (Below w.heap.size w V38) := Lib.hid (HB37.out.grown hgrow HB37.out.size (fun j e => (HR37.out.lt j e).1))
  have HR38 := Lib.hid hown
  clear hown hgrow hloc
  refine hK.out _ _ HB38.out (fun hHeld2 => ?_)
  clear hK K hHeld
  have hHeld := hHeld2
  clear hHeld2
  try simp only [Act.put, List.setIfInBounds_toArray, List.set_cons_zero, List.set_cons_succ, List.getElem_toArray, List.getElem_cons_succ, List.getElem_cons_zero]
  refine wpAnyZ_ready (rs := [17]) (by kernel_rfl) (by simp) ?_
  refine AllReadyZ.cons rfl (fun K hK => ?_) AllReadyZ.nil
  try rw [if_pos (by rfl)]
  go_simp
  refine hK.out _ _ HB38.out (fun hHeld2 => ?_)
  clear hK K hHeld
  have hHeld := hHeld2
  clear hHeld2
  try simp only [Act.put, List.setIfInBounds_toArray, List.set_cons_zero, List.set_cons_succ, List.getElem_toArray, List.getElem_cons_succ, List.getElem_cons_zero]
  refine wpAnyZ_take (i := 18) (v := ?vv53) rfl (by kernel_rfl) (by kernel_rfl) (by kernel_rfl) (fun _ _ _ h => h) (Or.inl ⟨by rfl, ?hy53⟩) hHeld ?rr53
  case hy53 => (intro w' hSw; obtain ⟨g1, g0, g2⟩ := HYc.out _ hSw; go_simp; try with_reducible rfl)
  try simp only [Act.put, List.setIfInBounds_toArray, List.set_cons_zero, List.set_cons_succ, List.getElem_toArray, List.getElem_cons_succ, List.getElem_cons_zero]
  obtain ⟨g1, g0, g2⟩ := HYc.out _ HB38.out
  refine wpAnyZ_ready (rs := [19]) (by kernel_rfl) (by simp) ?_
  refine AllReadyZ.last rfl (fun K hK => ?_)
  try rw [if_pos (by rfl)]
  go_simp
  refine hK.out _ _ ?_
  clear hK K hHeld
  try simp only [Act.put, List.setIfInBounds_toArray, List.set_cons_zero, List.set_cons_succ, List.getElem_toArray, List.getElem_cons_succ, List.getElem_cons_zero]
  refine wpAnyZ_done (by kernel_rfl) ?_ _
  go_wp2
  go_ret
  exact ⟨rfl, ry_end HYh.out HB38.out HR38.out (by rw [HIns.out, List.length_append, List.length_take, List.length_drop, ← HN.out]; omega) (by rw [HIns.out]; exact del_cells HN.out)⟩
end
end Go.Proofs.Ytkdfkhebjhnbmaa
