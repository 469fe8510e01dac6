/- Package exec: the reference's Kill. -/
import Derived.Test.YtkdfkhebjhnbmaaExeS
import Derived.Deep.CutBlock
set_option linter.unusedSimpArgs false
set_option linter.unusedVariables false
namespace Go.Proofs.Ytkdfkhebjhnbmaa
open Go.ChangeShapes Go.WideShapes Go.ChangeAt Go.RowKit Go.Base Go.Que Go.Exe

/-- What the reference's Kill leaves. -/
def RKill (y : Nat) (slots now : Int) (L : List Rn) (w : World) (e : Ending) (w' : World) : Prop :=
  ∃ done rest A c, L = done ++ rest ∧ (∀ r ∈ done, r.until_ ≤ now) ∧ (∀ r ∈ rest, now < r.until_) ∧ e = .returned (.slice A done.length c) ∧ Rd w' A done ∧ RYP (fun k => w.heap.size ≤ k) w' y slots rest ∧ Moved (fun k => k = y) w w'
theorem Rd.kept {p : Nat → Prop} {w w' : World} {A : Option Addr} {l : List Rn} (h : Rd w A l) (hm : Moved p w w') (hp : ∀ g, A = some ⟨g, 0, none⟩ → ¬ p g) : Rd w' A l := fun k hk => by
  obtain ⟨g, e, hc⟩ := h k hk
  refine ⟨g, e, fun j hj => ?_⟩
  have h1 := hc j hj
  have hs : j < (goC l[k]).length := hj
  rw [List.getElem?_eq_getElem hs] at h1 ⊢
  exact hm.cell h1 (hp g e)
theorem rest_late {L : List Rn} {i : Nat} {now : Int} (hp : L.Pairwise ltR) (hg : ∀ a, L[i]? = some a → now < a.until_) : ∀ r ∈ L.drop i, now < r.until_ := fun r hr => by
  by_cases hi : i < L.length
  · have hd : L.drop i = L[i] :: L.drop (i + 1) := List.drop_eq_getElem_cons hi
    have h1 := hg L[i] (List.getElem?_eq_getElem hi)
    have h2 : (L.drop i).Pairwise ltR := hp.drop
    rw [hd] at h2 hr
    rcases List.mem_cons.1 hr with rfl | hr
    · exact h1
    · have := (List.pairwise_cons.1 h2).1 r hr
      unfold ltR at this; omega
  · rw [List.drop_of_length_le (by omega)] at hr; cases hr
set_option maxHeartbeats 4000000 in
set_option maxRecDepth 20000 in
theorem rkill_any {w : World} {y : Nat} {slots : Int} {L : List Rn} (h : RY w y slots L) (hN : L.length ≤ 65536) (hp : L.Pairwise ltR) (now : Int) :
    Calls Try.prog 16 #[.pointer (some ⟨y, 0, none⟩), .int .i64 now] w (RKill y slots now L w) := by
  obtain ⟨i0, hinfo, hz0, hz1, hz2⟩ := info_going
  obtain ⟨A, c, hy, ho⟩ := h
  have HYh := Lib.hid hy
  have HO := Lib.hid ho
  have HAs := Lib.hid hp
  have hyl := heap_lt hy
  have HRd := Lib.hid (rd_of ho rfl)
  obtain ⟨n, hn⟩ : ∃ n, n = L.length := ⟨_, rfl⟩
  rw [← hn] at hy hN
  have HN := Lib.hid hn
  have cy1 : w.cell? ⟨y, 1, none⟩ = some (.slice A n c) := cell_of_row _ _ 1 _ _ _ hy
  have fy1 : w.frozen? ⟨y, 1, none⟩ = false := (cells_of_heap hy).2 1
  clear hy ho hn hp
  go_enter Try.func16, Try.ntmps16
  go_upto_block 0 with fail
  go_cut [5] from 7 to 27 (fun iv wx => ∃ i : Nat, i ≤ n ∧ iv = .int .i64 (i : Int) ∧ Hid (∀ a ∈ L.take i, a.until_ ≤ now) ∧ Hid (∀ a, L[i]? = some a → now < a.until_) ∧ wx = w)
  case first =>
    go_wp2_with fail
    go_loopw [5] (fun iv wr => ∃ i : Nat, i ≤ n ∧ iv = .int .i64 (i : Int) ∧ Hid (∀ a ∈ L.take i, a.until_ ≤ now) ∧ wr = w) (fun iv _ => n - (intOf iv).toNat)
    case atStart => exact ⟨0, by omega, rfl, Lib.hid (fun a ha => by simp at ha), rfl⟩
    case round =>
      obtain ⟨i, hi, rfl, HT, rfl⟩ := hrel
      have hi0 : (0 : Int) ≤ (i : Int) := by omega
      by_cases hid : i < n
      · have hid' : (i : Int) < (n : Int) := by omega
        have hil : i < L.length := by rw [← HN.out]; exact hid
        obtain ⟨g, hA, hc⟩ := HRd.out i hil
        have HTk : Hid (∀ r ∈ L.take (i + 1), r = L[i] ∨ r ∈ L.take i) := Lib.hid (fun r hr => by
          rw [List.take_succ_eq_append_getElem hil] at hr
          rcases List.mem_append.1 hr with h | h
          · exact .inr h
          · rw [List.mem_singleton] at h; exact .inl h)
        have HGt : Hid (∀ a, L[i]? = some a → a = L[i]) := Lib.hid (fun a ha => by rw [List.getElem?_eq_getElem hil] at ha; exact (Option.some.inj ha).symm)
        obtain ⟨r, hr⟩ : ∃ r, r = L[i] := ⟨_, rfl⟩
        rw [← hr] at hc HTk HGt
        obtain ⟨⟨j, o, gg⟩, ru, rnum⟩ := r
        have a3 : wr.cell? ⟨g, i * 4 + 3, none⟩ = some (.int .i64 ru) := (hc 3 (by omega)).trans rfl
        clear hr hc hil
        subst hA
        by_cases hru : ru ≤ now
        · go_wp2
          go_roundw
          case rel => exact ⟨i + 1, by omega, by go_num, Lib.hid (fun r hr => by
            rcases HTk.out r hr with rfl | h
            · exact hru
            · exact HT.out r h), trivial⟩
          case measure => simp [intOf]; omega
        · have hru2 : decide (ru ≤ now) = false := by rw [decide_eq_false_iff_not]; exact hru
          go_wp2
          go_meet
          exact ⟨i, hi, rfl, HT, Lib.hid (fun a ha => by rw [HGt.out a ha]; show now < ru; omega), rfl⟩
      · have hid' : ¬ (i : Int) < (n : Int) := by omega
        go_wp2
        go_meet
        exact ⟨i, hi, rfl, HT, Lib.hid (fun a ha => by rw [List.getElem?_eq_none (by rw [← HN.out]; omega)] at ha; cases ha), rfl⟩
  case rest =>
    obtain ⟨i, hi, rfl, HT, HG, rfl⟩ := hcut
    have HLate := Lib.hid (rest_late HAs.out HG.out)
    have HL : Hid (L = L.take i ++ L.drop i) := Lib.hid (List.take_append_drop _ _).symm
    have HLi : Hid ((L.take i).length = i ∧ (L.drop i).length = n - i) := Lib.hid ⟨by rw [List.length_take, ← HN.out]; omega, by rw [List.length_drop, HN.out]⟩
    have HPre : Hid (Rd wc A (L.take i)) := Lib.hid (by
      have h := HRd.out
      rw [HL.out] at h
      exact h.pre)
    have HEnd : Hid (∀ A2 c2 d V5 A5, (Below wc.heap.size wc V5) → V5.ownsRow wc.heap.size 41 4 (.slice A5 (n - i) d) (n - i) (cellsR ((L.drop i).take (n - i))) → (.slice A i c2 : Value) = .slice A2 i c2 → RKill y slots now L wc (.returned (.slice A2 i c2)) (V5.setCell ⟨y, 1, none⟩ (.slice A5 (n - i) d))) := Lib.hid (fun A2 c2 d V5 A5 hb hown hA => by
      injection hA with hA
      subst hA
      have hle := HLi.out
      have e1 := ry_end (L' := L.drop i) HYh.out hb hown hle.2.symm (by rw [List.take_of_length_le (l := L.drop i) (by omega)])
      refine ⟨L.take i, L.drop i, A, c2, HL.out, HT.out, HLate.out, by rw [hle.1], ?_, e1.1, e1.2⟩
      refine HPre.out.kept e1.2 (fun g hg e => ?_)
      rcases HO.out.2 with ⟨h1, _⟩ | ⟨g2, cap, cur, h1, _, hg2, _⟩
      · injection h1 with h1; rw [h1] at hg; cases hg
      · injection h1 with h1
        rw [h1] at hg
        injection hg with hg; injection hg with hg
        rw [hg, e, HYh.out] at hg2
        injection hg2 with hg2
        injection hg2 with _ hg2
        exact absurd hg2 (by decide))
    have hi0 : (0 : Int) ≤ (i : Int) := by omega
    have hsrc := HRd.out
    rcases (HO.out).2 with ⟨hA, hn0⟩ | ⟨g, cap, cur, hA, _, _, hnc, hcm, _⟩
    · injection hA with hA hA2 hA3
      subst hA
      subst hA3
      have hn00 : n = 0 := by rw [HN.out]; exact hn0
      subst hn00
      obtain rfl : i = 0 := by omega
      obtain rfl : L = [] := List.eq_nil_of_length_eq_zero hn0
      clear hn0
      go_wp2
      go_ret
      rw [← World.setCell_alloc_past _ _ _ _ hyl]
      exact HEnd.out none 0 0 (wc.alloc (.cells #[] 41)) _ (below_alloc _ _) (World.ownsRow_made wc #[] 0 (Nat.le_refl _) (Nat.zero_le _) rfl) rfl
    · injection hA with hA hA2 hA3
      subst hA
      subst hA3
      have hic : i ≤ c := by rw [← HN.out] at hnc; omega
      have hnc2 : n ≤ c := by rw [← HN.out] at hnc; omega
      clear hnc
      have HR0 := Lib.hid (World.ownsRow_made (e := 41) (size := 4) wc #[] 0 (Nat.le_refl _) (Nat.zero_le _) rfl)
      have HB0 := Lib.hid (below_alloc wc (.cells #[] 41))
      by_cases hci : c = i
      · have hin : i = n := by omega
        subst hci
        subst hin
        go_wp2
        go_ret
        rw [← World.setCell_alloc_past _ _ _ _ hyl]
        have hz : c - c = 0 := Nat.sub_self c
        have hE := HEnd.out (some ⟨g, 0, none⟩) c 0 (wc.alloc (.cells #[] 41)) (some ⟨wc.heap.size, 0, none⟩) HB0.out (by rw [hz, List.take_zero]; exact HR0.out) rfl
        rw [hz] at hE
        exact hE
      · have HSrc := Lib.hid (rd_src (AD := some ⟨g, i * 4, none⟩) (hsrc.later (below_alloc wc (.cells #[] 41))) (i := i) (m := n - i) (by rw [← HN.out]; omega) (fun _ => by simp))
        have hml : n - i ≤ 65536 := by omega
        go_wp2_with (at_builtin; refine wpList_append_k _ (by rfl) (.tmp 35) (.tmp 41) 38 (by rfl) 41 i0 zGo 4 40 Try.underlying38 hinfo hz0 hz1 hz2 rfl (by decide) wc.heap.size (.slice (some ⟨wc.heap.size, 0, none⟩) 0 0) 0 [] (by rfl) HR0.out (some ⟨g, i * 4, none⟩) (n - i) (c - i) (cellsR ((L.drop i).take (n - i))) (by rfl) (by rw [cellsR_len, List.length_take, HLi.out.2]; omega) HSrc.out (cellsR_one _) (by unfold maxLen; omega) (by omega) HB0.out.size ?_; intro A5 d5 V5 hown hgrow _; try simp only [Nat.zero_add, List.nil_append] at hown ⊢; have HO5 := Lib.hid hown; have HB5 := Lib.hid (HB0.out.grown hgrow HB0.out.size (fun j e => (HR0.out.lt j e).1)); have hy5 := (HB5.out.block _ hyl).trans HYh.out; have cy5 : V5.cell? ⟨y, 1, none⟩ = some (.slice (some ⟨g, 0, none⟩) L.length c) := cell_of_row _ _ 1 _ _ _ hy5; have fy5 : V5.frozen? ⟨y, 1, none⟩ = false := (cells_of_heap hy5).2 1; clear hown hgrow hy5)
        go_ret
        exact HEnd.out (some ⟨g, 0, none⟩) c d5 V5 A5 HB5.out HO5.out rfl
end Go.Proofs.Ytkdfkhebjhnbmaa
