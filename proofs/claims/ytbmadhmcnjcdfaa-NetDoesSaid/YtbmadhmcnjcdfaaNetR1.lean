/- The reference's net: New, Send, Again, To. -/
import Derived.Test.YtbmadhmcnjcdfaaNetQ
set_option linter.unusedSimpArgs false
set_option linter.unusedVariables false
namespace Go.Proofs.Ytbmadhmcnjcdfaa
open Go.ChangeShapes Go.WideShapes Go.ChangeAt Go.RowKit Go.Base Go.Net

section
variable {T : TypeId} {F G : Nat → Prop} {w w1 w' : World} {p : Nat} {s : St} {A : Option Addr} {c n : Nat} {vs : List PkV} {x : PkV}
def RNewPost (n : Int) (w : World) (e : Ending) (w' : World) : Prop :=
  if 1 ≤ n ∧ n ≤ 65537 then ∃ p : Nat, e = .returned (.tuple #[.pointer (some ⟨p, 0, none⟩), .int .i64 0]) ∧ NT 57 (fun k => w.heap.size ≤ k) w' p ⟨n, 0, 0, []⟩ ∧ Below w.heap.size w w'
  else e = .returned (.tuple #[.pointer none, .int .i64 1]) ∧ w = w'
theorem rnew_any (n : Int) (w : World) : Calls Try.prog 8 #[.int .i64 n] w (RNewPost n w) := by
  by_cases h : 1 ≤ n ∧ n ≤ 65537
  · obtain ⟨h0, h1⟩ := h
    have h0' : ¬ n < 1 := by omega
    have h1' : ¬ 65537 < n := by omega
    go_enter Try.func8, Try.ntmps8
    go_wp2
    go_ret2
    unfold RNewPost
    rw [if_pos ⟨h0, h1⟩]
    exact ⟨_, rfl, nt_new h0 h1 (by decide) (heap_new w _) (Nat.le_refl _), below_alloc _ _⟩
  · by_cases h0 : 1 ≤ n
    · have h1 : 65537 < n := by omega
      have h0' : ¬ n < 1 := by omega
      go_enter Try.func8, Try.ntmps8
      go_wp2
      go_ret2
      unfold RNewPost
      rw [if_neg h]
      exact ⟨rfl, rfl⟩
    · have h0' : n < 1 := by omega
      go_enter Try.func8, Try.ntmps8
      go_wp2
      go_ret2
      unfold RNewPost
      rw [if_neg h]
      exact ⟨rfl, rfl⟩
theorem ris_yes (h : NetX T w F p s A c vs) {a : Int} (ha : isP s a) : Calls Try.prog 29 #[.pointer (some ⟨p, 0, none⟩), .int .i64 a] w fun e w' => e = .returned (.bool true) ∧ w = w' :=
  (ris_any h a).mono fun e w' h => by rw [decide_eq_true ha] at h; exact h
theorem ris_no (h : NetX T w F p s A c vs) {a : Int} (ha : ¬ isP s a) : Calls Try.prog 29 #[.pointer (some ⟨p, 0, none⟩), .int .i64 a] w fun e w' => e = .returned (.bool false) ∧ w = w' :=
  (ris_any h a).mono fun e w' h => by rw [decide_eq_false ha] at h; exact h
set_option maxHeartbeats 2000000 in
theorem rsend_any (h : NetX T w F p s A c vs) (fr dst : Int) (A0 : Option Addr) (b : List UInt8) (c0 : Nat) (hy : Byt w A0 b) (hm : b.length ≤ 9223372036854775807) (hk1 : s.last + 1 ≤ 9223372036854775807) (hk2 : s.lost + 1 ≤ 9223372036854775807) :
    Calls Try.prog 11 #[.pointer (some ⟨p, 0, none⟩), .int .i64 fr, .int .i64 dst, .slice A0 b.length c0] w
      (OpN T F p (sendS s fr dst b).2 (.tuple #[.int .i64 (sendS s fr dst b).1.1, .int .i64 (sendS s fr dst b).1.2]) w) := by
  have HX := Lib.hid h
  by_cases hP1 : isP s fr
  · have HI1 := Lib.hid (ris_yes h hP1)
    by_cases hP2 : isP s dst
    · have HI2 := Lib.hid (ris_yes h hP2)
      by_cases hL : 32832 < b.length
      · have hL' : (32832 : Int) < (b.length : Int) := by omega
        have HE : Hid (sendS s fr dst b = ((0, 3), s)) := Lib.hid (by unfold sendS; rw [if_neg (fun h => h ⟨hP1, hP2⟩), if_pos hL])
        clear h hP1 hP2 hk1 hk2 hy
        go_enter Try.func11, Try.ntmps11
        go_wp2_with (first
          | (go_at_call 29; refine Calls.mono (by with_reducible exact HI1.out) ?_; rintro e w1 ⟨rfl, rfl⟩)
          | (go_at_call 29; refine Calls.mono (by with_reducible exact HI2.out) ?_; rintro e w1 ⟨rfl, rfl⟩))
        go_ret2
        rw [HE.out]
        exact ⟨rfl, HX.out.same, Moved.refl _ _⟩
      · have hL' : ¬ (32832 : Int) < (b.length : Int) := by omega
        have HAd := Lib.hid (radd_any h 0 fr dst A0 b c0 hy (by omega) hk1 hk2)
        have HE : Hid (sendS s fr dst b = addS s fr dst b) := Lib.hid (by unfold sendS; rw [if_neg (fun h => h ⟨hP1, hP2⟩), if_neg hL])
        clear h hP1 hP2 hk1 hk2 hy
        go_enter Try.func11, Try.ntmps11
        go_wp2_with (first
          | (go_at_call 29; refine Calls.mono (by with_reducible exact HI1.out) ?_; rintro e w1 ⟨rfl, rfl⟩)
          | (go_at_call 29; refine Calls.mono (by with_reducible exact HI2.out) ?_; rintro e w1 ⟨rfl, rfl⟩)
          | (go_at_call 30; refine Calls.mono HAd.out ?_; rintro e w1 ⟨rfl, ho1, hm1⟩; have HO := Lib.hid ho1; have HM := Lib.hid hm1; clear ho1 hm1))
        go_ret2
        rw [HE.out]
        exact ⟨rfl, HO.out, HM.out⟩
    · have HI2 := Lib.hid (ris_no h hP2)
      have HE : Hid (sendS s fr dst b = ((0, 1), s)) := Lib.hid (by unfold sendS; rw [if_pos (fun h => hP2 h.2)])
      clear h hP1 hP2 hk1 hk2 hy
      go_enter Try.func11, Try.ntmps11
      go_wp2_with (first
        | (go_at_call 29; refine Calls.mono (by with_reducible exact HI1.out) ?_; rintro e w1 ⟨rfl, rfl⟩)
        | (go_at_call 29; refine Calls.mono (by with_reducible exact HI2.out) ?_; rintro e w1 ⟨rfl, rfl⟩))
      go_ret2
      rw [HE.out]
      exact ⟨rfl, HX.out.same, Moved.refl _ _⟩
  · have HI1 := Lib.hid (ris_no h hP1)
    have HE : Hid (sendS s fr dst b = ((0, 1), s)) := Lib.hid (by unfold sendS; rw [if_pos (fun h => hP1 h.1)])
    clear h hP1 hk1 hk2 hy
    go_enter Try.func11, Try.ntmps11
    go_wp2_with (go_at_call 29; refine Calls.mono (by with_reducible exact HI1.out) ?_; rintro e w1 ⟨rfl, rfl⟩)
    go_ret2
    rw [HE.out]
    exact ⟨rfl, HX.out.same, Moved.refl _ _⟩
set_option maxHeartbeats 2000000 in
theorem ragain_any (h : NetX T w F p s A c vs) (i : Int) (hk1 : s.last + 1 ≤ 9223372036854775807) (hk2 : s.lost + 1 ≤ 9223372036854775807) :
    Calls Try.prog 18 #[.pointer (some ⟨p, 0, none⟩), .int .i64 i] w
      (OpN T F p (againS s i).2 (.tuple #[.int .i64 (againS s i).1.1, .int .i64 (againS s i).1.2]) w) := by
  have HFd := Lib.hid (rfind_any h i)
  have HX := Lib.hid h
  have hlen := h.len
  have hfew := h.few
  obtain ⟨c0, c1, c2, c3⟩ := h.cells
  by_cases hI : idx s.l i < s.l.length
  · obtain ⟨k, hk⟩ : ∃ k, k = idx s.l i := ⟨_, rfl⟩
    have HR : Hid (RFind s i = (k : Int)) := Lib.hid (by unfold RFind; rw [if_pos hI, hk])
    rw [← hk] at hI
    have hkv : k < vs.length := by omega
    have he : vs[k].p = s.l[k] := by simp only [← h.is, List.getElem_map]
    have HE : Hid (againS s i = addS s vs[k].p.fr vs[k].p.dst vs[k].p.body) := Lib.hid (by
      unfold againS; subst hk; rw [dif_pos hI, he])
    have HAd := Lib.hid (radd_any h vs[k].p.id vs[k].p.fr vs[k].p.dst vs[k].A vs[k].p.body vs[k].c (h.bod vs[k] (List.getElem_mem _)).byt (by have := (h.good.bod s.l[k] (List.getElem_mem _)); rw [he]; exact this) hk1 hk2)
    obtain ⟨g, rfl, r0, r1, r2, r3⟩ := rowP_at h.row hkv
    have hkn : (k : Int) < (vs.length : Int) := by omega
    have hk0 : (0 : Int) ≤ (k : Int) := by omega
    rw [HR.out] at HFd
    obtain ⟨z, hz⟩ : ∃ z, z = vs[k] := ⟨_, rfl⟩
    rw [← hz] at HE HAd r0 r1 r2 r3
    simp only [PkV.val] at r3
    clear h hk he hz hI hlen hk1 hk2
    obtain ⟨n, hn⟩ : ∃ n, n = vs.length := ⟨_, rfl⟩
    rw [← hn] at hkn hfew c1
    clear hn hkv
    go_enter Try.func18, Try.ntmps18
    go_wp2_with (first
      | (go_at_call 33; refine Calls.mono HFd.out ?_; rintro e w1 ⟨rfl, rfl⟩)
      | (go_at_call 30; refine Calls.mono HAd.out ?_; rintro e w2 ⟨rfl, ho1, hm1⟩; have HO := Lib.hid ho1; have HM := Lib.hid hm1; clear ho1 hm1))
    go_ret2
    rw [HE.out]
    exact ⟨rfl, HO.out, HM.out⟩
  · have HE : Hid (againS s i = ((0, 4), s)) := Lib.hid (by unfold againS; rw [dif_neg hI])
    have HR : Hid (RFind s i = -1) := Lib.hid (by unfold RFind; rw [if_neg hI])
    rw [HR.out] at HFd
    clear h hI hlen hk1 hk2
    go_enter Try.func18, Try.ntmps18
    go_wp2_with (go_at_call 33; refine Calls.mono HFd.out ?_; rintro e w1 ⟨rfl, rfl⟩)
    go_ret2
    rw [HE.out]
    exact ⟨rfl, HX.out.same, Moved.refl _ _⟩
set_option maxHeartbeats 4000000 in
set_option maxRecDepth 20000 in
theorem rto_any (h : NetX T w F p s A c vs) (a : Int) : Calls Try.prog 36 #[.pointer (some ⟨p, 0, none⟩), .int .i64 a] w (ToPost (toS s.l a) w) := by
  have HX := Lib.hid h
  obtain ⟨c0, c1, c2, c3⟩ := h.cells
  have hfew := h.few
  obtain ⟨n, hn⟩ : ∃ n, n = vs.length := ⟨_, rfl⟩
  have HN := Lib.hid hn
  rw [← hn] at c1 hfew
  obtain ⟨i0, hinfo, hz0, hz1, hz2⟩ := info_parts (P := Try.prog) (e := 3) (z := .int .i64 0) (size := 1) (bytes := 8) (by kernel_rfl)
  have HC1 := Lib.hid c1
  clear h hn c0 c1 c2 c3
  go_enter Try.func36, Try.ntmps36
  go_wp2
  go_loopw [5, 6] (fun sv iv wr => ∃ (k m : Nat) (A1 : Option Addr) (d1 : Nat), k ≤ n ∧ iv = .int .i64 (k : Int) ∧ sv = .slice A1 m d1 ∧ Hid (m = (toS (s.l.take k) a).length) ∧ Hid (wr.ownsRow w.heap.size 3 1 (.slice A1 m d1) m ((toS (s.l.take k) a).map (.int .i64))) ∧ Hid (Below w.heap.size w wr)) (fun _ iv _ => n - (intOf iv).toNat)
  case atStart => exact ⟨0, 0, none, 0, Nat.zero_le _, rfl, rfl, Lib.hid rfl, Lib.hid (World.ownsRow_nil _ _ _ _), Lib.hid (Below.refl _ _)⟩
  case round =>
    obtain ⟨k, m, A1, d1, hkn, rfl, rfl, HM, HO, HB⟩ := hrel
    have c1 := cell_later HB.out HC1.out
    by_cases hlt : k < n
    · have hlt' : (k : Int) < (n : Int) := by omega
      have hkz : (0 : Int) ≤ (k : Int) := by omega
      have hku : k < vs.length := by rw [← HN.out]; exact hlt
      obtain ⟨g, rfl, r0, r1, r2, r3⟩ := rowP_at ((HX.out.later HB.out).row) hku
      have hgw : g < wr.heap.size := World.block_lt_of_cell? wr _ r0
      have hks : k < s.l.length := by rw [← HX.out.len]; exact hku
      have HTk : Hid (s.l.take (k + 1) = s.l.take k ++ [vs[k].p]) := Lib.hid (by
        rw [List.take_succ_eq_append_getElem hks]
        congr 2
        simp only [← HX.out.is, List.getElem_map])
      obtain ⟨z, hz⟩ : ∃ z, z = vs[k] := ⟨_, rfl⟩
      rw [← hz] at r0 r1 r2 r3 HTk
      simp only [PkV.val] at r3
      have hm : m ≤ 4096 := by have h1 := HM.out; have h2 := toS_len (s.l.take k) a; rw [List.length_take] at h2; omega
      clear hz hku hks
      by_cases hd : z.p.dst = a
      · have hd' : (z.p.dst == a) = true := by simpa using hd
        have HT2 : Hid (toS (s.l.take (k + 1)) a = toS (s.l.take k) a ++ [z.p.id]) := Lib.hid (by rw [HTk.out, toS_snoc, if_pos hd'])
        have HB2 := Lib.hid (HB.out.alloc HB.out.size (.cells #[.int .i64 z.p.id] 3))
        have HO2 := Lib.hid (own_moved (p := fun _ => False) HO.out (Below.movedNew (below_alloc wr (.cells #[.int .i64 z.p.id] 3))) (fun _ _ h => h))
        have HCe : Hid (∀ (j : Nat) (u : Value), [Value.int .i64 z.p.id][j]? = some u → (wr.alloc (.cells #[.int .i64 z.p.id] 3)).cell? ((⟨wr.heap.size, 0, none⟩ : Addr).add j) = some u) := Lib.hid (fun j u hu => cells_of_block (heap_new wr (.cells #[.int .i64 z.p.id] 3)) j u hu)
        clear hd
        go_wp2_with (at_builtin; refine wpList_append_k _ (by rfl) (.tmp 26) (.tmp 35) 50 (by rfl) 3 i0 (.int .i64 0) 1 8 Try.underlying50 hinfo hz0 hz1 hz2 rfl (by decide) w.heap.size (.slice A1 m d1) m _ (by rfl) HO2.out (some ⟨wr.heap.size, 0, none⟩) 1 1 [.int .i64 z.p.id] (by rfl) (by rfl) (fun _ => ⟨_, rfl, HCe.out⟩) (fun u hu => by simp at hu; subst hu; rfl) (by unfold maxLen; omega) (by omega) HB2.out.size ?_; intro A3 d3 w3 hown hgrow _; have HO3 := Lib.hid hown; have HB3 := Lib.hid (HB2.out.grown hgrow HB2.out.size (fun k e => (HO2.out.lt k e).1)); clear hown hgrow)
        refine ⟨⟨k + 1, m + 1, A3, d3, by omega, by first | rfl | go_num, by first | rfl | go_num, Lib.hid ?_, Lib.hid ?_, HB3⟩, ?_⟩
        · rw [HT2.out, List.length_append, ← HM.out]; rfl
        · rw [HT2.out, List.map_append]; exact HO3.out
        · simp [intOf]; omega
      · have hd' : (z.p.dst == a) = false := by simpa using hd
        have HT2 : Hid (toS (s.l.take (k + 1)) a = toS (s.l.take k) a) := Lib.hid (by rw [HTk.out, toS_snoc, if_neg (by simp [hd'])])
        clear hd
        go_wp2
        go_roundw
        case rel => exact ⟨k + 1, m, A1, d1, by omega, by go_num, rfl, Lib.hid (by rw [HT2.out]; exact HM.out), Lib.hid (by rw [HT2.out]; exact HO.out), HB⟩
        case measure => simp [intOf]; omega
    · have hlt' : ¬ (k : Int) < (n : Int) := by omega
      have hall : s.l.take k = s.l := List.take_of_length_le (by have := HX.out.len; have := HN.out; omega)
      rw [hall] at HM HO
      go_wp2
      go_ret
      exact ⟨A1, d1, by rw [HM.out]; rfl, by rw [HM.out] at HO; exact HO.out, HB.out⟩
end
end Go.Proofs.Ytbmadhmcnjcdfaa
