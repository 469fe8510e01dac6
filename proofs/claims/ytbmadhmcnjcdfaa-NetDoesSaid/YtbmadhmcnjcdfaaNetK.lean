/- Package net: List, To. -/
import Derived.Test.YtbmadhmcnjcdfaaNetI
set_option linter.unusedSimpArgs false
set_option linter.unusedVariables false
namespace Go.Proofs.Ytbmadhmcnjcdfaa
open Go.ChangeShapes Go.WideShapes Go.ChangeAt Go.RowKit Go.Base Go.Net

section
variable {T : TypeId} {F G : Nat → Prop} {w w1 w' : World} {p : Nat} {s : St} {A : Option Addr} {c n : Nat} {vs : List PkV} {x : PkV}
/-- One cell of a row of the call's own is another one. -/
theorem own_set {b k g j : Nat} {e : TypeId} {xs : List Value} (h : w.ownsRow b e k (.slice (some ⟨g, 0, none⟩) n c) n xs) (hj : j < n * k) (v : Value) : (w.setCell ⟨g, j, none⟩ v).ownsRow b e k (.slice (some ⟨g, 0, none⟩) n c) n (xs.set j v) := by
  obtain ⟨hl, h2⟩ := h
  refine ⟨by rw [List.length_set]; exact hl, .inr ?_⟩
  rcases h2 with ⟨h0, _⟩ | ⟨g', cap, cur, h0, hb, hg, hn, hc, hs, hx⟩
  · cases h0
  · injection h0 with h0 _ h3
    injection h0 with h0; injection h0 with h0
    subst h0; subst h3
    exact ⟨g, c, _, rfl, hb, heap_set hg j v, hn, hc, by rw [Array.size_setIfInBounds]; exact hs, by rw [Array.toList_setIfInBounds, List.take_set, hx]⟩
theorem cellsP_set : ∀ (l : List PkV) (i : Nat) (h : i < l.length) (x : PkV), x.p = l[i].p → (cellsP l).set (i * 4 + 3) x.val = cellsP (l.set i x)
  | a :: l, 0, _, x, hx => by
    have hx : x.p = a.p := hx
    show (a.cells ++ cellsP l).set 3 x.val = x.cells ++ cellsP l
    rw [List.set_append_left _ _ (by simp [PkV.cells])]
    simp only [PkV.cells, hx]
    rfl
  | a :: l, i + 1, h, x, hx => by
    have := cellsP_set l i (by simpa using h) x hx
    show (a.cells ++ cellsP l).set ((i + 1) * 4 + 3) x.val = a.cells ++ cellsP (l.set i x)
    rw [List.set_append_right _ _ (by simp [PkV.cells]; omega), ← this]
    congr 2
    simp [PkV.cells]; omega
def PClonePost (n : Nat) (xs : List Value) (w : World) (e : Ending) (w' : World) : Prop := ∃ A' c', e = .returned (.slice A' n c') ∧ w'.ownsRow w.heap.size 37 4 (.slice A' n c') n xs ∧ Below w.heap.size w w'
set_option maxHeartbeats 1000000 in
theorem pclone_any {b0 : Nat} {xs : List Value} (ho : w.ownsRow b0 37 4 (.slice A n c) n xs) (hone : ∀ u ∈ xs, u.oneCell' = true) (hn : n ≤ 4096) : Calls Try.prog 37 #[.slice A n c] w (PClonePost n xs w) := by
  have qT : ∀ (w : World) (a : Option Addr) (n c n' c' : Nat), (binOp .eql 48 (.slice a n c) (.slice none n' c')).run Try.prog w = .ok (.bool a.isNone) w := fun w a n c n' c' => Lib.run_eql_slice_nil w _ _ a n c n' c' Try.underlying48
  obtain ⟨i0, hinfo, hz0, hz1, hz2⟩ := info_parts (P := Try.prog) (e := 37) (z := zPk) (size := 4) (bytes := 48) (by kernel_rfl)
  rcases A with _ | ad
  · have h0 : n = 0 ∧ xs = [] := by
      have hl := ho.1
      rcases ho.2 with ⟨_, h0⟩ | ⟨g, cap, cur, h, _⟩
      · subst h0; exact ⟨rfl, List.eq_nil_of_length_eq_zero (by simpa using hl)⟩
      · cases h
    obtain ⟨rfl, rfl⟩ := h0
    clear ho hone
    go_enter Try.func37, Try.ntmps37
    go_wp2
    go_ret
    exact ⟨none, 0, rfl, World.ownsRow_nil _ _ _ _, Below.refl _ _⟩
  · have HO := Lib.hid ho
    have hlen : xs.length = n * 4 := ho.1
    have HOne := Lib.hid hone
    have HLen := Lib.hid hlen
    have HNews : Hid (∀ o, 0 < n → ∃ ad', (some ad) = some ad' ∧ ∀ j u, xs[j]? = some u → (w.alloc o).cell? (ad'.add j) = some u) := Lib.hid (fun o h0 => by
      refine ⟨ad, rfl, fun j u hu => ?_⟩
      have hj : j < n * 4 := by
        have := (List.getElem?_eq_some_iff.1 hu).1
        omega
      obtain ⟨g, e, hc⟩ := own_cell ho rfl j hj
      injection e with e; subst e
      have e2 : (⟨g, 0, none⟩ : Addr).add j = ⟨g, j, none⟩ := by unfold Addr.add; split <;> simp_all
      rw [e2]; exact cell_old o (hc.trans hu))
    clear ho hlen hone
    go_enter Try.func37, Try.ntmps37
    go_wp2_with (at_builtin; refine wpList_append_k _ (by rfl) (.tmp 5) (.tmp 6) 48 (by rfl) 37 i0 zPk 4 48 Try.underlying48 hinfo hz0 hz1 hz2 rfl (by decide) w.heap.size (.slice (some ⟨w.heap.size, 0, none⟩) 0 0) 0 [] (by rfl) (World.ownsRow_made w #[] 0 (Nat.le_refl _) (Nat.zero_le _) rfl) (some ad) n c xs (by rfl) HLen.out (HNews.out _) HOne.out (by unfold maxLen; omega) (by omega) (by simp) ?_; intro A1 c1 w1 hown hgrow _; have HO1 := Lib.hid hown; have HG1 := Lib.hid ((below_alloc w (.cells #[] 37)).grown hgrow (by simp) (fun k e => Nat.le_of_eq (Option.some.inj e))); clear hown hgrow)
    rw [Nat.zero_add] at HO1
    have ho1 := HO1.out
    go_ret
    exact ⟨A1, c1, rfl, by simpa using ho1, HG1.out⟩
/-- A list of packets that the call made. -/
def ListPost (l : List Pk) (w : World) (e : Ending) (w' : World) : Prop :=
  ∃ (A : Option Addr) (c : Nat) (us : List PkV), e = .returned (.slice A us.length c) ∧ us.map (·.p) = l ∧ w'.ownsRow w.heap.size 37 4 (.slice A us.length c) us.length (cellsP us) ∧ (∀ u ∈ us, Byt w' u.A u.p.body) ∧ Below w.heap.size w w'
set_option maxHeartbeats 4000000 in
set_option maxRecDepth 20000 in
theorem list_any (h : NetX T w F p s A c vs) : Calls Try.prog 24 #[.pointer (some ⟨p, 0, none⟩)] w (ListPost s.l w) := by
  have HC := Lib.hid (closed_any h)
  have HCl := Lib.hid (pclone_any h.row (cellsP_one _) h.few)
  have HX := Lib.hid h
  obtain ⟨c0, c1, c2, c3⟩ := h.cells
  have hfew := h.few
  obtain ⟨n, hn⟩ : ∃ n, n = vs.length := ⟨_, rfl⟩
  have HN := Lib.hid hn
  rw [← hn] at c1 hfew HCl
  clear h hn
  go_enter Try.func24, Try.ntmps24
  go_wp2_with (first
    | (go_at_call 26; refine Calls.mono HC.out ?_; rintro e w1 ⟨rfl, rfl⟩)
    | (go_at_call 37; refine Calls.mono HCl.out ?_; rintro e w1 ⟨A1, d1, rfl, ho, hb⟩; have HO1 := Lib.hid ho; have HB1 := Lib.hid hb; clear ho hb c0 c1 c2 c3))
  go_loopw [14] (fun iv wr => ∃ (k : Nat) (us : List PkV), k ≤ n ∧ iv = .int .i64 (k : Int) ∧ Hid (us.length = n) ∧ Hid (us.map (·.p) = s.l) ∧ Hid (wr.ownsRow w.heap.size 37 4 (.slice A1 n d1) n (cellsP us)) ∧ Hid (∀ u ∈ us, Byt wr u.A u.p.body) ∧ Hid (Below w.heap.size w wr)) (fun iv _ => n - (intOf iv).toNat)
  case atStart => exact ⟨0, vs, Nat.zero_le _, rfl, Lib.hid HN.out.symm, Lib.hid HX.out.is, HO1, Lib.hid (fun u hu => ((HX.out.later HB1.out).bod u hu).byt), HB1⟩
  case round =>
    obtain ⟨k, us, hkn, rfl, HL, HI, HO, HY, HB⟩ := hrel
    by_cases hlt : k < n
    · have hlt' : (k : Int) < (n : Int) := by omega
      have hkz : (0 : Int) ≤ (k : Int) := by omega
      have hku : k < us.length := by rw [HL.out]; exact hlt
      obtain ⟨g, rfl, r0, r1, r2, r3⟩ := rowP_at (by rw [HL.out]; exact HO.out) hku
      have hfz : wr.frozen? ⟨g, k * 4 + 3, none⟩ = false := by
        rcases HO.out.2 with ⟨h0, _⟩ | ⟨g', cap, cur, h0, _, hg, _⟩
        · cases h0
        · injection h0 with h0 _ _; injection h0 with h0; injection h0 with h0; subst h0
          exact (cells_of_heap hg).2 _
      have hgB : w.heap.size ≤ g := (HO.out.lt g rfl).1
      have hgw : g < wr.heap.size := (HO.out.lt g rfl).2
      have HCb := Lib.hid (clone_any us[k].A us[k].p.body us[k].c wr (HY.out _ (List.getElem_mem _)) (by
        have h1 : us[k].p ∈ s.l := by rw [← HI.out]; exact List.mem_map_of_mem (List.getElem_mem _)
        have := HX.out.good.bod _ h1; omega))
      obtain ⟨z, hz⟩ : ∃ z, z = us[k] := ⟨_, rfl⟩
      have HZ : Hid (us[k]? = some z) := Lib.hid (by rw [hz]; exact List.getElem?_eq_getElem hku)
      rw [← hz] at r3 HCb
      simp only [PkV.val] at r3
      clear hz r0 r1 r2 hku
      go_wp2_with (go_at_call 38; refine Calls.mono HCb.out ?_; rintro e w2 ⟨A2, d2, rfl, hby, hb2, hl2, _, _, _⟩; have HB2 := Lib.hid hb2; have HY2 := Lib.hid hby; have r4 := cell_later hb2 r3; have f4 : w2.frozen? ⟨g, k * 4 + 3, none⟩ = false := (hb2.frozen (p := ⟨g, k * 4 + 3, none⟩) hgw).trans hfz; clear hby hb2 hl2)
      have HR : Hid (∃ us2 : List PkV, us2.length = n ∧ us2.map (·.p) = s.l ∧ (w2.setCell ⟨g, k * 4 + 3, none⟩ (.slice A2 z.p.body.length d2)).ownsRow w.heap.size 37 4 (.slice (some ⟨g, 0, none⟩) n d1) n (cellsP us2) ∧ ∀ u ∈ us2, Byt (w2.setCell ⟨g, k * 4 + 3, none⟩ (.slice A2 z.p.body.length d2)) u.A u.p.body) := Lib.hid (by
        have hku : k < us.length := by rw [HL.out]; exact hlt
        have hz : us[k] = z := by have := HZ.out; rw [List.getElem?_eq_getElem hku] at this; exact Option.some.inj this
        refine ⟨us.set k ⟨z.p, A2, d2⟩, by rw [List.length_set]; exact HL.out, ?_, ?_, fun u hu => ?_⟩
        · rw [List.map_set, ← HI.out]
          have : (us.map (·.p)).set k z.p = us.map (·.p) := by
            rw [← hz]
            have e : us[k].p = (us.map (·.p))[k]'(by simpa using hku) := by simp
            rw [e, List.set_getElem_self]
          exact this
        · rw [← cellsP_set us k hku ⟨z.p, A2, d2⟩ (by rw [hz])]
          exact own_set (own_moved (p := fun _ => False) HO.out (Below.movedNew HB2.out) (fun _ _ h => h)) (by omega) _
        · refine byt_setCell ?_ r4 (fun _ h => nomatch h)
          rcases List.mem_or_eq_of_mem_set hu with h1 | rfl
          · exact (HY.out u h1).later HB2.out
          · exact HY2.out)
      go_roundw
      case rel =>
        obtain ⟨us2, h1, h2, h3, h4⟩ := HR.out
        exact ⟨k + 1, us2, by omega, by go_num, Lib.hid h1, Lib.hid h2, Lib.hid h3, Lib.hid h4, Lib.hid ((HB.out.trans (HB2.out.mono HB.out.size)).setCell hgB _)⟩
      case measure => simp [intOf]; omega
    · have hlt' : ¬ (k : Int) < (n : Int) := by omega
      go_wp2
      go_ret
      exact ⟨A1, d1, us, by rw [HL.out]; rfl, HI.out, by rw [HL.out]; exact HO.out, HY.out, HB.out⟩
/-- The Ids of those to a place. -/
def toS (l : List Pk) (a : Int) : List Int := (l.filter (fun q => q.dst == a)).map (·.id)
theorem toS_snoc (l : List Pk) (a : Int) (q : Pk) : toS (l ++ [q]) a = if q.dst == a then toS l a ++ [q.id] else toS l a := by
  unfold toS
  rw [List.filter_append, List.map_append]
  by_cases h : q.dst == a
  · rw [if_pos h]; simp [h]
  · rw [if_neg h]; simp [h]
theorem toS_len (l : List Pk) (a : Int) : (toS l a).length ≤ l.length := by unfold toS; rw [List.length_map]; exact List.length_filter_le _ _
def ToPost (l : List Int) (w : World) (e : Ending) (w' : World) : Prop := ∃ (A : Option Addr) (c : Nat), e = .returned (.slice A l.length c) ∧ w'.ownsRow w.heap.size 3 1 (.slice A l.length c) l.length (l.map (.int .i64)) ∧ Below w.heap.size w w'
set_option maxHeartbeats 4000000 in
set_option maxRecDepth 20000 in
theorem to_any (h : NetX T w F p s A c vs) (a : Int) : Calls Try.prog 25 #[.pointer (some ⟨p, 0, none⟩), .int .i64 a] w (ToPost (toS s.l a) w) := by
  have HC := Lib.hid (closed_any h)
  have HX := Lib.hid h
  obtain ⟨c0, c1, c2, c3⟩ := h.cells
  have hfew := h.few
  obtain ⟨n, hn⟩ : ∃ n, n = vs.length := ⟨_, rfl⟩
  have HN := Lib.hid hn
  rw [← hn] at c1 hfew
  obtain ⟨i0, hinfo, hz0, hz1, hz2⟩ := info_parts (P := Try.prog) (e := 3) (z := .int .i64 0) (size := 1) (bytes := 8) (by kernel_rfl)
  clear h hn
  go_enter Try.func25, Try.ntmps25
  go_wp2_with (go_at_call 26; refine Calls.mono HC.out ?_; rintro e w1 ⟨rfl, rfl⟩)
  go_loopw [5, 15] (fun sv iv wr => ∃ (k m : Nat) (A1 : Option Addr) (d1 : Nat), k ≤ n ∧ iv = .int .i64 (k : Int) ∧ sv = .slice A1 m d1 ∧ Hid (m = (toS (s.l.take k) a).length) ∧ Hid (wr.ownsRow w.heap.size 3 1 (.slice A1 m d1) m ((toS (s.l.take k) a).map (.int .i64))) ∧ Hid (Below w.heap.size w wr)) (fun _ iv _ => n - (intOf iv).toNat)
  case atStart => exact ⟨0, 0, none, 0, Nat.zero_le _, rfl, rfl, Lib.hid rfl, Lib.hid (World.ownsRow_nil _ _ _ _), Lib.hid (Below.refl _ _)⟩
  case round =>
    obtain ⟨k, m, A1, d1, hkn, rfl, rfl, HM, HO, HB⟩ := hrel
    by_cases hlt : k < n
    · have hlt' : (k : Int) < (n : Int) := by omega
      have hkz : (0 : Int) ≤ (k : Int) := by omega
      have hku : k < vs.length := by rw [← HN.out]; exact hlt
      obtain ⟨g, rfl, r0, r1, r2, r3⟩ := rowP_at ((HX.out.later HB.out).row) hku
      have hgw : g < wr.heap.size := World.block_lt_of_cell? wr _ r0
      have hks : k < s.l.length := by rw [← HX.out.len]; exact hku
      have HTk : Hid (s.l.take (k + 1) = s.l.take k ++ [vs[k].p]) := Lib.hid (by
        rw [List.take_succ_eq_append_getElem hks]
        congr 2
        simp only [← HX.out.is, List.getElem_map])
      obtain ⟨z, hz⟩ : ∃ z, z = vs[k] := ⟨_, rfl⟩
      rw [← hz] at r0 r1 r2 r3 HTk
      simp only [PkV.val] at r3
      have hm : m ≤ 4096 := by have h1 := HM.out; have h2 := toS_len (s.l.take k) a; rw [List.length_take] at h2; omega
      clear hz hku hks
      by_cases hd : z.p.dst = a
      · have hd' : (z.p.dst == a) = true := by simpa using hd
        have HT2 : Hid (toS (s.l.take (k + 1)) a = toS (s.l.take k) a ++ [z.p.id]) := Lib.hid (by rw [HTk.out, toS_snoc, if_pos hd'])
        have HB2 := Lib.hid ((HB.out.alloc HB.out.size (.cells #[.int .i64 z.p.id, .int .i64 z.p.fr, .int .i64 z.p.dst, .slice z.A z.p.body.length z.c] 37)).alloc (by have := HB.out.size; simp; omega) (.cells #[.int .i64 z.p.id] 3))
        have HO2 := Lib.hid (own_moved (p := fun _ => False) HO.out (Below.movedNew ((below_alloc wr (.cells #[.int .i64 z.p.id, .int .i64 z.p.fr, .int .i64 z.p.dst, .slice z.A z.p.body.length z.c] 37)).alloc (by simp) (.cells #[.int .i64 z.p.id] 3))) (fun _ _ h => h))
        have HCe : Hid (∀ (j : Nat) (u : Value), [Value.int .i64 z.p.id][j]? = some u → ((wr.alloc (.cells #[.int .i64 z.p.id, .int .i64 z.p.fr, .int .i64 z.p.dst, .slice z.A z.p.body.length z.c] 37)).alloc (.cells #[.int .i64 z.p.id] 3)).cell? ((⟨wr.heap.size + 1, 0, none⟩ : Addr).add j) = some u) := Lib.hid (fun j u hu => by
          have h1 := heap_new (wr.alloc (.cells #[.int .i64 z.p.id, .int .i64 z.p.fr, .int .i64 z.p.dst, .slice z.A z.p.body.length z.c] 37)) (.cells #[.int .i64 z.p.id] 3)
          rw [World.size_alloc] at h1
          exact cells_of_block h1 j u hu)
        clear hd
        go_wp2_with (at_builtin; refine wpList_append_k _ (by rfl) (.tmp 23) (.tmp 26) 50 (by rfl) 3 i0 (.int .i64 0) 1 8 Try.underlying50 hinfo hz0 hz1 hz2 rfl (by decide) w.heap.size (.slice A1 m d1) m _ (by rfl) HO2.out (some ⟨wr.heap.size + 1, 0, none⟩) 1 1 [.int .i64 z.p.id] (by rfl) (by rfl) (fun _ => ⟨_, rfl, HCe.out⟩) (fun u hu => by simp at hu; subst hu; rfl) (by unfold maxLen; omega) (by omega) HB2.out.size ?_; intro A3 d3 w3 hown hgrow _; have HO3 := Lib.hid hown; have HB3 := Lib.hid (HB2.out.grown hgrow HB2.out.size (fun k e => (HO2.out.lt k e).1)); clear hown hgrow)
        refine ⟨⟨k + 1, m + 1, A3, d3, by omega, by go_num, rfl, Lib.hid ?_, Lib.hid ?_, HB3⟩, ?_⟩
        · rw [HT2.out, List.length_append, ← HM.out]; rfl
        · rw [HT2.out, List.map_append]; exact HO3.out
        · simp [intOf]; omega
      · have hd' : (z.p.dst == a) = false := by simpa using hd
        have HT2 : Hid (toS (s.l.take (k + 1)) a = toS (s.l.take k) a) := Lib.hid (by rw [HTk.out, toS_snoc, if_neg (by simp [hd'])])
        clear hd
        go_wp2
        go_roundw
        case rel => exact ⟨k + 1, m, A1, d1, by omega, by go_num, rfl, Lib.hid (by rw [HT2.out]; exact HM.out), Lib.hid (by rw [HT2.out]; exact own_moved (p := fun _ => False) HO.out (Below.movedNew (below_alloc _ _)) (fun _ _ h => h)), Lib.hid (HB.out.alloc HB.out.size _)⟩
        case measure => simp [intOf]; omega
    · have hlt' : ¬ (k : Int) < (n : Int) := by omega
      have hall : s.l.take k = s.l := List.take_of_length_le (by have := HX.out.len; have := HN.out; omega)
      rw [hall] at HM HO
      go_wp2
      go_ret
      exact ⟨A1, d1, by rw [HM.out]; rfl, by rw [HM.out] at HO; exact HO.out, HB.out⟩
end
end Go.Proofs.Ytbmadhmcnjcdfaa
