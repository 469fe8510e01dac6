/- The reference's queue: Drop. -/
import Derived.Test.YtllkallodgbpmaaQrC
import Derived.Test.YtllkallodgbpmaaHeldZ
set_option linter.unusedSimpArgs false
set_option linter.unusedVariables false
namespace Go.Que
def dropP (l : List (Int × Int)) (id : Int) : List (Int × Int) := l.eraseP (fun t => t.2 == id)
theorem dropP_at {l : List (Int × Int)} {id : Int} {k : Nat} (hk : k < l.length) (h : ∀ j (hj : j < l.length), j < k → l[j].2 ≠ id) (he : l[k].2 = id) : dropP l id = l.take k ++ l.drop (k + 1) := by
  unfold dropP
  have h1 : l = l.take k ++ l[k] :: l.drop (k + 1) := by rw [← List.drop_eq_getElem_cons hk, List.take_append_drop]
  have h2 : ∀ t ∈ l.take k, ¬ (t.2 == id) = true := fun t ht => by
    obtain ⟨j, hj, rfl⟩ := List.getElem_of_mem ht
    rw [List.getElem_take]
    rw [List.length_take] at hj
    simpa using h j (by omega) (by omega)
  conv => lhs; rw [h1]
  rw [List.eraseP_append_right _ h2, List.eraseP_cons_of_pos (by simpa using he)]
theorem dropP_none {l : List (Int × Int)} {id : Int} (h : ∀ t ∈ l, t.2 ≠ id) : dropP l id = l := List.eraseP_of_forall_not (fun t ht => by simpa using h t ht)
theorem dropP_len (l : List (Int × Int)) (id : Int) : (dropP l id).length ≤ l.length := List.length_eraseP_le
end Go.Que
namespace Go.Proofs.Ytllkallodgbpmaa
open Go.ChangeShapes Go.WideShapes Go.ChangeAt Go.RowKit Go.Base Go.Que

section
variable {w w' : World} {F G : Nat → Prop} {x : Nat} {l : List (Int × Int)}
theorem own_zero {b n c : Nat} {A : Option Addr} {xs : List Value} {V : World} (h : V.ownsRow b 36 2 (.slice A n c) n xs) : V.ownsRow 0 36 2 (.slice A n c) n xs := by
  refine ⟨h.1, ?_⟩
  rcases h.2 with h0 | ⟨g', cap, cur, h1, h2, h3⟩
  · exact .inl h0
  · exact .inr ⟨g', cap, cur, h1, Nat.zero_le _, h3⟩
/-- The end of a change: the row that was made is put in the queue's cell. -/
theorem ref_end {w5 : World} {A5 : Option Addr} {c5 : Nat} {l l' : List (Int × Int)} {A : Option Addr} {c : Nat} (hx : w.heap[x]? = some (.cells #[.slice A l.length c] 28 (0, 0))) (hF : F x) (hB : Below w.heap.size w w5)
    (ho : w5.ownsRow w.heap.size 36 2 (.slice A5 l'.length c5) l'.length (cellsT l')) (hl : l'.length ≤ 65536) : RefQ (w5.setCell ⟨x, 0, none⟩ (.slice A5 l'.length c5)) (fun k => F k ∨ w.heap.size ≤ k) x l' ∧ Moved F w (w5.setCell ⟨x, 0, none⟩ (.slice A5 l'.length c5)) :=
  ⟨ref_put ((hB.block _ (heap_lt hx)).trans hx) rfl (own_zero ho) (.inl hF) (fun k hk => .inr (ho.lt k hk).1) hl, (Below.movedNew hB).setCell (.inr hF) _⟩
set_option maxHeartbeats 4000000 in
set_option maxRecDepth 20000 in
theorem rdrop_any (h : RefQ w F x l) (id : Int) : Calls Try.prog 12 #[.pointer (some ⟨x, 0, none⟩), .int .i64 id] w (RPop F x (dropP l id) (.bool (whenB l id)) w) := by
  have H := Lib.hid h
  obtain ⟨A, c, h1, h2, h3, h4, h5⟩ := h
  have c0 : w.cell? ⟨x, 0, none⟩ = some (.slice A l.length c) := cell_of_row _ _ 0 _ _ _ h1
  have hx : x < w.heap.size := heap_lt h1
  have hfz : w.frozen? ⟨x, 0, none⟩ = false := (cells_of_heap h1).2 0
  have H1 := Lib.hid h1
  have H2 := Lib.hid h2
  have H3 := Lib.hid h3
  have hcn : l.length ≤ c := by
    obtain ⟨A', cap, hv, hc, _⟩ := own_form h2
    injection hv with _ _ hv
    omega
  obtain ⟨n, hn⟩ : ∃ n, n = l.length := ⟨_, rfl⟩
  have HN := Lib.hid hn
  rw [← hn] at c0 h5 hcn
  obtain ⟨i0, hinfo, hz0, hz1, hz2⟩ := info_parts (P := Try.prog) (e := 36) (z := .agg #[.int .i64 0, .int .i64 0]) (size := 2) (bytes := 16) (by kernel_rfl)
  clear h1 h2 h3 h4 hn
  go_enter Try.func12, Try.ntmps12
  go_wp2
  go_loop [5] (fun iv => ∃ k : Nat, k ≤ n ∧ iv = .int .i64 (k : Int) ∧ Hid (∀ j (hj : j < l.length), j < k → l[j].2 ≠ id)) (fun iv => n - (intOf iv).toNat)
  case atStart => exact ⟨0, Nat.zero_le _, rfl, Lib.hid (fun j hj h => by omega)⟩
  case round =>
    obtain ⟨k, hk, rfl, HK⟩ := hrel
    by_cases hlt : k < n
    · have hlt' : (k : Int) < (n : Int) := by omega
      have hkl : k < l.length := by rw [← HN.out]; exact hlt
      obtain ⟨g, rfl, e0, e1⟩ := ref_at H2.out hkl
      by_cases he : l[k].2 = id
      · have HW := Lib.hid (find_at hkl (fun j hj => HK.out j (by omega) hj) he)
        have HD := Lib.hid (dropP_at hkl HK.out he)
        rw [he] at e1
        have HS1 : Hid (∀ V, Below w.heap.size w V → 0 < k → ∃ ad, (some ⟨g, 0, none⟩ : Option Addr) = some ad ∧ ∀ j u, (cellsT (l.take k))[j]? = some u → V.cell? (ad.add j) = some u) := Lib.hid (fun V hV h0 => by
          obtain ⟨g', eg, hs⟩ := ref_src (lo := 0) (hi := k) (own_moved (p := fun _ => False) H2.out (Below.movedNew hV) (fun _ _ h => h)) (by omega) (by omega) (by omega)
          injection eg with eg; injection eg with eg; subst eg
          exact ⟨_, rfl, by simpa using hs⟩)
        have HS2 : Hid (∀ V, Below w.heap.size w V → 0 < n - (k + 1) → ∃ ad, (some ⟨g, (k + 1) * 2, none⟩ : Option Addr) = some ad ∧ ∀ j u, (cellsT (l.drop (k + 1)))[j]? = some u → V.cell? (ad.add j) = some u) := Lib.hid (fun V hV h0 => by
          obtain ⟨g', eg, hs⟩ := ref_src (lo := k + 1) (hi := l.length) (own_moved (p := fun _ => False) H2.out (Below.movedNew hV) (fun _ _ h => h)) (by omega) (by omega) (by have := HN.out; omega)
          injection eg with eg; injection eg with eg; subst eg
          exact ⟨_, rfl, by simpa using hs⟩)
        have HL1 : Hid ((cellsT (l.take k)).length = k * 2) := Lib.hid (by rw [cellsT_len, List.length_take, Nat.min_eq_left (by omega)])
        have HL2 : Hid ((cellsT (l.drop (k + 1))).length = (n - (k + 1)) * 2) := Lib.hid (by rw [cellsT_len, List.length_drop, ← HN.out])
        have hkz : (0 : Int) ≤ (k : Int) := by omega
        have hkc : k ≤ c := by omega
        have hkc2 : (k : Int) ≤ (c : Int) := by omega
        have hkn1 : k + 1 ≤ n := by omega
        have hkn2 : (k : Int) + 1 ≤ (n : Int) := by omega
        have hkb : (k : Int) ≤ 65536 := by omega
        have HO1 : Hid ((w.alloc (.cells #[] 36)).drew.ownsRow w.heap.size 36 2 (.slice (some ⟨w.heap.size, 0, none⟩) 0 0) 0 []) := Lib.hid (World.ownsRow_made w #[] 0 (Nat.le_refl _) (Nat.zero_le _) rfl)
        have HB1 : Hid (Below w.heap.size w (w.alloc (.cells #[] 36)).drew) := Lib.hid (below_alloc _ _).drew
        have HSt : Hid (∀ V, Below w.heap.size w V → V.cell? ⟨x, 0, none⟩ = some (.slice (some ⟨g, 0, none⟩) n c) ∧ V.frozen? ⟨x, 0, none⟩ = false) := Lib.hid (fun V hV => ⟨cell_later hV c0, by rw [hV.frozen (p := ⟨x, 0, none⟩) hx]; exact hfz⟩)
        clear he
        go_wp2_with fail
        by_cases hc1 : c = k + 1
        · obtain rfl : n = k + 1 := by omega
          subst hc1
          have hka : (k : Int) ≤ (k : Int) + 1 := by omega
          have hkw : IntKind.i64.wrap ((k : Int) + 1) = (k : Int) + 1 := by rw [IntKind.wrap_i64]; omega
          have hkp : (0 : Int) ≤ (k : Int) + 1 := by omega
          have hkt : ((k : Int) + 1).toNat = k + 1 := by omega
          refine wp_region_heldz_drew (S := (fun w' => Below w.heap.size w w')) 19 (by kernel_rfl) (Below.refl _ _).drew (fun hHeld => ?_)
          refine wpAnyZ_take (i := 0) (v := ?vv1) rfl (by kernel_rfl) (by kernel_rfl) (by kernel_rfl) (fun _ _ _ h => h) (Or.inl ⟨by rfl, ?hy1⟩) hHeld ?rr1
          case hy1 => (intro w' hSw; obtain ⟨g0, g1⟩ := HSt.out _ hSw; go_simp; try with_reducible rfl)
          try simp only [Act.put, List.setIfInBounds_toArray, List.set_cons_zero, List.set_cons_succ, List.getElem_toArray, List.getElem_cons_succ, List.getElem_cons_zero]
          refine wpAnyZ_take (i := 2) (v := ?vv2) rfl (by kernel_rfl) (by kernel_rfl) (by kernel_rfl) (fun _ _ _ h => h) (Or.inl ⟨by rfl, ?hy2⟩) hHeld ?rr2
          case hy2 => (intro w' hSw; obtain ⟨g0, g1⟩ := HSt.out _ hSw; go_simp; try with_reducible rfl)
          try simp only [Act.put, List.setIfInBounds_toArray, List.set_cons_zero, List.set_cons_succ, List.getElem_toArray, List.getElem_cons_succ, List.getElem_cons_zero]
          refine wpAnyZ_take (i := 3) (v := ?vv3) rfl (by kernel_rfl) (by kernel_rfl) (by kernel_rfl) (fun _ _ _ h => h) (Or.inl ⟨by rfl, ?hy3⟩) hHeld ?rr3
          case hy3 => (intro w' hSw; obtain ⟨g0, g1⟩ := HSt.out _ hSw; go_simp; try with_reducible rfl)
          try simp only [Act.put, List.setIfInBounds_toArray, List.set_cons_zero, List.set_cons_succ, List.getElem_toArray, List.getElem_cons_succ, List.getElem_cons_zero]
          refine wpAnyZ_take (i := 4) (v := ?vv4) rfl (by kernel_rfl) (by kernel_rfl) (by kernel_rfl) (fun _ _ _ h => h) (Or.inl ⟨by rfl, ?hy4⟩) hHeld ?rr4
          case hy4 => (intro w' hSw; obtain ⟨g0, g1⟩ := HSt.out _ hSw; go_simp; try with_reducible rfl)
          try simp only [Act.put, List.setIfInBounds_toArray, List.set_cons_zero, List.set_cons_succ, List.getElem_toArray, List.getElem_cons_succ, List.getElem_cons_zero]
          refine wpAnyZ_take (i := 5) (v := ?vv5) rfl (by kernel_rfl) (by kernel_rfl) (by kernel_rfl) (fun _ _ _ h => h) (Or.inl ⟨by rfl, ?hy5⟩) hHeld ?rr5
          case hy5 => (intro w' hSw; obtain ⟨g0, g1⟩ := HSt.out _ hSw; go_simp; try with_reducible rfl)
          try simp only [Act.put, List.setIfInBounds_toArray, List.set_cons_zero, List.set_cons_succ, List.getElem_toArray, List.getElem_cons_succ, List.getElem_cons_zero]
          refine wpAnyZ_take (i := 6) (v := ?vv6) rfl (by kernel_rfl) (by kernel_rfl) (by kernel_rfl) (fun _ _ _ h => h) (Or.inl ⟨by rfl, ?hy6⟩) hHeld ?rr6
          case hy6 => (intro w' hSw; obtain ⟨g0, g1⟩ := HSt.out _ hSw; go_simp; try with_reducible rfl)
          try simp only [Act.put, List.setIfInBounds_toArray, List.set_cons_zero, List.set_cons_succ, List.getElem_toArray, List.getElem_cons_succ, List.getElem_cons_zero]
          refine wpAnyZ_take (i := 7) (v := ?vv7) rfl (by kernel_rfl) (by kernel_rfl) (by kernel_rfl) (fun _ _ _ h => h) (Or.inl ⟨by rfl, ?hy7⟩) hHeld ?rr7
          case hy7 => (intro w' hSw; obtain ⟨g0, g1⟩ := HSt.out _ hSw; go_simp; try with_reducible rfl)
          try simp only [Act.put, List.setIfInBounds_toArray, List.set_cons_zero, List.set_cons_succ, List.getElem_toArray, List.getElem_cons_succ, List.getElem_cons_zero]
          refine wpAnyZ_take (i := 9) (v := ?vv8) rfl (by kernel_rfl) (by kernel_rfl) (by kernel_rfl) (fun _ _ _ h => h) (Or.inl ⟨by rfl, ?hy8⟩) hHeld ?rr8
          case hy8 => (intro w' hSw; obtain ⟨g0, g1⟩ := HSt.out _ hSw; go_simp; try with_reducible rfl)
          try simp only [Act.put, List.setIfInBounds_toArray, List.set_cons_zero, List.set_cons_succ, List.getElem_toArray, List.getElem_cons_succ, List.getElem_cons_zero]
          refine wpAnyZ_take (i := 10) (v := ?vv9) rfl (by kernel_rfl) (by kernel_rfl) (by kernel_rfl) (fun _ _ _ h => h) (Or.inl ⟨by rfl, ?hy9⟩) hHeld ?rr9
          case hy9 => (intro w' hSw; obtain ⟨g0, g1⟩ := HSt.out _ hSw; go_simp; try with_reducible rfl)
          try simp only [Act.put, List.setIfInBounds_toArray, List.set_cons_zero, List.set_cons_succ, List.getElem_toArray, List.getElem_cons_succ, List.getElem_cons_zero]
          refine wpAnyZ_take (i := 11) (v := ?vv10) rfl (by kernel_rfl) (by kernel_rfl) (by kernel_rfl) (fun _ _ _ h => h) (Or.inl ⟨by rfl, ?hy10⟩) hHeld ?rr10
          case hy10 => (intro w' hSw; obtain ⟨g0, g1⟩ := HSt.out _ hSw; go_simp; try with_reducible rfl)
          try simp only [Act.put, List.setIfInBounds_toArray, List.set_cons_zero, List.set_cons_succ, List.getElem_toArray, List.getElem_cons_succ, List.getElem_cons_zero]
          refine wpAnyZ_take (i := 12) (v := ?vv11) rfl (by kernel_rfl) (by kernel_rfl) (by kernel_rfl) (fun _ _ _ h => h) (Or.inl ⟨by rfl, ?hy11⟩) hHeld ?rr11
          case hy11 => (intro w' hSw; obtain ⟨g0, g1⟩ := HSt.out _ hSw; go_simp; try with_reducible rfl)
          try simp only [Act.put, List.setIfInBounds_toArray, List.set_cons_zero, List.set_cons_succ, List.getElem_toArray, List.getElem_cons_succ, List.getElem_cons_zero]
          refine wpAnyZ_take (i := 13) (v := ?vv12) rfl (by kernel_rfl) (by kernel_rfl) (by kernel_rfl) (fun _ _ _ h => h) (Or.inl ⟨by rfl, ?hy12⟩) hHeld ?rr12
          case hy12 => (intro w' hSw; obtain ⟨g0, g1⟩ := HSt.out _ hSw; go_simp; try with_reducible rfl)
          try simp only [Act.put, List.setIfInBounds_toArray, List.set_cons_zero, List.set_cons_succ, List.getElem_toArray, List.getElem_cons_succ, List.getElem_cons_zero]
          refine wpAnyZ_take (i := 14) (v := ?vv13) rfl (by kernel_rfl) (by kernel_rfl) (by kernel_rfl) (fun _ _ _ h => h) (Or.inl ⟨by rfl, ?hy13⟩) hHeld ?rr13
          case hy13 => (intro w' hSw; obtain ⟨g0, g1⟩ := HSt.out _ hSw; go_simp; try with_reducible rfl)
          try simp only [Act.put, List.setIfInBounds_toArray, List.set_cons_zero, List.set_cons_succ, List.getElem_toArray, List.getElem_cons_succ, List.getElem_cons_zero]
          refine wpAnyZ_take (i := 15) (v := ?vv14) rfl (by kernel_rfl) (by kernel_rfl) (by kernel_rfl) (fun _ _ _ h => h) (Or.inl ⟨by rfl, ?hy14⟩) hHeld ?rr14
          case hy14 => (intro w' hSw; obtain ⟨g0, g1⟩ := HSt.out _ hSw; go_simp; try with_reducible rfl)
          try simp only [Act.put, List.setIfInBounds_toArray, List.set_cons_zero, List.set_cons_succ, List.getElem_toArray, List.getElem_cons_succ, List.getElem_cons_zero]
          refine wpAnyZ_ready (rs := [1]) (by kernel_rfl) (by simp) ?_
          refine AllReadyZ.cons rfl (fun K hK => ?_) AllReadyZ.nil
          try rw [if_pos (by rfl)]
          go_simp
          refine hK.out _ _ HB1.out (fun hHeld2 => ?_)
          clear hK K hHeld
          have hHeld := hHeld2
          clear hHeld2
          try simp only [Act.put, List.setIfInBounds_toArray, List.set_cons_zero, List.set_cons_succ, List.getElem_toArray, List.getElem_cons_succ, List.getElem_cons_zero]
          refine wpAnyZ_ready (rs := [8]) (by kernel_rfl) (by simp) ?_
          refine AllReadyZ.cons rfl (fun K hK => ?_) AllReadyZ.nil
          try rw [if_pos (by rfl)]
          refine oper_append_k _ (.tmp 26) (.tmp 32) 26 rfl 36 i0 (.agg #[.int .i64 0, .int .i64 0]) 2 16 Try.underlying26 hinfo hz0 hz1 hz2 rfl (by decide) w.heap.size _ 0 [] rfl HO1.out (some ⟨g, 0, none⟩) k (k + 1) (cellsT (l.take k)) rfl HL1.out (HS1.out _ HB1.out) (cellsT_one _) (by unfold maxLen; omega) (by omega) (by simp) ?_
          intro A5 c5 w5 hown5 hgrow5 _
          have HO5 : Hid (w5.ownsRow w.heap.size 36 2 (.slice A5 (0 + k) c5) (0 + k) (cellsT (l.take k))) := Lib.hid (by simpa using hown5)
          have HB5 : Hid (Below w.heap.size w w5) := Lib.hid (HB1.out.grown hgrow5 HB1.out.size (fun k e => Nat.le_of_eq (Option.some.inj e)))
          clear hown5 hgrow5
          refine hK.out _ _ HB5.out (fun hHeld2 => ?_)
          clear hK K hHeld
          have hHeld := hHeld2
          clear hHeld2
          try simp only [Act.put, List.setIfInBounds_toArray, List.set_cons_zero, List.set_cons_succ, List.getElem_toArray, List.getElem_cons_succ, List.getElem_cons_zero]
          refine wpAnyZ_ready (rs := [16]) (by kernel_rfl) (by simp) ?_
          refine AllReadyZ.cons rfl (fun K hK => ?_) AllReadyZ.nil
          try rw [if_pos (by rfl)]
          refine oper_append_k _ (.tmp 33) (.tmp 40) 26 rfl 36 i0 (.agg #[.int .i64 0, .int .i64 0]) 2 16 Try.underlying26 hinfo hz0 hz1 hz2 rfl (by decide) w.heap.size _ (0 + k) (cellsT (l.take k)) rfl HO5.out (some ⟨g, 0, none⟩) 0 0 (cellsT (l.drop (k + 1))) rfl (by have := HL2.out; simpa using this) (fun h => absurd h (Nat.lt_irrefl _)) (cellsT_one _) (by unfold maxLen; omega) (by omega) HB5.out.size ?_
          intro A6 c6 w6 hown6 hgrow6 _
          have HO6 := Lib.hid hown6
          have HB6 : Hid (Below w.heap.size w w6) := Lib.hid (HB5.out.grown hgrow6 HB5.out.size (fun k e => (HO5.out.lt k e).1))
          clear hown6 hgrow6
          obtain ⟨b0, b1⟩ := HSt.out _ HB6.out
          refine hK.out _ _ HB6.out (fun hHeld2 => ?_)
          clear hK K hHeld
          have hHeld := hHeld2
          clear hHeld2
          try simp only [Act.put, List.setIfInBounds_toArray, List.set_cons_zero, List.set_cons_succ, List.getElem_toArray, List.getElem_cons_succ, List.getElem_cons_zero]
          refine wpAnyZ_ready (rs := [17]) (by kernel_rfl) (by simp) ?_
          refine AllReadyZ.cons rfl (fun K hK => ?_) AllReadyZ.nil
          try rw [if_pos (by rfl)]
          go_simp
          refine hK.out _ _ HB6.out (fun hHeld2 => ?_)
          clear hK K hHeld
          have hHeld := hHeld2
          clear hHeld2
          try simp only [Act.put, List.setIfInBounds_toArray, List.set_cons_zero, List.set_cons_succ, List.getElem_toArray, List.getElem_cons_succ, List.getElem_cons_zero]
          refine wpAnyZ_take (i := 18) (v := ?vv15) rfl (by kernel_rfl) (by kernel_rfl) (by kernel_rfl) (fun _ _ _ h => h) (Or.inl ⟨by rfl, ?hy15⟩) hHeld ?rr15
          case hy15 => (intro w' hSw; obtain ⟨g0, g1⟩ := HSt.out _ hSw; go_simp; try with_reducible rfl)
          try simp only [Act.put, List.setIfInBounds_toArray, List.set_cons_zero, List.set_cons_succ, List.getElem_toArray, List.getElem_cons_succ, List.getElem_cons_zero]
          refine wpAnyZ_ready (rs := [19]) (by kernel_rfl) (by simp) ?_
          refine AllReadyZ.last rfl (fun K hK => ?_)
          try rw [if_pos (by rfl)]
          go_simp
          refine hK.out _ _ ?_
          clear hK K hHeld
          try simp only [Act.put, List.setIfInBounds_toArray, List.set_cons_zero, List.set_cons_succ, List.getElem_toArray, List.getElem_cons_succ, List.getElem_cons_zero]
          refine wpAnyZ_done (by kernel_rfl) ?_ _
          have hln : (dropP l id).length = k := by rw [HD.out, List.length_append, List.length_take, List.length_drop, Nat.min_eq_left (by omega)]; have := HN.out; omega
          have HE : Hid (RefQ (w6.setCell ⟨x, 0, none⟩ (.slice A6 (k) c6)) (fun k => F k ∨ w.heap.size ≤ k) x (dropP l id) ∧ Moved F w (w6.setCell ⟨x, 0, none⟩ (.slice A6 (k) c6))) := Lib.hid (by
            have := ref_end (l' := dropP l id) (A5 := A6) (c5 := c6) H1.out H3.out HB6.out (by rw [hln, HD.out, cellsT_app]; simpa using HO6.out) (by rw [hln]; omega)
            rw [hln] at this; exact this)
          clear hln
          go_wp2
          go_ret
          exact ⟨by unfold whenB; rw [HW.out]; rfl, HE.out⟩
        · have hkw : IntKind.i64.wrap ((k : Int) + 1) = (k : Int) + 1 := by rw [IntKind.wrap_i64]; omega
          have hkp : (0 : Int) ≤ (k : Int) + 1 := by omega
          have hkt : ((k : Int) + 1).toNat = k + 1 := by omega
          refine wp_region_heldz_drew (S := (fun w' => Below w.heap.size w w')) 19 (by kernel_rfl) (Below.refl _ _).drew (fun hHeld => ?_)
          refine wpAnyZ_take (i := 0) (v := ?vv16) rfl (by kernel_rfl) (by kernel_rfl) (by kernel_rfl) (fun _ _ _ h => h) (Or.inl ⟨by rfl, ?hy16⟩) hHeld ?rr16
          case hy16 => (intro w' hSw; obtain ⟨g0, g1⟩ := HSt.out _ hSw; go_simp; try with_reducible rfl)
          try simp only [Act.put, List.setIfInBounds_toArray, List.set_cons_zero, List.set_cons_succ, List.getElem_toArray, List.getElem_cons_succ, List.getElem_cons_zero]
          refine wpAnyZ_take (i := 2) (v := ?vv17) rfl (by kernel_rfl) (by kernel_rfl) (by kernel_rfl) (fun _ _ _ h => h) (Or.inl ⟨by rfl, ?hy17⟩) hHeld ?rr17
          case hy17 => (intro w' hSw; obtain ⟨g0, g1⟩ := HSt.out _ hSw; go_simp; try with_reducible rfl)
          try simp only [Act.put, List.setIfInBounds_toArray, List.set_cons_zero, List.set_cons_succ, List.getElem_toArray, List.getElem_cons_succ, List.getElem_cons_zero]
          refine wpAnyZ_take (i := 3) (v := ?vv18) rfl (by kernel_rfl) (by kernel_rfl) (by kernel_rfl) (fun _ _ _ h => h) (Or.inl ⟨by rfl, ?hy18⟩) hHeld ?rr18
          case hy18 => (intro w' hSw; obtain ⟨g0, g1⟩ := HSt.out _ hSw; go_simp; try with_reducible rfl)
          try simp only [Act.put, List.setIfInBounds_toArray, List.set_cons_zero, List.set_cons_succ, List.getElem_toArray, List.getElem_cons_succ, List.getElem_cons_zero]
          refine wpAnyZ_take (i := 4) (v := ?vv19) rfl (by kernel_rfl) (by kernel_rfl) (by kernel_rfl) (fun _ _ _ h => h) (Or.inl ⟨by rfl, ?hy19⟩) hHeld ?rr19
          case hy19 => (intro w' hSw; obtain ⟨g0, g1⟩ := HSt.out _ hSw; go_simp; try with_reducible rfl)
          try simp only [Act.put, List.setIfInBounds_toArray, List.set_cons_zero, List.set_cons_succ, List.getElem_toArray, List.getElem_cons_succ, List.getElem_cons_zero]
          refine wpAnyZ_take (i := 5) (v := ?vv20) rfl (by kernel_rfl) (by kernel_rfl) (by kernel_rfl) (fun _ _ _ h => h) (Or.inl ⟨by rfl, ?hy20⟩) hHeld ?rr20
          case hy20 => (intro w' hSw; obtain ⟨g0, g1⟩ := HSt.out _ hSw; go_simp; try with_reducible rfl)
          try simp only [Act.put, List.setIfInBounds_toArray, List.set_cons_zero, List.set_cons_succ, List.getElem_toArray, List.getElem_cons_succ, List.getElem_cons_zero]
          refine wpAnyZ_take (i := 6) (v := ?vv21) rfl (by kernel_rfl) (by kernel_rfl) (by kernel_rfl) (fun _ _ _ h => h) (Or.inl ⟨by rfl, ?hy21⟩) hHeld ?rr21
          case hy21 => (intro w' hSw; obtain ⟨g0, g1⟩ := HSt.out _ hSw; go_simp; try with_reducible rfl)
          try simp only [Act.put, List.setIfInBounds_toArray, List.set_cons_zero, List.set_cons_succ, List.getElem_toArray, List.getElem_cons_succ, List.getElem_cons_zero]
          refine wpAnyZ_take (i := 7) (v := ?vv22) rfl (by kernel_rfl) (by kernel_rfl) (by kernel_rfl) (fun _ _ _ h => h) (Or.inl ⟨by rfl, ?hy22⟩) hHeld ?rr22
          case hy22 => (intro w' hSw; obtain ⟨g0, g1⟩ := HSt.out _ hSw; go_simp; try with_reducible rfl)
          try simp only [Act.put, List.setIfInBounds_toArray, List.set_cons_zero, List.set_cons_succ, List.getElem_toArray, List.getElem_cons_succ, List.getElem_cons_zero]
          refine wpAnyZ_take (i := 9) (v := ?vv23) rfl (by kernel_rfl) (by kernel_rfl) (by kernel_rfl) (fun _ _ _ h => h) (Or.inl ⟨by rfl, ?hy23⟩) hHeld ?rr23
          case hy23 => (intro w' hSw; obtain ⟨g0, g1⟩ := HSt.out _ hSw; go_simp; try with_reducible rfl)
          try simp only [Act.put, List.setIfInBounds_toArray, List.set_cons_zero, List.set_cons_succ, List.getElem_toArray, List.getElem_cons_succ, List.getElem_cons_zero]
          refine wpAnyZ_take (i := 10) (v := ?vv24) rfl (by kernel_rfl) (by kernel_rfl) (by kernel_rfl) (fun _ _ _ h => h) (Or.inl ⟨by rfl, ?hy24⟩) hHeld ?rr24
          case hy24 => (intro w' hSw; obtain ⟨g0, g1⟩ := HSt.out _ hSw; go_simp; try with_reducible rfl)
          try simp only [Act.put, List.setIfInBounds_toArray, List.set_cons_zero, List.set_cons_succ, List.getElem_toArray, List.getElem_cons_succ, List.getElem_cons_zero]
          refine wpAnyZ_take (i := 11) (v := ?vv25) rfl (by kernel_rfl) (by kernel_rfl) (by kernel_rfl) (fun _ _ _ h => h) (Or.inl ⟨by rfl, ?hy25⟩) hHeld ?rr25
          case hy25 => (intro w' hSw; obtain ⟨g0, g1⟩ := HSt.out _ hSw; go_simp; try with_reducible rfl)
          try simp only [Act.put, List.setIfInBounds_toArray, List.set_cons_zero, List.set_cons_succ, List.getElem_toArray, List.getElem_cons_succ, List.getElem_cons_zero]
          refine wpAnyZ_take (i := 12) (v := ?vv26) rfl (by kernel_rfl) (by kernel_rfl) (by kernel_rfl) (fun _ _ _ h => h) (Or.inl ⟨by rfl, ?hy26⟩) hHeld ?rr26
          case hy26 => (intro w' hSw; obtain ⟨g0, g1⟩ := HSt.out _ hSw; go_simp; try with_reducible rfl)
          try simp only [Act.put, List.setIfInBounds_toArray, List.set_cons_zero, List.set_cons_succ, List.getElem_toArray, List.getElem_cons_succ, List.getElem_cons_zero]
          refine wpAnyZ_take (i := 13) (v := ?vv27) rfl (by kernel_rfl) (by kernel_rfl) (by kernel_rfl) (fun _ _ _ h => h) (Or.inl ⟨by rfl, ?hy27⟩) hHeld ?rr27
          case hy27 => (intro w' hSw; obtain ⟨g0, g1⟩ := HSt.out _ hSw; go_simp; try with_reducible rfl)
          try simp only [Act.put, List.setIfInBounds_toArray, List.set_cons_zero, List.set_cons_succ, List.getElem_toArray, List.getElem_cons_succ, List.getElem_cons_zero]
          refine wpAnyZ_take (i := 14) (v := ?vv28) rfl (by kernel_rfl) (by kernel_rfl) (by kernel_rfl) (fun _ _ _ h => h) (Or.inl ⟨by rfl, ?hy28⟩) hHeld ?rr28
          case hy28 => (intro w' hSw; obtain ⟨g0, g1⟩ := HSt.out _ hSw; go_simp; try with_reducible rfl)
          try simp only [Act.put, List.setIfInBounds_toArray, List.set_cons_zero, List.set_cons_succ, List.getElem_toArray, List.getElem_cons_succ, List.getElem_cons_zero]
          refine wpAnyZ_take (i := 15) (v := ?vv29) rfl (by kernel_rfl) (by kernel_rfl) (by kernel_rfl) (fun _ _ _ h => h) (Or.inl ⟨by rfl, ?hy29⟩) hHeld ?rr29
          case hy29 => (intro w' hSw; obtain ⟨g0, g1⟩ := HSt.out _ hSw; go_simp; try with_reducible rfl)
          try simp only [Act.put, List.setIfInBounds_toArray, List.set_cons_zero, List.set_cons_succ, List.getElem_toArray, List.getElem_cons_succ, List.getElem_cons_zero]
          refine wpAnyZ_ready (rs := [1]) (by kernel_rfl) (by simp) ?_
          refine AllReadyZ.cons rfl (fun K hK => ?_) AllReadyZ.nil
          try rw [if_pos (by rfl)]
          go_simp
          refine hK.out _ _ HB1.out (fun hHeld2 => ?_)
          clear hK K hHeld
          have hHeld := hHeld2
          clear hHeld2
          try simp only [Act.put, List.setIfInBounds_toArray, List.set_cons_zero, List.set_cons_succ, List.getElem_toArray, List.getElem_cons_succ, List.getElem_cons_zero]
          refine wpAnyZ_ready (rs := [8]) (by kernel_rfl) (by simp) ?_
          refine AllReadyZ.cons rfl (fun K hK => ?_) AllReadyZ.nil
          try rw [if_pos (by rfl)]
          refine oper_append_k _ (.tmp 26) (.tmp 32) 26 rfl 36 i0 (.agg #[.int .i64 0, .int .i64 0]) 2 16 Try.underlying26 hinfo hz0 hz1 hz2 rfl (by decide) w.heap.size _ 0 [] rfl HO1.out (some ⟨g, 0, none⟩) k c (cellsT (l.take k)) rfl HL1.out (HS1.out _ HB1.out) (cellsT_one _) (by unfold maxLen; omega) (by omega) (by simp) ?_
          intro A5 c5 w5 hown5 hgrow5 _
          have HO5 : Hid (w5.ownsRow w.heap.size 36 2 (.slice A5 (0 + k) c5) (0 + k) (cellsT (l.take k))) := Lib.hid (by simpa using hown5)
          have HB5 : Hid (Below w.heap.size w w5) := Lib.hid (HB1.out.grown hgrow5 HB1.out.size (fun k e => Nat.le_of_eq (Option.some.inj e)))
          clear hown5 hgrow5
          refine hK.out _ _ HB5.out (fun hHeld2 => ?_)
          clear hK K hHeld
          have hHeld := hHeld2
          clear hHeld2
          try simp only [Act.put, List.setIfInBounds_toArray, List.set_cons_zero, List.set_cons_succ, List.getElem_toArray, List.getElem_cons_succ, List.getElem_cons_zero]
          refine wpAnyZ_ready (rs := [16]) (by kernel_rfl) (by simp) ?_
          refine AllReadyZ.cons rfl (fun K hK => ?_) AllReadyZ.nil
          try rw [if_pos (by rfl)]
          refine oper_append_k _ (.tmp 33) (.tmp 40) 26 rfl 36 i0 (.agg #[.int .i64 0, .int .i64 0]) 2 16 Try.underlying26 hinfo hz0 hz1 hz2 rfl (by decide) w.heap.size _ (0 + k) (cellsT (l.take k)) rfl HO5.out (some ⟨g, (k + 1) * 2, none⟩) (n - (k + 1)) (c - (k + 1)) (cellsT (l.drop (k + 1))) rfl HL2.out (HS2.out _ HB5.out) (cellsT_one _) (by unfold maxLen; omega) (by omega) HB5.out.size ?_
          intro A6 c6 w6 hown6 hgrow6 _
          have HO6 := Lib.hid hown6
          have HB6 : Hid (Below w.heap.size w w6) := Lib.hid (HB5.out.grown hgrow6 HB5.out.size (fun k e => (HO5.out.lt k e).1))
          clear hown6 hgrow6
          obtain ⟨b0, b1⟩ := HSt.out _ HB6.out
          refine hK.out _ _ HB6.out (fun hHeld2 => ?_)
          clear hK K hHeld
          have hHeld := hHeld2
          clear hHeld2
          try simp only [Act.put, List.setIfInBounds_toArray, List.set_cons_zero, List.set_cons_succ, List.getElem_toArray, List.getElem_cons_succ, List.getElem_cons_zero]
          refine wpAnyZ_ready (rs := [17]) (by kernel_rfl) (by simp) ?_
          refine AllReadyZ.cons rfl (fun K hK => ?_) AllReadyZ.nil
          try rw [if_pos (by rfl)]
          go_simp
          refine hK.out _ _ HB6.out (fun hHeld2 => ?_)
          clear hK K hHeld
          have hHeld := hHeld2
          clear hHeld2
          try simp only [Act.put, List.setIfInBounds_toArray, List.set_cons_zero, List.set_cons_succ, List.getElem_toArray, List.getElem_cons_succ, List.getElem_cons_zero]
          refine wpAnyZ_take (i := 18) (v := ?vv30) rfl (by kernel_rfl) (by kernel_rfl) (by kernel_rfl) (fun _ _ _ h => h) (Or.inl ⟨by rfl, ?hy30⟩) hHeld ?rr30
          case hy30 => (intro w' hSw; obtain ⟨g0, g1⟩ := HSt.out _ hSw; go_simp; try with_reducible rfl)
          try simp only [Act.put, List.setIfInBounds_toArray, List.set_cons_zero, List.set_cons_succ, List.getElem_toArray, List.getElem_cons_succ, List.getElem_cons_zero]
          refine wpAnyZ_ready (rs := [19]) (by kernel_rfl) (by simp) ?_
          refine AllReadyZ.last rfl (fun K hK => ?_)
          try rw [if_pos (by rfl)]
          go_simp
          refine hK.out _ _ ?_
          clear hK K hHeld
          try simp only [Act.put, List.setIfInBounds_toArray, List.set_cons_zero, List.set_cons_succ, List.getElem_toArray, List.getElem_cons_succ, List.getElem_cons_zero]
          refine wpAnyZ_done (by kernel_rfl) ?_ _
          have hln : (dropP l id).length = k + (n - (k + 1)) := by rw [HD.out, List.length_append, List.length_take, List.length_drop, Nat.min_eq_left (by omega)]; have := HN.out; omega
          have HE : Hid (RefQ (w6.setCell ⟨x, 0, none⟩ (.slice A6 (k + (n - (k + 1))) c6)) (fun k => F k ∨ w.heap.size ≤ k) x (dropP l id) ∧ Moved F w (w6.setCell ⟨x, 0, none⟩ (.slice A6 (k + (n - (k + 1))) c6))) := Lib.hid (by
            have := ref_end (l' := dropP l id) (A5 := A6) (c5 := c6) H1.out H3.out HB6.out (by rw [hln, HD.out, cellsT_app]; simpa using HO6.out) (by rw [hln]; omega)
            rw [hln] at this; exact this)
          clear hln
          go_wp2
          go_ret
          exact ⟨by unfold whenB; rw [HW.out]; rfl, HE.out⟩
      · obtain ⟨y, hy⟩ : ∃ y, y = l[k].2 := ⟨_, rfl⟩
        have HNx : Hid (∀ j (hj : j < l.length), j < k + 1 → l[j].2 ≠ id) := Lib.hid (fun j hj h => by
          by_cases e : j = k
          · subst e; exact he
          · exact HK.out j hj (by omega))
        rw [← hy] at e1 he
        have he' : (y == id) = false := by simpa using he
        clear e0 hy hkl he
        go_wp2
        go_round
        case rel => exact ⟨k + 1, by omega, by go_num, HNx⟩
        case measure => simp [intOf]; omega
    · obtain rfl : k = n := by omega
      have hall : ∀ t ∈ l, t.2 ≠ id := fun t ht => by
        obtain ⟨j, hj, rfl⟩ := List.getElem_of_mem ht
        exact HK.out j hj (by rw [HN.out]; exact hj)
      have HW : Hid (whenP l id = none) := Lib.hid (find_none hall)
      have HD := Lib.hid (dropP_none hall)
      clear hall
      go_wp2
      go_ret
      exact ⟨by unfold whenB; rw [HW.out]; rfl, by rw [HD.out]; exact H.out.wide (fun k hk => .inl hk), Moved.refl _ _⟩
end
end Go.Proofs.Ytllkallodgbpmaa
