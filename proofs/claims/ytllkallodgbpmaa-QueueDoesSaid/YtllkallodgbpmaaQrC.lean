/- The reference's queue: Pop. -/
import Derived.Test.YtllkallodgbpmaaQrB
set_option linter.unusedSimpArgs false
set_option linter.unusedVariables false
namespace Go.Proofs.Ytllkallodgbpmaa
open Go.ChangeShapes Go.WideShapes Go.ChangeAt Go.RowKit Go.Base Go.Que

section
variable {w w' : World} {F G : Nat → Prop} {x : Nat} {l : List (Int × Int)}
theorem RefQ.put2 (h : RefQ w F x l) {b : Nat} (hb : ¬ F b) (u v : Value) : RefQ ((w.setCell ⟨b, 0, none⟩ u).setCell ⟨b, 1, none⟩ v) F x l :=
  h.kept (p := fun k => k = b) (((Moved.refl (fun k => k = b) w).setCell (.inr rfl) _).setCell (.inr rfl) _) (fun k hk e => hb (e ▸ hk))
set_option maxHeartbeats 4000000 in
set_option maxRecDepth 20000 in
theorem rqpop_tight (h : RefQ w F x l) (hF : ∀ k, F k → k < w.heap.size) (now : Int) : Calls Try.prog 14 #[.pointer (some ⟨x, 0, none⟩), .int .i64 now] w (RPop F x (popT l now) (popV l now) w) := by
  have H := Lib.hid h
  obtain ⟨A, c, h1, h2, h3, h4, h5⟩ := h
  have c0 : w.cell? ⟨x, 0, none⟩ = some (.slice A l.length c) := cell_of_row _ _ 0 _ _ _ h1
  have hx : x < w.heap.size := heap_lt h1
  have hx1 : x < w.heap.size + 1 := by omega
  have hx2 : x < w.heap.size + 1 + 1 := by omega
  have p1 : ¬ w.heap.size = x := by omega
  have p2 : ¬ w.heap.size + 1 = x := by omega
  have p3 : ¬ x = w.heap.size := by omega
  have p4 : ¬ x = w.heap.size + 1 := by omega
  have HFl := Lib.hid hF
  cases l with
  | nil =>
    rw [List.length_nil] at c0
    clear h1 h2 h3 h4 h5 hF
    go_enter Try.func14, Try.ntmps14
    go_wp2
    exact bodyPost_ret (v := .tuple #[.agg #[.int .i64 0, .int .i64 0], .bool false]) (by simp [results, Try.results14, go_sem]) rfl ⟨rfl, (H.out.later (below_alloc _ _)).wide (fun k hk => .inl hk), Below.movedNew (below_alloc _ _)⟩
  | cons t r =>
    obtain ⟨g, rfl, e0, e1⟩ := ref_at h2 (k := 0) (by simp)
    have hg : g < w.heap.size := World.block_lt_of_cell? w _ e0
    rw [Nat.zero_mul] at e0 e1
    rw [Nat.zero_add] at e1
    simp only [List.getElem_cons_zero] at e0 e1
    obtain ⟨n, hn⟩ : ∃ n, n = r.length := ⟨_, rfl⟩
    rw [List.length_cons, ← hn] at c0
    have h5 : n + 1 ≤ 65536 := by rw [hn]; simpa using h5
    have he : ((n : Int) + 1 == 0) = false := by rw [beq_eq_false_iff_ne]; omega
    have hnz : (0 : Int) < (n : Int) + 1 := by omega
    obtain ⟨a, b⟩ := t
    by_cases hd : a ≤ now
    · have hd2 : decide (now < a) = false := by rw [decide_eq_false_iff_not]; omega
      have HV : Hid (popV ((a, b) :: r) now = .tuple #[.agg #[.int .i64 a, .int .i64 b], .bool true] ∧ popT ((a, b) :: r) now = r) := Lib.hid ⟨if_pos hd, if_pos hd⟩
      have hcn : n + 1 ≤ c := by
        obtain ⟨A', cap, hv, hc, _⟩ := own_form h2
        injection hv with _ _ hv
        rw [hn]; simp at hc; omega
      have hfz : w.frozen? ⟨x, 0, none⟩ = false := (cells_of_heap h1).2 0
      have HN := Lib.hid hn
      have H1 := Lib.hid h1
      have H3 := Lib.hid h3
      have HSrc : Hid (∀ V, Below w.heap.size w V → 0 < n → ∃ g', (some ⟨g, 0, none⟩ : Option Addr) = some ⟨g', 0, none⟩ ∧ ∀ j u, (cellsT r)[j]? = some u → V.cell? ((⟨g', 2, none⟩ : Addr).add j) = some u) := Lib.hid (fun V hV h0 => by
        have := ref_src (lo := 1) (hi := r.length + 1) (own_moved (p := fun _ => False) h2 (Below.movedNew hV) (fun _ _ h => h)) (by simp) (by omega) (by omega)
        simpa using this)
      obtain ⟨i0, hinfo, hz0, hz1, hz2⟩ := info_parts (P := Try.prog) (e := 36) (z := .agg #[.int .i64 0, .int .i64 0]) (size := 2) (bytes := 16) (by kernel_rfl)
      clear h1 h2 h3 h4 hF hd hn
      by_cases hc1 : c = 1
      · obtain rfl : n = 0 := by omega
        subst hc1
        go_enter Try.func14, Try.ntmps14
        have HB3 : Hid (Below w.heap.size w (((w.alloc (.cells #[.int .i64 0, .int .i64 0] 36)).alloc (.cells #[.int .i64 a, .int .i64 b] 36)).alloc (.cells #[] 36))) := Lib.hid (((below_alloc _ _).alloc (by simp) _).alloc (by simp; omega) _)
        have HA6 : Hid (((w.alloc (.cells #[.int .i64 0, .int .i64 0] 36)).alloc (.cells #[.int .i64 a, .int .i64 b] 36)).heap[w.heap.size + 1]? = some (.cells #[.int .i64 a, .int .i64 b] 36 (0, 0))) := Lib.hid (by have := heap_new (w.alloc (.cells #[.int .i64 0, .int .i64 0] 36)) (.cells #[.int .i64 a, .int .i64 b] 36); simpa using this)
        have HO3 : Hid ((((w.alloc (.cells #[.int .i64 0, .int .i64 0] 36)).alloc (.cells #[.int .i64 a, .int .i64 b] 36)).alloc (.cells #[] 36)).ownsRow (w.heap.size + 1 + 1) 36 2 (.slice (some ⟨w.heap.size + 1 + 1, 0, none⟩) 0 0) 0 []) := Lib.hid (by
          have := World.ownsRow_made (base := w.heap.size + 1 + 1) (size := 2) (e := 36) ((w.alloc (.cells #[.int .i64 0, .int .i64 0] 36)).alloc (.cells #[.int .i64 a, .int .i64 b] 36)) #[] 0 (by simp) (Nat.zero_le _) rfl
          simpa using this)
        have HLen : Hid ((cellsT r).length = 0 * 2) := Lib.hid (by rw [cellsT_len, ← HN.out])
        go_wp2_with (at_builtin; refine wpList_append_k _ (by rfl) (.tmp 32) (.tmp 37) 26 (by rfl) 36 i0 (.agg #[.int .i64 0, .int .i64 0]) 2 16 Try.underlying26 hinfo hz0 hz1 hz2 rfl (by decide) (w.heap.size + 1 + 1) (.slice (some ⟨w.heap.size + 1 + 1, 0, none⟩) 0 0) 0 [] (by rfl) HO3.out (some ⟨g, 0, none⟩) 0 0 (cellsT r) (by rfl) HLen.out (fun h => absurd h (Nat.lt_irrefl _)) (cellsT_one r) (by unfold maxLen; omega) (by omega) (by simp) ?_; intro A5 c5 w5 hown hgrow hwh; have HO5 := Lib.hid hown; have hm5 : Moved (fun k => k = w.heap.size + 1 + 1) (((w.alloc (.cells #[.int .i64 0, .int .i64 0] 36)).alloc (.cells #[.int .i64 a, .int .i64 b] 36)).alloc (.cells #[] 36)) w5 := Moved.grown (Moved.refl _ _) hgrow (fun k _ e => (Option.some.inj e).symm); have k4 : w5.heap[w.heap.size]? = some (.cells #[.int .i64 0, .int .i64 0] 36 (0, 0)) := hm5.heap (heap_old _ (by simp; omega) (heap_old _ (by simp) (heap_new w _))) (by omega); have k6 : w5.heap[w.heap.size + 1]? = some (.cells #[.int .i64 a, .int .i64 b] 36 (0, 0)) := hm5.heap (heap_old _ (by simp) (HA6.out)) (by omega); have kx : w5.heap[x]? = some (.cells #[.slice (some ⟨g, 0, none⟩) (r.length + 1) c] 28 (0, 0)) := hm5.heap (heap_old _ (by simp; omega) (heap_old _ (by simp; omega) (heap_old _ hx H1.out))) (by omega); have d40 : w5.cell? ⟨w.heap.size, 0, none⟩ = some (.int .i64 0) := cell_of_row _ _ 0 _ _ _ k4; have d41 : w5.cell? ⟨w.heap.size, 1, none⟩ = some (.int .i64 0) := cell_of_row _ _ 1 _ _ _ k4; have f40 := (cells_of_heap k4).2 0; have f41 := (cells_of_heap k4).2 1; have d60 : w5.cell? ⟨w.heap.size + 1, 0, none⟩ = some (.int .i64 a) := cell_of_row _ _ 0 _ _ _ k6; have d61 : w5.cell? ⟨w.heap.size + 1, 1, none⟩ = some (.int .i64 b) := cell_of_row _ _ 1 _ _ _ k6; have dx : w5.cell? ⟨x, 0, none⟩ = some (.slice (some ⟨g, 0, none⟩) (r.length + 1) c) := cell_of_row _ _ 0 _ _ _ kx; have fx := (cells_of_heap kx).2 0; have HKx := Lib.hid kx; have HM5 := Lib.hid hm5; have HWh := Lib.hid hwh; clear hm5 k4 k6 kx hown hgrow hwh)
        have hr : r = [] := List.eq_nil_of_length_eq_zero HN.out.symm
        subst hr
        refine bodyPost_ret (v := .tuple #[.agg #[.int .i64 a, .int .i64 b], .bool true]) (by simp [results, Try.results14, go_sem]) rfl ⟨by rw [HV.out.1], ?_, ?_⟩
        · rw [HV.out.2]
          refine ⟨some ⟨w.heap.size + 1 + 1, 0, none⟩, 0, ?_, ⟨rfl, .inr ⟨w.heap.size + 1 + 1, 0, #[], rfl, Nat.zero_le _, ?_, Nat.le_refl _, Nat.zero_le _, rfl, rfl⟩⟩, .inl H3.out, fun k hk => .inr (by have e := Option.some.inj hk; have e2 : w.heap.size + 1 + 1 = k := e; omega), by simp⟩
          · exact heap_old _ (by simp; omega) (heap_old _ (by simp; omega) (heap_old _ (by simpa using hx) (by rw [heap_set H1.out 0 _]; rfl)))
          · have := heap_new (((w.setCell ⟨x, 0, none⟩ (.slice (some ⟨w.heap.size + 1 + 1, 0, none⟩) 0 0)).alloc (.cells #[.int .i64 a, .int .i64 b] 36)).alloc (.cells #[.int .i64 a, .int .i64 b] 36)) (.cells #[] 36)
            simpa using this
        · exact (((((Moved.refl F w).setCell (.inr H3.out) _).alloc _).alloc _).alloc _)
      · go_enter Try.func14, Try.ntmps14
        have HB3 : Hid (Below w.heap.size w (((w.alloc (.cells #[.int .i64 0, .int .i64 0] 36)).alloc (.cells #[.int .i64 a, .int .i64 b] 36)).alloc (.cells #[] 36))) := Lib.hid (((below_alloc _ _).alloc (by simp) _).alloc (by simp; omega) _)
        have HA6 : Hid (((w.alloc (.cells #[.int .i64 0, .int .i64 0] 36)).alloc (.cells #[.int .i64 a, .int .i64 b] 36)).heap[w.heap.size + 1]? = some (.cells #[.int .i64 a, .int .i64 b] 36 (0, 0))) := Lib.hid (by have := heap_new (w.alloc (.cells #[.int .i64 0, .int .i64 0] 36)) (.cells #[.int .i64 a, .int .i64 b] 36); simpa using this)
        have HO3 : Hid ((((w.alloc (.cells #[.int .i64 0, .int .i64 0] 36)).alloc (.cells #[.int .i64 a, .int .i64 b] 36)).alloc (.cells #[] 36)).ownsRow (w.heap.size + 1 + 1) 36 2 (.slice (some ⟨w.heap.size + 1 + 1, 0, none⟩) 0 0) 0 []) := Lib.hid (by
          have := World.ownsRow_made (base := w.heap.size + 1 + 1) (size := 2) (e := 36) ((w.alloc (.cells #[.int .i64 0, .int .i64 0] 36)).alloc (.cells #[.int .i64 a, .int .i64 b] 36)) #[] 0 (by simp) (Nat.zero_le _) rfl
          simpa using this)
        have HSrc3 := Lib.hid (show 0 < n → ∃ ad, (some ⟨g, 2, none⟩ : Option Addr) = some ad ∧ ∀ j u, (cellsT r)[j]? = some u → (((w.alloc (.cells #[.int .i64 0, .int .i64 0] 36)).alloc (.cells #[.int .i64 a, .int .i64 b] 36)).alloc (.cells #[] 36)).cell? (ad.add j) = some u from fun h => by
          obtain ⟨g2, eg, hs⟩ := HSrc.out _ HB3.out h
          injection eg with eg
          injection eg with eg
          subst eg
          exact ⟨_, rfl, hs⟩)
        have HLen : Hid ((cellsT r).length = n * 2) := Lib.hid (by rw [cellsT_len, ← HN.out])
        go_wp2_with (at_builtin; refine wpList_append_k _ (by rfl) (.tmp 32) (.tmp 37) 26 (by rfl) 36 i0 (.agg #[.int .i64 0, .int .i64 0]) 2 16 Try.underlying26 hinfo hz0 hz1 hz2 rfl (by decide) (w.heap.size + 1 + 1) (.slice (some ⟨w.heap.size + 1 + 1, 0, none⟩) 0 0) 0 [] (by rfl) HO3.out (some ⟨g, 2, none⟩) n (c - 1) (cellsT r) (by rfl) HLen.out (HSrc3.out) (cellsT_one r) (by unfold maxLen; omega) (by omega) (by simp) ?_; intro A5 c5 w5 hown hgrow hwh; have HO5 := Lib.hid hown; have hm5 : Moved (fun k => k = w.heap.size + 1 + 1) (((w.alloc (.cells #[.int .i64 0, .int .i64 0] 36)).alloc (.cells #[.int .i64 a, .int .i64 b] 36)).alloc (.cells #[] 36)) w5 := Moved.grown (Moved.refl _ _) hgrow (fun k _ e => (Option.some.inj e).symm); have k4 : w5.heap[w.heap.size]? = some (.cells #[.int .i64 0, .int .i64 0] 36 (0, 0)) := hm5.heap (heap_old _ (by simp; omega) (heap_old _ (by simp) (heap_new w _))) (by omega); have k6 : w5.heap[w.heap.size + 1]? = some (.cells #[.int .i64 a, .int .i64 b] 36 (0, 0)) := hm5.heap (heap_old _ (by simp) (HA6.out)) (by omega); have kx : w5.heap[x]? = some (.cells #[.slice (some ⟨g, 0, none⟩) (r.length + 1) c] 28 (0, 0)) := hm5.heap (heap_old _ (by simp; omega) (heap_old _ (by simp; omega) (heap_old _ hx H1.out))) (by omega); have d40 : w5.cell? ⟨w.heap.size, 0, none⟩ = some (.int .i64 0) := cell_of_row _ _ 0 _ _ _ k4; have d41 : w5.cell? ⟨w.heap.size, 1, none⟩ = some (.int .i64 0) := cell_of_row _ _ 1 _ _ _ k4; have f40 := (cells_of_heap k4).2 0; have f41 := (cells_of_heap k4).2 1; have d60 : w5.cell? ⟨w.heap.size + 1, 0, none⟩ = some (.int .i64 a) := cell_of_row _ _ 0 _ _ _ k6; have d61 : w5.cell? ⟨w.heap.size + 1, 1, none⟩ = some (.int .i64 b) := cell_of_row _ _ 1 _ _ _ k6; have dx : w5.cell? ⟨x, 0, none⟩ = some (.slice (some ⟨g, 0, none⟩) (r.length + 1) c) := cell_of_row _ _ 0 _ _ _ kx; have fx := (cells_of_heap kx).2 0; have HKx := Lib.hid kx; have HM5 := Lib.hid hm5; have HWh := Lib.hid hwh; clear hm5 k4 k6 kx hown hgrow hwh)
        have ho5 := HO5.out
        have hwh := HWh.out
        rw [Nat.zero_add, List.nil_append, HN.out] at ho5
        rw [Nat.zero_add, HN.out] at hwh
        have hA5 : ∀ k, (Value.slice A5 r.length c5).ownBlock = some k → w.heap.size + 2 ≤ k := fun k hk => by
          rcases hwh with e | e
          · rw [e] at hk; have e2 : w.heap.size + 1 + 1 = k := Option.some.inj hk; omega
          · rw [e] at hk; have e2 := Option.some.inj hk; simp at e2; omega
        have ho0 : w5.ownsRow 0 36 2 (.slice A5 r.length c5) r.length (cellsT r) := by
          refine ⟨ho5.1, ?_⟩
          rcases ho5.2 with h0 | ⟨g', cap, cur, h1, h2, h3⟩
          · exact .inl h0
          · exact .inr ⟨g', cap, cur, h1, Nat.zero_le _, h3⟩
        have hrq := ref_put (F := fun k => F k ∨ w.heap.size + 2 ≤ k) HKx.out rfl ho0 (.inl H3.out) (fun k hk => .inr (hA5 k hk)) (by have := HN.out; omega)
        refine bodyPost_ret (v := .tuple #[.agg #[.int .i64 a, .int .i64 b], .bool true]) (by simp [results, Try.results14, go_sem, d40, d41, p1, p2, p3, p4]) rfl ⟨by rw [HV.out.1], ?_, ?_⟩
        · rw [HV.out.2, HN.out]
          exact (hrq.put2 (fun h => by rcases h with h | h; (have := HFl.out _ h; omega); omega) _ _).wide (fun k hk => hk.imp (fun h => h) (fun h => by omega))
        · have hm : Moved F w w5 := (Below.movedNew HB3.out).trans (q := fun k => k = w.heap.size + 1 + 1) HM5.out (fun k hk e => by omega)
          exact (((hm.setCell (.inr H3.out) _).setCell (.inl (Nat.le_refl _)) _).setCell (.inl (Nat.le_refl _)) _)
    · have hd2 : decide (now < a) = true := by rw [decide_eq_true_iff]; omega
      have HV : Hid (popV ((a, b) :: r) now = .tuple #[.agg #[.int .i64 0, .int .i64 0], .bool false] ∧ popT ((a, b) :: r) now = (a, b) :: r) := Lib.hid ⟨if_neg hd, if_neg hd⟩
      clear h1 h2 h3 h4 hF hd hn
      go_enter Try.func14, Try.ntmps14
      go_wp2
      exact bodyPost_ret (v := .tuple #[.agg #[.int .i64 0, .int .i64 0], .bool false]) (by simp [results, Try.results14, go_sem]) rfl ⟨by rw [HV.out.1], by rw [HV.out.2]; exact (H.out.later (below_alloc _ _)).wide (fun k hk => .inl hk), Below.movedNew (below_alloc _ _)⟩
theorem rqpop_any (h : RefQ w F x l) (now : Int) : Calls Try.prog 14 #[.pointer (some ⟨x, 0, none⟩), .int .i64 now] w (RPop F x (popT l now) (popV l now) w) := by
  obtain ⟨F0, h0, hG, hF⟩ := h.tight
  exact (rqpop_tight h0 hF now).mono fun e w' hp => hp.wide hG
end
end Go.Proofs.Ytllkallodgbpmaa
