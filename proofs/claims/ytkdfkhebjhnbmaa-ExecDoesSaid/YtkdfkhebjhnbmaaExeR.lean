/- Package exec: how the reference's Start refuses; lists in plain words. -/
import Derived.Test.YtkdfkhebjhnbmaaExeQ
set_option linter.unusedSimpArgs false
set_option linter.unusedVariables false
namespace Go.Exe
theorem insR_at {r : Rn} {L : List Rn} {i : Nat} (hi : i ≤ L.length) (h1 : ∀ a ∈ L.take i, a.until_ ≤ r.until_) (h2 : ∀ a, L[i]? = some a → r.until_ < a.until_) : insR r L = L.take i ++ r :: L.drop i := by
  induction L generalizing i with
  | nil => cases i <;> simp [insR] at hi ⊢
  | cons b l ih =>
    cases i with
    | zero =>
      have := h2 b rfl
      unfold insR
      rw [if_neg (by omega)]
      rfl
    | succ i =>
      have hb := h1 b (by simp)
      unfold insR
      rw [if_pos hb, ih (by simpa using hi) (fun a ha => h1 a (by simp [ha])) (fun a ha => h2 a (by simpa using ha))]
      rfl
theorem del_at {L : List Rn} {i : Nat} (hi : i < L.length) (h : ∀ a ∈ L, a.num = L[i].num → a = L[i]) (hp : L.Pairwise ltR) : del L L[i].num = L.take i ++ L.drop (i + 1) := by
  induction L generalizing i with
  | nil => simp at hi
  | cons b l ih =>
    obtain ⟨h1, h2⟩ := List.pairwise_cons.1 hp
    cases i with
    | zero =>
      unfold del
      simp only [List.getElem_cons_zero]
      rw [List.filter_cons, if_neg (by simp)]
      simp only [List.take_zero, List.nil_append, List.drop_succ_cons, List.drop_zero]
      rw [List.filter_eq_self]
      intro a ha
      rw [decide_eq_true_eq]
      intro e
      have e2 := h a (List.mem_cons_of_mem _ ha) e
      simp only [List.getElem_cons_zero] at e2
      have h3 := h1 a ha
      rw [e2] at h3
      unfold ltR at h3; omega
    | succ i =>
      have hi' : i < l.length := by simpa using hi
      simp only [List.getElem_cons_succ] at h ⊢
      have hne : b.num ≠ l[i].num := fun e => by
        have e2 := h b (List.mem_cons_self ..) e
        have h3 := h1 l[i] (List.getElem_mem hi')
        rw [← e2] at h3
        unfold ltR at h3; omega
      have := ih hi' (fun a ha e => h a (List.mem_cons_of_mem _ ha) e) h2
      unfold del at this ⊢
      rw [List.filter_cons, if_pos (by simp [hne]), this]
      rfl
end Go.Exe
namespace Go.Proofs.Ytkdfkhebjhnbmaa
open Go.ChangeShapes Go.WideShapes Go.ChangeAt Go.RowKit Go.Base Go.Que Go.Exe

section
variable {w : World} {y : Nat} {slots : Int} {L : List Rn}
set_option maxHeartbeats 2000000 in
set_option maxRecDepth 20000 in
theorem rstart_no (h : RY w y slots L) (k : Ky) {u now c : Int} (hN : L.length ≤ 65536) (hs : 1 ≤ slots ∧ slots ≤ 65536) (hw : whyNot slots L k u now c) : Calls Try.prog 11 #[.pointer (some ⟨y, 0, none⟩), kyV k, .int .i64 u, .int .i64 now] w (NoPost c w) := by
  have HFi := Lib.hid (fun V (hV : Below w.heap.size w V) => rfind_any (h.later hV) k hN)
  obtain ⟨A, cp, hy, ho⟩ := h
  obtain ⟨n, hn⟩ : ∃ n, n = L.length := ⟨_, rfl⟩
  rw [← hn] at hy hN
  have HN := Lib.hid hn
  have HY := Lib.hid (fun V (hV : Below w.heap.size w V) => (show V.cell? ⟨y, 1, none⟩ = some (.slice A n cp) ∧ V.cell? ⟨y, 0, none⟩ = some (.int .i64 slots) from ⟨cell_later hV (cell_of_row _ _ 1 _ _ _ hy), cell_later hV (cell_of_row _ _ 0 _ _ _ hy)⟩))
  clear hy ho hn
  obtain ⟨kj, ko, kg⟩ := k
  have HB1 := Lib.hid (below_alloc w (.cells #[.string kj, .int .i64 ko, .int .i64 kg] 32))
  rcases hw with ⟨h1, rfl⟩ | ⟨⟨h1, r, hr, hk⟩, rfl⟩ | ⟨⟨h1, h2, h3⟩, rfl⟩
  · go_enter Try.func11, Try.ntmps11
    go_wp2
    go_ret
    exact ⟨rfl, below_alloc _ _⟩
  · have hu : ¬ u ≤ now := by omega
    have HF2 : Hid (∀ idx, FindIs L ⟨kj, ko, kg⟩ idx → 0 ≤ idx) := Lib.hid (fun idx hf => by
      rcases hf with ⟨_, hno⟩ | ⟨i, hi, rfl, _⟩
      · exact absurd hk (hno r hr)
      · omega)
    clear hr hk
    go_enter Try.func11, Try.ntmps11
    go_wp2_with (go_at_call 18; refine Calls.mono (HFi.out _ HB1.out) ?_; rintro e w1 ⟨idx, rfl, hf, hb⟩; have hi0 := HF2.out idx hf; have HB2 := Lib.hid (HB1.out.trans (hb.mono (by simp))); clear hf hb)
    go_ret
    exact ⟨rfl, HB2.out⟩
  · have hu : ¬ u ≤ now := by omega
    have HF2 : Hid (∀ idx, FindIs L ⟨kj, ko, kg⟩ idx → idx = -1) := Lib.hid (fun idx hf => by
      rcases hf with ⟨h, _⟩ | ⟨i, hi, rfl, e⟩
      · exact h
      · exact absurd e (h2 _ (List.getElem_mem hi)))
    have h4 : decide (slots ≤ (n : Int)) = true := by rw [decide_eq_true_eq, HN.out]; exact h3
    clear h2 h3
    go_enter Try.func11, Try.ntmps11
    go_wp2_with (go_at_call 18; refine Calls.mono (HFi.out _ HB1.out) ?_; rintro e w1 ⟨idx, rfl, hf, hb⟩; have hi0 := HF2.out idx hf; have HB2 := Lib.hid (HB1.out.trans (hb.mono (by simp))); obtain ⟨y1, y0⟩ := HY.out _ HB2.out; subst hi0; clear hf hb)
    go_quiet (fail)
    go_wp2
    go_ret
    exact ⟨rfl, below_drewN HB2.out _⟩
end
end Go.Proofs.Ytkdfkhebjhnbmaa
