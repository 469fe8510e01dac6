/- The reference's queue: Set. -/
import Derived.Test.YtllkallodgbpmaaQrD
set_option linter.unusedSimpArgs false
set_option linter.unusedVariables false
namespace Go.Que
/-- A timer set in its place: behind all that are not later. -/
def insP (l : List (Int × Int)) (t : Int × Int) : List (Int × Int) := l.takeWhile (fun u => decide (u.1 ≤ t.1)) ++ t :: l.dropWhile (fun u => decide (u.1 ≤ t.1))
theorem while_at {l : List (Int × Int)} {p : Int × Int → Bool} {k : Nat} (hk : k ≤ l.length) (h : ∀ j (hj : j < l.length), j < k → p l[j] = true) (hs : ∀ hk' : k < l.length, p l[k] = false) :
    l.takeWhile p = l.take k ∧ l.dropWhile p = l.drop k := by
  induction l generalizing k with
  | nil => simp
  | cons a r ih =>
    cases k with
    | zero =>
      have h0 := hs (by simp)
      simp only [List.getElem_cons_zero] at h0
      simp [List.takeWhile_cons, List.dropWhile_cons, h0]
    | succ k =>
      have h0 := h 0 (by simp) (by omega)
      simp only [List.getElem_cons_zero] at h0
      obtain ⟨i1, i2⟩ := ih (k := k) (by simpa using hk) (fun j hj hjk => by have := h (j + 1) (by simpa using hj) (by omega); simpa using this) (fun hk' => by have := hs (by simpa using hk'); simpa using this)
      simp [List.takeWhile_cons, List.dropWhile_cons, h0, i1, i2]
theorem insP_at {l : List (Int × Int)} {t : Int × Int} {k : Nat} (hk : k ≤ l.length) (h : ∀ j (hj : j < l.length), j < k → l[j].1 ≤ t.1) (hs : ∀ hk' : k < l.length, ¬ l[k].1 ≤ t.1) : insP l t = l.take k ++ [t] ++ l.drop k := by
  obtain ⟨i1, i2⟩ := while_at (l := l) (p := fun u => decide (u.1 ≤ t.1)) hk (fun j hj hjk => by simpa using h j hj hjk) (fun hk' => by simpa using hs hk')
  unfold insP
  rw [i1, i2]; simp
theorem insP_len (l : List (Int × Int)) (t : Int × Int) : (insP l t).length = l.length + 1 := by
  unfold insP
  rw [List.length_append, List.length_cons]
  have := congrArg List.length (List.takeWhile_append_dropWhile (p := fun u : Int × Int => decide (u.1 ≤ t.1)) (l := l))
  rw [List.length_append] at this
  omega
end Go.Que
namespace Go.Proofs.Ytllkallodgbpmaa
open Go.Que
/-- Is there no room for it? -/
def fullB (l : List (Int × Int)) (id : Int) : Bool := !whenB l id && decide (65536 ≤ l.length)
def setT (l : List (Int × Int)) (id a : Int) : List (Int × Int) := if fullB l id = true then l else insP (dropP l id) (a, id)
def setE (l : List (Int × Int)) (id : Int) : Int := if fullB l id = true then 2 else 0
theorem dropP_room {l : List (Int × Int)} {id : Int} (hf : fullB l id = false) (hl : l.length ≤ 65536) : (dropP l id).length < 65536 := by
  unfold fullB at hf
  by_cases hw : whenB l id = true
  · have : ∃ t ∈ l, (t.2 == id) = true := by
      unfold whenB whenP at hw
      rw [Option.isSome_map, List.find?_isSome] at hw
      exact hw
    obtain ⟨t, ht, he⟩ := this
    unfold dropP
    have e := List.length_eraseP_of_mem (p := fun t : Int × Int => t.2 == id) ht he
    have := List.length_pos_of_mem ht
    omega
  · have hw : whenB l id = false := by simpa using hw
    rw [hw] at hf
    have := dropP_len l id
    simp at hf
    omega
end Go.Proofs.Ytllkallodgbpmaa
namespace Go.Proofs.Ytllkallodgbpmaa
open Go.ChangeShapes Go.WideShapes Go.ChangeAt Go.RowKit Go.Base Go.Que

section
variable {w w' : World} {F G : Nat → Prop} {x : Nat} {l : List (Int × Int)}
theorem own_addr {A : Option Addr} {n c : Nat} {xs : List Value} {V : World} (h : V.ownsRow 0 36 2 (.slice A n c) n xs) : (A = none → n = 0 ∧ c = 0) ∧ (∀ g, A = some g → ∃ b, g = ⟨b, 0, none⟩) := by
  rcases h.2 with ⟨hv, h0⟩ | ⟨g, cap, cur, hv, _, _, hn, _⟩
  · injection hv with e1 e2 e3
    exact ⟨fun _ => ⟨e2, e3⟩, fun g e => (by rw [e1] at e; cases e)⟩
  · injection hv with e1 e2 e3
    exact ⟨fun e => (by rw [e1] at e; cases e), fun a e => ⟨g, by rw [e1] at e; exact (Option.some.inj e).symm⟩⟩
set_option maxHeartbeats 4000000 in
set_option maxRecDepth 20000 in
theorem rset_any (h : RefQ w F x l) (id at_ : Int) : Calls Try.prog 10 #[.pointer (some ⟨x, 0, none⟩), .int .i64 id, .int .i64 at_] w (RPop F x (setT l id at_) (.int .i64 (setE l id)) w) := by
  have H := Lib.hid h
  obtain ⟨A, c, h1, h2, h3, h4, h5⟩ := h
  have c0 : w.cell? ⟨x, 0, none⟩ = some (.slice A l.length c) := cell_of_row _ _ 0 _ _ _ h1
  obtain ⟨n, hn⟩ : ∃ n, n = l.length := ⟨_, rfl⟩
  have HL5 := Lib.hid h5
  rw [← hn] at c0
  obtain ⟨i0, hinfo, hz0, hz1, hz2⟩ := info_parts (P := Try.prog) (e := 36) (z := .agg #[.int .i64 0, .int .i64 0]) (size := 2) (bytes := 16) (by kernel_rfl)
  clear h1 h2 h3 h4
  by_cases hf : fullB l id = true
  · have hb := hf
    unfold fullB at hb
    rw [Bool.and_eq_true] at hb
    have hw : whenB l id = false := by simpa using hb.1
    have hge : (65536 : Int) ≤ (n : Int) := by
      have := of_decide_eq_true hb.2
      omega
    have HR : Hid (setT l id at_ = l ∧ setE l id = 2) := Lib.hid ⟨if_pos hf, if_pos hf⟩
    clear hb hf hn h5
    go_enter Try.func10, Try.ntmps10
    go_wp2_with ((go_at_call 16; with_reducible refine (rwhen_any H.out id).mono ?_); rintro _ _ ⟨rfl, rfl⟩; try rw [hw])
    go_ret
    exact ⟨by rw [HR.out.2]; rfl, by rw [HR.out.1]; exact H.out.wide (fun k hk => .inl hk), Moved.refl _ _⟩
  · have hf : fullB l id = false := by simpa using hf
    have HR : Hid (setT l id at_ = insP (dropP l id) (at_, id) ∧ setE l id = 0) := Lib.hid ⟨if_neg (by simp [hf]), if_neg (by simp [hf])⟩
    have HR5 := Lib.hid (dropP_room hf h5)
    by_cases hw : whenB l id = true
    · clear hf hn h5
      go_enter Try.func10, Try.ntmps10
      go_wp2_with (first
        | ((go_at_call 16; with_reducible refine (rwhen_any H.out id).mono ?_); rintro _ _ ⟨rfl, rfl⟩; try rw [hw])
        | ((go_at_call 12; with_reducible refine (rdrop_any H.out id).mono ?_); rintro _ w2 ⟨rfl, hR2, hM2⟩; have HR2 := Lib.hid hR2; have HM2 := Lib.hid hM2; clear hR2 hM2))
      obtain ⟨F2, hF2⟩ : ∃ F2 : Nat → Prop, F2 = (fun k => F k ∨ w.heap.size ≤ k) := ⟨_, rfl⟩
      have HF : Hid (∀ (w3 : World) (D : List (Int × Int)), RefQ w3 (fun k => F2 k ∨ w2.heap.size ≤ k) x (insP (dropP l id) (at_, id)) ∧ Moved F2 w2 w3 → RPop F x (setT l id at_) (.int .i64 (setE l id)) w (.returned (.int .i64 0)) w3) := Lib.hid (fun w3 _ hE => by
        subst hF2
        refine ⟨by rw [HR.out.2], ?_, HM2.out.trans hE.2 (fun k hk h => h.resolve_right (by omega))⟩
        rw [HR.out.1]
        exact hE.1.wide (fun k hk => hk.elim (fun h => h) (fun h => .inr (Nat.le_trans HM2.out.size h))))
      rw [← hF2] at HR2
      clear hF2
      obtain ⟨d, hd⟩ : ∃ d, d = dropP l id := ⟨_, rfl⟩
      rw [← hd] at HR2 HF HR5
      have HF := Lib.hid (fun w3 => HF.out w3 d)
      clear hd c0
      obtain ⟨A2, c2, q1, q2, q3, q4, q5⟩ := HR2.out
      have c1 : w2.cell? ⟨x, 0, none⟩ = some (.slice A2 d.length c2) := cell_of_row _ _ 0 _ _ _ q1
      have hx : x < w2.heap.size := heap_lt q1
      have hfz : w2.frozen? ⟨x, 0, none⟩ = false := (cells_of_heap q1).2 0
      have Q1 := Lib.hid q1
      have Q2 := Lib.hid q2
      have Q3 := Lib.hid q3
      have hcn : d.length ≤ c2 := by
        obtain ⟨A', cap, hv, hc, _⟩ := own_form q2
        injection hv with _ _ hv
        omega
      obtain ⟨m, hm⟩ : ∃ m, m = d.length := ⟨_, rfl⟩
      have HM := Lib.hid hm
      have hm5 : m ≤ 65535 := by have := HR5.out; omega
      rw [← hm] at c1 hcn
      clear q1 q2 q3 q4 q5 hm
      go_loop [9] (fun iv => ∃ k : Nat, k ≤ m ∧ iv = .int .i64 (k : Int) ∧ Hid (∀ j (hj : j < d.length), j < k → d[j].1 ≤ at_)) (fun iv => m - (intOf iv).toNat)
      case atStart => exact ⟨0, Nat.zero_le _, rfl, Lib.hid (fun j hj h => by omega)⟩
      case round =>
        obtain ⟨k, hk, rfl, HK⟩ := hrel
        by_cases hlt : k < m
        · have hlt2 : (k : Int) < (m : Int) := by omega
          have hkl : k < d.length := by rw [← HM.out]; exact hlt
          obtain ⟨g, rfl, e0, e1⟩ := ref_at Q2.out hkl
          obtain ⟨y, hy⟩ : ∃ y, y = d[k].1 := ⟨_, rfl⟩
          rw [← hy] at e0
          clear e1
          by_cases he : y ≤ at_
          · have HNx : Hid (∀ j (hj : j < d.length), j < k + 1 → d[j].1 ≤ at_) := Lib.hid (fun j hj h => by
              by_cases e : j = k
              · subst e; rw [← hy]; exact he
              · exact HK.out j hj (by omega))
            clear hy hkl
            go_wp2
            go_round
            case rel => exact ⟨k + 1, by omega, by go_num, HNx⟩
            case measure => simp [intOf]; omega
          · have HD := Lib.hid (insP_at (l := d) (t := (at_, id)) (k := k) (by omega) HK.out (fun _ => by rw [← hy]; exact he))
            have HS1 : Hid (∀ V, Below w2.heap.size w2 V → 0 < k → ∃ ad, (some ⟨g, 0, none⟩ : Option Addr) = some ad ∧ ∀ j u, (cellsT (d.take k))[j]? = some u → V.cell? (ad.add j) = some u) := Lib.hid (fun V hV h0 => by
              obtain ⟨g', eg, hs⟩ := ref_src (lo := 0) (hi := k) (own_moved (p := fun _ => False) Q2.out (Below.movedNew hV) (fun _ _ h => h)) (by have := HM.out; omega) (by omega) (by omega)
              injection eg with eg; injection eg with eg; subst eg
              exact ⟨_, rfl, by simpa using hs⟩)
            have HL1 : Hid ((cellsT (d.take k)).length = k * 2) := Lib.hid (by rw [cellsT_len, List.length_take, Nat.min_eq_left (by have := HM.out; omega)])
            have HS2 : Hid (∀ V, Below w2.heap.size w2 V → 0 < m - k → ∃ ad, (some ⟨g, k * 2, none⟩ : Option Addr) = some ad ∧ ∀ j u, (cellsT (d.drop k))[j]? = some u → V.cell? (ad.add j) = some u) := Lib.hid (fun V hV h0 => by
              obtain ⟨g', eg, hs⟩ := ref_src (lo := k) (hi := d.length) (own_moved (p := fun _ => False) Q2.out (Below.movedNew hV) (fun _ _ h => h)) (by omega) (by omega) (by have := HM.out; omega)
              injection eg with eg; injection eg with eg; subst eg
              exact ⟨_, rfl, by simpa using hs⟩)
            have HL2 : Hid ((cellsT (d.drop k)).length = (m - k) * 2) := Lib.hid (by rw [cellsT_len, List.length_drop, ← HM.out])
            have hkz : (0 : Int) ≤ (k : Int) := by omega
            have hkb : (k : Int) ≤ 65536 := by omega
            have hkc : k ≤ c2 := by omega
            have hkc2 : (k : Int) ≤ (c2 : Int) := by omega
            have HSt : Hid (∀ V, Below w2.heap.size w2 V → V.cell? ⟨x, 0, none⟩ = some (.slice (some ⟨g, 0, none⟩) m c2) ∧ V.frozen? ⟨x, 0, none⟩ = false) := Lib.hid (fun V hV => ⟨cell_later hV c1, by rw [hV.frozen (p := ⟨x, 0, none⟩) hx]; exact hfz⟩)
            have hkm : (k : Int) ≤ (m : Int) := by omega
            have hckk : ¬ c2 = k := by omega
            clear hy hkl
            go_wp2_with fail
            have HBA : Hid (Below w2.heap.size w2 (w2.alloc (.cells #[] 36)).drew) := Lib.hid (below_alloc _ _).drew
            have HBB : Hid (Below w2.heap.size w2 ((w2.alloc (.cells #[] 36)).alloc (.cells #[.int .i64 at_, .int .i64 id] 36)).drew) := Lib.hid (((below_alloc _ _).alloc (by simp) _).drew)
            have HBC : Hid (Below w2.heap.size w2 (w2.alloc (.cells #[.int .i64 at_, .int .i64 id] 36)).drew) := Lib.hid (below_alloc _ _).drew
            have HBD : Hid (Below w2.heap.size w2 ((w2.alloc (.cells #[.int .i64 at_, .int .i64 id] 36)).alloc (.cells #[] 36)).drew) := Lib.hid (((below_alloc _ _).alloc (by simp) _).drew)
            have HOA : Hid (((w2.alloc (.cells #[] 36)).drew).ownsRow w2.heap.size 36 2 (.slice (some ⟨w2.heap.size, 0, none⟩) 0 0) 0 []) := Lib.hid (World.ownsRow_made w2 #[] 0 (Nat.le_refl _) (Nat.zero_le _) rfl)
            have HOB : Hid ((((w2.alloc (.cells #[] 36)).alloc (.cells #[.int .i64 at_, .int .i64 id] 36)).drew).ownsRow w2.heap.size 36 2 (.slice (some ⟨w2.heap.size, 0, none⟩) 0 0) 0 []) := Lib.hid (own_moved (p := fun _ => False) HOA.out (Below.movedNew (below_alloc _ _)) (fun _ _ h => h))
            have hod : ((w2.alloc (.cells #[.int .i64 at_, .int .i64 id] 36)).alloc (.cells #[] 36)).ownsRow w2.heap.size 36 2 (.slice (some ⟨w2.heap.size + 1, 0, none⟩) 0 0) 0 [] := by have h9 := World.ownsRow_made (base := w2.heap.size) (w2.alloc (.cells #[.int .i64 at_, .int .i64 id] 36)) #[] 0 (by simp) (Nat.zero_le _) rfl (e := 36) (size := 2); simpa using h9
            have HOD : Hid ((((w2.alloc (.cells #[.int .i64 at_, .int .i64 id] 36)).alloc (.cells #[] 36)).drew).ownsRow w2.heap.size 36 2 (.slice (some ⟨w2.heap.size + 1, 0, none⟩) 0 0) 0 []) := Lib.hid hod
            clear hod
            have htb : ((w2.alloc (.cells #[] 36)).alloc (.cells #[.int .i64 at_, .int .i64 id] 36)).heap[w2.heap.size + 1]? = some (.cells #[.int .i64 at_, .int .i64 id] 36 (0, 0)) := by have h9 := heap_new (w2.alloc (.cells #[] 36)) (.cells #[.int .i64 at_, .int .i64 id] 36); rw [show (w2.alloc (.cells #[] 36)).heap.size = w2.heap.size + 1 from by simp] at h9; exact h9
            have HTB : Hid ((((w2.alloc (.cells #[] 36)).alloc (.cells #[.int .i64 at_, .int .i64 id] 36)).drew).heap[w2.heap.size + 1]? = some (.cells #[.int .i64 at_, .int .i64 id] 36 (0, 0))) := Lib.hid htb
            clear htb
            have HTD : Hid ((((w2.alloc (.cells #[.int .i64 at_, .int .i64 id] 36)).alloc (.cells #[] 36)).drew).heap[w2.heap.size]? = some (.cells #[.int .i64 at_, .int .i64 id] 36 (0, 0))) := Lib.hid (((below_alloc (w2.alloc (.cells #[.int .i64 at_, .int .i64 id] 36)) (.cells #[] 36)).block _ (by simp)).trans (heap_new w2 (.cells #[.int .i64 at_, .int .i64 id] 36)))
            refine wp_region_heldz_drew (S := (fun w' => Below w2.heap.size w2 w')) 23 (by kernel_rfl) (Below.refl _ _).drew (fun hHeld => ?_)
            refine wpAnyZ_take (i := 0) (v := ?vv1) rfl (by kernel_rfl) (by kernel_rfl) (by kernel_rfl) (fun _ _ _ h => h) (Or.inl ⟨by rfl, ?hy1⟩) hHeld ?rr1
            case hy1 => (intro w' hSw; obtain ⟨g0, g1⟩ := HSt.out _ hSw; go_simp; try with_reducible rfl)
            try simp only [Act.put, List.setIfInBounds_toArray, List.set_cons_zero, List.set_cons_succ, List.getElem_toArray, List.getElem_cons_succ, List.getElem_cons_zero]
            refine wpAnyZ_take (i := 2) (v := ?vv2) rfl (by kernel_rfl) (by kernel_rfl) (by kernel_rfl) (fun _ _ _ h => h) (Or.inl ⟨by rfl, ?hy2⟩) hHeld ?rr2
            case hy2 => (intro w' hSw; obtain ⟨g0, g1⟩ := HSt.out _ hSw; go_simp; try with_reducible rfl)
            try simp only [Act.put, List.setIfInBounds_toArray, List.set_cons_zero, List.set_cons_succ, List.getElem_toArray, List.getElem_cons_succ, List.getElem_cons_zero]
            refine wpAnyZ_take (i := 3) (v := ?vv3) rfl (by kernel_rfl) (by kernel_rfl) (by kernel_rfl) (fun _ _ _ h => h) (Or.inl ⟨by rfl, ?hy3⟩) hHeld ?rr3
            case hy3 => (intro w' hSw; obtain ⟨g0, g1⟩ := HSt.out _ hSw; go_simp; try with_reducible rfl)
            try simp only [Act.put, List.setIfInBounds_toArray, List.set_cons_zero, List.set_cons_succ, List.getElem_toArray, List.getElem_cons_succ, List.getElem_cons_zero]
            refine wpAnyZ_take (i := 4) (v := ?vv4) rfl (by kernel_rfl) (by kernel_rfl) (by kernel_rfl) (fun _ _ _ h => h) (Or.inl ⟨by rfl, ?hy4⟩) hHeld ?rr4
            case hy4 => (intro w' hSw; obtain ⟨g0, g1⟩ := HSt.out _ hSw; go_simp; try with_reducible rfl)
            try simp only [Act.put, List.setIfInBounds_toArray, List.set_cons_zero, List.set_cons_succ, List.getElem_toArray, List.getElem_cons_succ, List.getElem_cons_zero]
            refine wpAnyZ_take (i := 5) (v := ?vv5) rfl (by kernel_rfl) (by kernel_rfl) (by kernel_rfl) (fun _ _ _ h => h) (Or.inl ⟨by rfl, ?hy5⟩) hHeld ?rr5
            case hy5 => (intro w' hSw; obtain ⟨g0, g1⟩ := HSt.out _ hSw; go_simp; try with_reducible rfl)
            try simp only [Act.put, List.setIfInBounds_toArray, List.set_cons_zero, List.set_cons_succ, List.getElem_toArray, List.getElem_cons_succ, List.getElem_cons_zero]
            refine wpAnyZ_take (i := 6) (v := ?vv6) rfl (by kernel_rfl) (by kernel_rfl) (by kernel_rfl) (fun _ _ _ h => h) (Or.inl ⟨by rfl, ?hy6⟩) hHeld ?rr6
            case hy6 => (intro w' hSw; obtain ⟨g0, g1⟩ := HSt.out _ hSw; go_simp; try with_reducible rfl)
            try simp only [Act.put, List.setIfInBounds_toArray, List.set_cons_zero, List.set_cons_succ, List.getElem_toArray, List.getElem_cons_succ, List.getElem_cons_zero]
            refine wpAnyZ_take (i := 7) (v := ?vv7) rfl (by kernel_rfl) (by kernel_rfl) (by kernel_rfl) (fun _ _ _ h => h) (Or.inl ⟨by rfl, ?hy7⟩) hHeld ?rr7
            case hy7 => (intro w' hSw; obtain ⟨g0, g1⟩ := HSt.out _ hSw; go_simp; try with_reducible rfl)
            try simp only [Act.put, List.setIfInBounds_toArray, List.set_cons_zero, List.set_cons_succ, List.getElem_toArray, List.getElem_cons_succ, List.getElem_cons_zero]
            refine wpAnyZ_take (i := 9) (v := ?vv8) rfl (by kernel_rfl) (by kernel_rfl) (by kernel_rfl) (fun _ _ _ h => h) (Or.inl ⟨by rfl, ?hy8⟩) hHeld ?rr8
            case hy8 => (intro w' hSw; obtain ⟨g0, g1⟩ := HSt.out _ hSw; go_simp; try with_reducible rfl)
            try simp only [Act.put, List.setIfInBounds_toArray, List.set_cons_zero, List.set_cons_succ, List.getElem_toArray, List.getElem_cons_succ, List.getElem_cons_zero]
            refine wpAnyZ_take (i := 10) (v := ?vv9) rfl (by kernel_rfl) (by kernel_rfl) (by kernel_rfl) (fun _ _ _ h => h) (Or.inl ⟨by rfl, ?hy9⟩) hHeld ?rr9
            case hy9 => (intro w' hSw; obtain ⟨g0, g1⟩ := HSt.out _ hSw; go_simp; try with_reducible rfl)
            try simp only [Act.put, List.setIfInBounds_toArray, List.set_cons_zero, List.set_cons_succ, List.getElem_toArray, List.getElem_cons_succ, List.getElem_cons_zero]
            refine wpAnyZ_take (i := 11) (v := ?vv10) rfl (by kernel_rfl) (by kernel_rfl) (by kernel_rfl) (fun _ _ _ h => h) (Or.inl ⟨by rfl, ?hy10⟩) hHeld ?rr10
            case hy10 => (intro w' hSw; obtain ⟨g0, g1⟩ := HSt.out _ hSw; go_simp; try with_reducible rfl)
            try simp only [Act.put, List.setIfInBounds_toArray, List.set_cons_zero, List.set_cons_succ, List.getElem_toArray, List.getElem_cons_succ, List.getElem_cons_zero]
            refine wpAnyZ_take (i := 14) (v := ?vv11) rfl (by kernel_rfl) (by kernel_rfl) (by kernel_rfl) (fun _ _ _ h => h) (Or.inl ⟨by rfl, ?hy11⟩) hHeld ?rr11
            case hy11 => (intro w' hSw; obtain ⟨g0, g1⟩ := HSt.out _ hSw; go_simp; try with_reducible rfl)
            try simp only [Act.put, List.setIfInBounds_toArray, List.set_cons_zero, List.set_cons_succ, List.getElem_toArray, List.getElem_cons_succ, List.getElem_cons_zero]
            refine wpAnyZ_take (i := 15) (v := ?vv12) rfl (by kernel_rfl) (by kernel_rfl) (by kernel_rfl) (fun _ _ _ h => h) (Or.inl ⟨by rfl, ?hy12⟩) hHeld ?rr12
            case hy12 => (intro w' hSw; obtain ⟨g0, g1⟩ := HSt.out _ hSw; go_simp; try with_reducible rfl)
            try simp only [Act.put, List.setIfInBounds_toArray, List.set_cons_zero, List.set_cons_succ, List.getElem_toArray, List.getElem_cons_succ, List.getElem_cons_zero]
            refine wpAnyZ_take (i := 16) (v := ?vv13) rfl (by kernel_rfl) (by kernel_rfl) (by kernel_rfl) (fun _ _ _ h => h) (Or.inl ⟨by rfl, ?hy13⟩) hHeld ?rr13
            case hy13 => (intro w' hSw; obtain ⟨g0, g1⟩ := HSt.out _ hSw; go_simp; try with_reducible rfl)
            try simp only [Act.put, List.setIfInBounds_toArray, List.set_cons_zero, List.set_cons_succ, List.getElem_toArray, List.getElem_cons_succ, List.getElem_cons_zero]
            refine wpAnyZ_take (i := 17) (v := ?vv14) rfl (by kernel_rfl) (by kernel_rfl) (by kernel_rfl) (fun _ _ _ h => h) (Or.inl ⟨by rfl, ?hy14⟩) hHeld ?rr14
            case hy14 => (intro w' hSw; obtain ⟨g0, g1⟩ := HSt.out _ hSw; go_simp; try with_reducible rfl)
            try simp only [Act.put, List.setIfInBounds_toArray, List.set_cons_zero, List.set_cons_succ, List.getElem_toArray, List.getElem_cons_succ, List.getElem_cons_zero]
            refine wpAnyZ_take (i := 18) (v := ?vv15) rfl (by kernel_rfl) (by kernel_rfl) (by kernel_rfl) (fun _ _ _ h => h) (Or.inl ⟨by rfl, ?hy15⟩) hHeld ?rr15
            case hy15 => (intro w' hSw; obtain ⟨g0, g1⟩ := HSt.out _ hSw; go_simp; try with_reducible rfl)
            try simp only [Act.put, List.setIfInBounds_toArray, List.set_cons_zero, List.set_cons_succ, List.getElem_toArray, List.getElem_cons_succ, List.getElem_cons_zero]
            refine wpAnyZ_take (i := 19) (v := ?vv16) rfl (by kernel_rfl) (by kernel_rfl) (by kernel_rfl) (fun _ _ _ h => h) (Or.inl ⟨by rfl, ?hy16⟩) hHeld ?rr16
            case hy16 => (intro w' hSw; obtain ⟨g0, g1⟩ := HSt.out _ hSw; go_simp; try with_reducible rfl)
            try simp only [Act.put, List.setIfInBounds_toArray, List.set_cons_zero, List.set_cons_succ, List.getElem_toArray, List.getElem_cons_succ, List.getElem_cons_zero]
            refine wpAnyZ_ready (rs := [1, 12]) (by kernel_rfl) (by simp) ?_
            refine AllReadyZ.cons rfl (fun K hK => ?_) (AllReadyZ.cons rfl (fun K hK => ?_) AllReadyZ.nil)
            · try rw [if_pos (by rfl)]
              go_simp
              refine hK.out _ _ HBA.out (fun hHeld2 => ?_)
              clear hK K hHeld
              have hHeld := hHeld2
              clear hHeld2
              try simp only [Act.put, List.setIfInBounds_toArray, List.set_cons_zero, List.set_cons_succ, List.getElem_toArray, List.getElem_cons_succ, List.getElem_cons_zero]
              refine wpAnyZ_ready (rs := [8, 12]) (by kernel_rfl) (by simp) ?_
              refine AllReadyZ.cons rfl (fun K hK => ?_) (AllReadyZ.cons rfl (fun K hK => ?_) AllReadyZ.nil)
              · try rw [if_pos (by rfl)]
                refine oper_append_k _ (.tmp 51) (.tmp 57) 26 rfl 36 i0 (.agg #[.int .i64 0, .int .i64 0]) 2 16 Try.underlying26 hinfo hz0 hz1 hz2 rfl (by decide) w2.heap.size (.slice (some ⟨w2.heap.size, 0, none⟩) 0 0) 0 [] rfl HOA.out (some ⟨g, 0, none⟩) k c2 (cellsT (d.take k)) rfl HL1.out (HS1.out _ HBA.out) (cellsT_one _) (by unfold maxLen; omega) (by omega) HBA.out.size ?_
                intro A5 c5 w5 hown5 hgrow5 _
                simp only [Nat.zero_add, Nat.add_zero] at hown5 ⊢
                have HO5 : Hid (w5.ownsRow w2.heap.size 36 2 (.slice A5 k c5) k (cellsT (d.take k))) := Lib.hid (by simpa using hown5)
                have HB5 : Hid (Below w2.heap.size w2 w5) := Lib.hid (HBA.out.grown hgrow5 HBA.out.size (fun k e => (HOA.out.lt k e).1))
                clear hown5 hgrow5
                refine hK.out _ _ HB5.out (fun hHeld2 => ?_)
                clear hK K hHeld
                have hHeld := hHeld2
                clear hHeld2
                try simp only [Act.put, List.setIfInBounds_toArray, List.set_cons_zero, List.set_cons_succ, List.getElem_toArray, List.getElem_cons_succ, List.getElem_cons_zero]
                refine wpAnyZ_ready (rs := [12]) (by kernel_rfl) (by simp) ?_
                refine AllReadyZ.cons rfl (fun K hK => ?_) AllReadyZ.nil
                try rw [if_pos (by rfl)]
                go_simp
                have HO5a := Lib.hid (own_moved (p := fun _ => False) HO5.out (Below.movedNew (below_alloc w5 (.cells #[.int .i64 at_, .int .i64 id] 36))) (fun _ _ h => h))
                have HB5a := Lib.hid (HB5.out.alloc HB5.out.size (.cells #[.int .i64 at_, .int .i64 id] 36))
                have HT5a := Lib.hid (heap_new w5 (.cells #[.int .i64 at_, .int .i64 id] 36))
                refine hK.out _ _ HB5a.out (fun hHeld2 => ?_)
                clear hK K hHeld
                have hHeld := hHeld2
                clear hHeld2
                try simp only [Act.put, List.setIfInBounds_toArray, List.set_cons_zero, List.set_cons_succ, List.getElem_toArray, List.getElem_cons_succ, List.getElem_cons_zero]
                refine wpAnyZ_ready (rs := [13]) (by kernel_rfl) (by simp) ?_
                refine AllReadyZ.cons rfl (fun K hK => ?_) AllReadyZ.nil
                try rw [if_pos (by rfl)]
                refine oper_append_k _ (.tmp 58) (.tmp 62) 26 rfl 36 i0 (.agg #[.int .i64 0, .int .i64 0]) 2 16 Try.underlying26 hinfo hz0 hz1 hz2 rfl (by decide) w2.heap.size (.slice A5 k c5) k (cellsT (d.take k)) rfl HO5a.out (some ⟨w5.heap.size, 0, none⟩) 1 1 [.int .i64 at_, .int .i64 id] rfl rfl (fun _ => ⟨_, rfl, cells_add HT5a.out⟩) (fun u hu => by simp at hu; rcases hu with rfl | rfl <;> rfl) (by unfold maxLen; omega) (by omega) HB5a.out.size ?_
                intro A6 c6 w6 hown6 hgrow6 _
                try simp only [Nat.zero_add, Nat.add_zero] at hown6 ⊢
                have HO6 := Lib.hid hown6
                have HB6 : Hid (Below w2.heap.size w2 w6) := Lib.hid (HB5a.out.grown hgrow6 HB5a.out.size (fun k e => (HO5a.out.lt k e).1))
                clear hown6 hgrow6
                refine hK.out _ _ HB6.out (fun hHeld2 => ?_)
                clear hK K hHeld
                have hHeld := hHeld2
                clear hHeld2
                try simp only [Act.put, List.setIfInBounds_toArray, List.set_cons_zero, List.set_cons_succ, List.getElem_toArray, List.getElem_cons_succ, List.getElem_cons_zero]
                refine wpAnyZ_ready (rs := [20]) (by kernel_rfl) (by simp) ?_
                refine AllReadyZ.cons rfl (fun K hK => ?_) AllReadyZ.nil
                try rw [if_pos (by rfl)]
                refine oper_append_k _ (.tmp 63) (.tmp 69) 26 rfl 36 i0 (.agg #[.int .i64 0, .int .i64 0]) 2 16 Try.underlying26 hinfo hz0 hz1 hz2 rfl (by decide) w2.heap.size (.slice A6 (k + 1) c6) (k + 1) _ rfl HO6.out (some ⟨g, k * 2, none⟩) (m - k) (c2 - k) (cellsT (d.drop k)) rfl HL2.out (HS2.out _ HB6.out) (cellsT_one _) (by unfold maxLen; omega) (by omega) HB6.out.size ?_
                intro A7 c7 w7 hown7 hgrow7 _
                try simp only [Nat.zero_add, Nat.add_zero] at hown7 ⊢
                have HO7 := Lib.hid hown7
                have HB7 : Hid (Below w2.heap.size w2 w7) := Lib.hid (HB6.out.grown hgrow7 HB6.out.size (fun k e => (HO6.out.lt k e).1))
                clear hown7 hgrow7
                obtain ⟨b0, b1⟩ := HSt.out _ HB7.out
                refine hK.out _ _ HB7.out (fun hHeld2 => ?_)
                clear hK K hHeld
                have hHeld := hHeld2
                clear hHeld2
                try simp only [Act.put, List.setIfInBounds_toArray, List.set_cons_zero, List.set_cons_succ, List.getElem_toArray, List.getElem_cons_succ, List.getElem_cons_zero]
                refine wpAnyZ_ready (rs := [21]) (by kernel_rfl) (by simp) ?_
                refine AllReadyZ.cons rfl (fun K hK => ?_) AllReadyZ.nil
                try rw [if_pos (by rfl)]
                go_simp
                refine hK.out _ _ HB7.out (fun hHeld2 => ?_)
                clear hK K hHeld
                have hHeld := hHeld2
                clear hHeld2
                try simp only [Act.put, List.setIfInBounds_toArray, List.set_cons_zero, List.set_cons_succ, List.getElem_toArray, List.getElem_cons_succ, List.getElem_cons_zero]
                refine wpAnyZ_take (i := 22) (v := ?vv17) rfl (by kernel_rfl) (by kernel_rfl) (by kernel_rfl) (fun _ _ _ h => h) (Or.inl ⟨by rfl, ?hy17⟩) hHeld ?rr17
                case hy17 => (intro w' hSw; obtain ⟨g0, g1⟩ := HSt.out _ hSw; go_simp; try with_reducible rfl)
                try simp only [Act.put, List.setIfInBounds_toArray, List.set_cons_zero, List.set_cons_succ, List.getElem_toArray, List.getElem_cons_succ, List.getElem_cons_zero]
                refine wpAnyZ_ready (rs := [23]) (by kernel_rfl) (by simp) ?_
                refine AllReadyZ.last rfl (fun K hK => ?_)
                try rw [if_pos (by rfl)]
                go_simp
                refine hK.out _ _ ?_
                clear hK K hHeld
                try simp only [Act.put, List.setIfInBounds_toArray, List.set_cons_zero, List.set_cons_succ, List.getElem_toArray, List.getElem_cons_succ, List.getElem_cons_zero]
                refine wpAnyZ_done (by kernel_rfl) ?_ _
                have hln : (insP d (at_, id)).length = k + 1 + (m - k) := by rw [insP_len]; have := HM.out; omega
                have HE : Hid (RefQ (w7.setCell ⟨x, 0, none⟩ (.slice A7 (k + 1 + (m - k)) c7)) (fun k => F2 k ∨ w2.heap.size ≤ k) x (insP d (at_, id)) ∧ Moved F2 w2 (w7.setCell ⟨x, 0, none⟩ (.slice A7 (k + 1 + (m - k)) c7))) := Lib.hid (by
                  have := ref_end (l' := insP d (at_, id)) (A5 := A7) (c5 := c7) Q1.out Q3.out HB7.out (by rw [hln, HD.out, cellsT_app, cellsT_app]; simpa [cellsT] using HO7.out) (by rw [hln]; omega)
                  rw [hln] at this; exact this)
                clear hln
                go_wp2
                go_ret
                exact HF.out _ HE.out
              · try rw [if_pos (by rfl)]
                go_simp
                refine hK.out _ _ HBB.out (fun hHeld2 => ?_)
                clear hK K hHeld
                have hHeld := hHeld2
                clear hHeld2
                try simp only [Act.put, List.setIfInBounds_toArray, List.set_cons_zero, List.set_cons_succ, List.getElem_toArray, List.getElem_cons_succ, List.getElem_cons_zero]
                refine wpAnyZ_ready (rs := [8]) (by kernel_rfl) (by simp) ?_
                refine AllReadyZ.cons rfl (fun K hK => ?_) AllReadyZ.nil
                try rw [if_pos (by rfl)]
                refine oper_append_k _ (.tmp 51) (.tmp 57) 26 rfl 36 i0 (.agg #[.int .i64 0, .int .i64 0]) 2 16 Try.underlying26 hinfo hz0 hz1 hz2 rfl (by decide) w2.heap.size (.slice (some ⟨w2.heap.size, 0, none⟩) 0 0) 0 [] rfl HOB.out (some ⟨g, 0, none⟩) k c2 (cellsT (d.take k)) rfl HL1.out (HS1.out _ HBB.out) (cellsT_one _) (by unfold maxLen; omega) (by omega) HBB.out.size ?_
                intro A5 c5 w5 hown5 hgrow5 _
                simp only [Nat.zero_add, Nat.add_zero] at hown5 ⊢
                have HO5 : Hid (w5.ownsRow w2.heap.size 36 2 (.slice A5 k c5) k (cellsT (d.take k))) := Lib.hid (by simpa using hown5)
                have HB5 : Hid (Below w2.heap.size w2 w5) := Lib.hid (HBB.out.grown hgrow5 HBB.out.size (fun k e => (HOB.out.lt k e).1))
                have HT5 := Lib.hid ((hgrow5.block (w2.heap.size + 1) (heap_lt HTB.out) (fun e => by have e : w2.heap.size + 1 = w2.heap.size := Option.some.inj e; omega)).trans HTB.out)
                clear hown5 hgrow5
                refine hK.out _ _ HB5.out (fun hHeld2 => ?_)
                clear hK K hHeld
                have hHeld := hHeld2
                clear hHeld2
                try simp only [Act.put, List.setIfInBounds_toArray, List.set_cons_zero, List.set_cons_succ, List.getElem_toArray, List.getElem_cons_succ, List.getElem_cons_zero]
                refine wpAnyZ_ready (rs := [13]) (by kernel_rfl) (by simp) ?_
                refine AllReadyZ.cons rfl (fun K hK => ?_) AllReadyZ.nil
                try rw [if_pos (by rfl)]
                refine oper_append_k _ (.tmp 58) (.tmp 62) 26 rfl 36 i0 (.agg #[.int .i64 0, .int .i64 0]) 2 16 Try.underlying26 hinfo hz0 hz1 hz2 rfl (by decide) w2.heap.size (.slice A5 k c5) k (cellsT (d.take k)) rfl HO5.out (some ⟨w2.heap.size + 1, 0, none⟩) 1 1 [.int .i64 at_, .int .i64 id] rfl rfl (fun _ => ⟨_, rfl, cells_add HT5.out⟩) (fun u hu => by simp at hu; rcases hu with rfl | rfl <;> rfl) (by unfold maxLen; omega) (by omega) HB5.out.size ?_
                intro A6 c6 w6 hown6 hgrow6 _
                try simp only [Nat.zero_add, Nat.add_zero] at hown6 ⊢
                have HO6 := Lib.hid hown6
                have HB6 : Hid (Below w2.heap.size w2 w6) := Lib.hid (HB5.out.grown hgrow6 HB5.out.size (fun k e => (HO5.out.lt k e).1))
                clear hown6 hgrow6
                refine hK.out _ _ HB6.out (fun hHeld2 => ?_)
                clear hK K hHeld
                have hHeld := hHeld2
                clear hHeld2
                try simp only [Act.put, List.setIfInBounds_toArray, List.set_cons_zero, List.set_cons_succ, List.getElem_toArray, List.getElem_cons_succ, List.getElem_cons_zero]
                refine wpAnyZ_ready (rs := [20]) (by kernel_rfl) (by simp) ?_
                refine AllReadyZ.cons rfl (fun K hK => ?_) AllReadyZ.nil
                try rw [if_pos (by rfl)]
                refine oper_append_k _ (.tmp 63) (.tmp 69) 26 rfl 36 i0 (.agg #[.int .i64 0, .int .i64 0]) 2 16 Try.underlying26 hinfo hz0 hz1 hz2 rfl (by decide) w2.heap.size (.slice A6 (k + 1) c6) (k + 1) _ rfl HO6.out (some ⟨g, k * 2, none⟩) (m - k) (c2 - k) (cellsT (d.drop k)) rfl HL2.out (HS2.out _ HB6.out) (cellsT_one _) (by unfold maxLen; omega) (by omega) HB6.out.size ?_
                intro A7 c7 w7 hown7 hgrow7 _
                try simp only [Nat.zero_add, Nat.add_zero] at hown7 ⊢
                have HO7 := Lib.hid hown7
                have HB7 : Hid (Below w2.heap.size w2 w7) := Lib.hid (HB6.out.grown hgrow7 HB6.out.size (fun k e => (HO6.out.lt k e).1))
                clear hown7 hgrow7
                obtain ⟨b0, b1⟩ := HSt.out _ HB7.out
                refine hK.out _ _ HB7.out (fun hHeld2 => ?_)
                clear hK K hHeld
                have hHeld := hHeld2
                clear hHeld2
                try simp only [Act.put, List.setIfInBounds_toArray, List.set_cons_zero, List.set_cons_succ, List.getElem_toArray, List.getElem_cons_succ, List.getElem_cons_zero]
                refine wpAnyZ_ready (rs := [21]) (by kernel_rfl) (by simp) ?_
                refine AllReadyZ.cons rfl (fun K hK => ?_) AllReadyZ.nil
                try rw [if_pos (by rfl)]
                go_simp
                refine hK.out _ _ HB7.out (fun hHeld2 => ?_)
                clear hK K hHeld
                have hHeld := hHeld2
                clear hHeld2
                try simp only [Act.put, List.setIfInBounds_toArray, List.set_cons_zero, List.set_cons_succ, List.getElem_toArray, List.getElem_cons_succ, List.getElem_cons_zero]
                refine wpAnyZ_take (i := 22) (v := ?vv18) rfl (by kernel_rfl) (by kernel_rfl) (by kernel_rfl) (fun _ _ _ h => h) (Or.inl ⟨by rfl, ?hy18⟩) hHeld ?rr18
                case hy18 => (intro w' hSw; obtain ⟨g0, g1⟩ := HSt.out _ hSw; go_simp; try with_reducible rfl)
                try simp only [Act.put, List.setIfInBounds_toArray, List.set_cons_zero, List.set_cons_succ, List.getElem_toArray, List.getElem_cons_succ, List.getElem_cons_zero]
                refine wpAnyZ_ready (rs := [23]) (by kernel_rfl) (by simp) ?_
                refine AllReadyZ.last rfl (fun K hK => ?_)
                try rw [if_pos (by rfl)]
                go_simp
                refine hK.out _ _ ?_
                clear hK K hHeld
                try simp only [Act.put, List.setIfInBounds_toArray, List.set_cons_zero, List.set_cons_succ, List.getElem_toArray, List.getElem_cons_succ, List.getElem_cons_zero]
                refine wpAnyZ_done (by kernel_rfl) ?_ _
                have hln : (insP d (at_, id)).length = k + 1 + (m - k) := by rw [insP_len]; have := HM.out; omega
                have HE : Hid (RefQ (w7.setCell ⟨x, 0, none⟩ (.slice A7 (k + 1 + (m - k)) c7)) (fun k => F2 k ∨ w2.heap.size ≤ k) x (insP d (at_, id)) ∧ Moved F2 w2 (w7.setCell ⟨x, 0, none⟩ (.slice A7 (k + 1 + (m - k)) c7))) := Lib.hid (by
                  have := ref_end (l' := insP d (at_, id)) (A5 := A7) (c5 := c7) Q1.out Q3.out HB7.out (by rw [hln, HD.out, cellsT_app, cellsT_app]; simpa [cellsT] using HO7.out) (by rw [hln]; omega)
                  rw [hln] at this; exact this)
                clear hln
                go_wp2
                go_ret
                exact HF.out _ HE.out
            · try rw [if_pos (by rfl)]
              go_simp
              refine hK.out _ _ HBC.out (fun hHeld2 => ?_)
              clear hK K hHeld
              have hHeld := hHeld2
              clear hHeld2
              try simp only [Act.put, List.setIfInBounds_toArray, List.set_cons_zero, List.set_cons_succ, List.getElem_toArray, List.getElem_cons_succ, List.getElem_cons_zero]
              refine wpAnyZ_ready (rs := [1]) (by kernel_rfl) (by simp) ?_
              refine AllReadyZ.cons rfl (fun K hK => ?_) AllReadyZ.nil
              try rw [if_pos (by rfl)]
              go_simp
              refine hK.out _ _ HBD.out (fun hHeld2 => ?_)
              clear hK K hHeld
              have hHeld := hHeld2
              clear hHeld2
              try simp only [Act.put, List.setIfInBounds_toArray, List.set_cons_zero, List.set_cons_succ, List.getElem_toArray, List.getElem_cons_succ, List.getElem_cons_zero]
              refine wpAnyZ_ready (rs := [8]) (by kernel_rfl) (by simp) ?_
              refine AllReadyZ.cons rfl (fun K hK => ?_) AllReadyZ.nil
              try rw [if_pos (by rfl)]
              refine oper_append_k _ (.tmp 51) (.tmp 57) 26 rfl 36 i0 (.agg #[.int .i64 0, .int .i64 0]) 2 16 Try.underlying26 hinfo hz0 hz1 hz2 rfl (by decide) w2.heap.size (.slice (some ⟨w2.heap.size + 1, 0, none⟩) 0 0) 0 [] rfl HOD.out (some ⟨g, 0, none⟩) k c2 (cellsT (d.take k)) rfl HL1.out (HS1.out _ HBD.out) (cellsT_one _) (by unfold maxLen; omega) (by omega) HBD.out.size ?_
              intro A5 c5 w5 hown5 hgrow5 _
              simp only [Nat.zero_add, Nat.add_zero] at hown5 ⊢
              have HO5 : Hid (w5.ownsRow w2.heap.size 36 2 (.slice A5 k c5) k (cellsT (d.take k))) := Lib.hid (by simpa using hown5)
              have HB5 : Hid (Below w2.heap.size w2 w5) := Lib.hid (HBD.out.grown hgrow5 HBD.out.size (fun k e => (HOD.out.lt k e).1))
              have HT5 := Lib.hid ((hgrow5.block w2.heap.size (heap_lt HTD.out) (fun e => by have e : w2.heap.size = w2.heap.size + 1 := Option.some.inj e; omega)).trans HTD.out)
              clear hown5 hgrow5
              refine hK.out _ _ HB5.out (fun hHeld2 => ?_)
              clear hK K hHeld
              have hHeld := hHeld2
              clear hHeld2
              try simp only [Act.put, List.setIfInBounds_toArray, List.set_cons_zero, List.set_cons_succ, List.getElem_toArray, List.getElem_cons_succ, List.getElem_cons_zero]
              refine wpAnyZ_ready (rs := [13]) (by kernel_rfl) (by simp) ?_
              refine AllReadyZ.cons rfl (fun K hK => ?_) AllReadyZ.nil
              try rw [if_pos (by rfl)]
              refine oper_append_k _ (.tmp 58) (.tmp 62) 26 rfl 36 i0 (.agg #[.int .i64 0, .int .i64 0]) 2 16 Try.underlying26 hinfo hz0 hz1 hz2 rfl (by decide) w2.heap.size (.slice A5 k c5) k (cellsT (d.take k)) rfl HO5.out (some ⟨w2.heap.size, 0, none⟩) 1 1 [.int .i64 at_, .int .i64 id] rfl rfl (fun _ => ⟨_, rfl, cells_add HT5.out⟩) (fun u hu => by simp at hu; rcases hu with rfl | rfl <;> rfl) (by unfold maxLen; omega) (by omega) HB5.out.size ?_
              intro A6 c6 w6 hown6 hgrow6 _
              try simp only [Nat.zero_add, Nat.add_zero] at hown6 ⊢
              have HO6 := Lib.hid hown6
              have HB6 : Hid (Below w2.heap.size w2 w6) := Lib.hid (HB5.out.grown hgrow6 HB5.out.size (fun k e => (HO5.out.lt k e).1))
              clear hown6 hgrow6
              refine hK.out _ _ HB6.out (fun hHeld2 => ?_)
              clear hK K hHeld
              have hHeld := hHeld2
              clear hHeld2
              try simp only [Act.put, List.setIfInBounds_toArray, List.set_cons_zero, List.set_cons_succ, List.getElem_toArray, List.getElem_cons_succ, List.getElem_cons_zero]
              refine wpAnyZ_ready (rs := [20]) (by kernel_rfl) (by simp) ?_
              refine AllReadyZ.cons rfl (fun K hK => ?_) AllReadyZ.nil
              try rw [if_pos (by rfl)]
              refine oper_append_k _ (.tmp 63) (.tmp 69) 26 rfl 36 i0 (.agg #[.int .i64 0, .int .i64 0]) 2 16 Try.underlying26 hinfo hz0 hz1 hz2 rfl (by decide) w2.heap.size (.slice A6 (k + 1) c6) (k + 1) _ rfl HO6.out (some ⟨g, k * 2, none⟩) (m - k) (c2 - k) (cellsT (d.drop k)) rfl HL2.out (HS2.out _ HB6.out) (cellsT_one _) (by unfold maxLen; omega) (by omega) HB6.out.size ?_
              intro A7 c7 w7 hown7 hgrow7 _
              try simp only [Nat.zero_add, Nat.add_zero] at hown7 ⊢
              have HO7 := Lib.hid hown7
              have HB7 : Hid (Below w2.heap.size w2 w7) := Lib.hid (HB6.out.grown hgrow7 HB6.out.size (fun k e => (HO6.out.lt k e).1))
              clear hown7 hgrow7
              obtain ⟨b0, b1⟩ := HSt.out _ HB7.out
              refine hK.out _ _ HB7.out (fun hHeld2 => ?_)
              clear hK K hHeld
              have hHeld := hHeld2
              clear hHeld2
              try simp only [Act.put, List.setIfInBounds_toArray, List.set_cons_zero, List.set_cons_succ, List.getElem_toArray, List.getElem_cons_succ, List.getElem_cons_zero]
              refine wpAnyZ_ready (rs := [21]) (by kernel_rfl) (by simp) ?_
              refine AllReadyZ.cons rfl (fun K hK => ?_) AllReadyZ.nil
              try rw [if_pos (by rfl)]
              go_simp
              refine hK.out _ _ HB7.out (fun hHeld2 => ?_)
              clear hK K hHeld
              have hHeld := hHeld2
              clear hHeld2
              try simp only [Act.put, List.setIfInBounds_toArray, List.set_cons_zero, List.set_cons_succ, List.getElem_toArray, List.getElem_cons_succ, List.getElem_cons_zero]
              refine wpAnyZ_take (i := 22) (v := ?vv19) rfl (by kernel_rfl) (by kernel_rfl) (by kernel_rfl) (fun _ _ _ h => h) (Or.inl ⟨by rfl, ?hy19⟩) hHeld ?rr19
              case hy19 => (intro w' hSw; obtain ⟨g0, g1⟩ := HSt.out _ hSw; go_simp; try with_reducible rfl)
              try simp only [Act.put, List.setIfInBounds_toArray, List.set_cons_zero, List.set_cons_succ, List.getElem_toArray, List.getElem_cons_succ, List.getElem_cons_zero]
              refine wpAnyZ_ready (rs := [23]) (by kernel_rfl) (by simp) ?_
              refine AllReadyZ.last rfl (fun K hK => ?_)
              try rw [if_pos (by rfl)]
              go_simp
              refine hK.out _ _ ?_
              clear hK K hHeld
              try simp only [Act.put, List.setIfInBounds_toArray, List.set_cons_zero, List.set_cons_succ, List.getElem_toArray, List.getElem_cons_succ, List.getElem_cons_zero]
              refine wpAnyZ_done (by kernel_rfl) ?_ _
              have hln : (insP d (at_, id)).length = k + 1 + (m - k) := by rw [insP_len]; have := HM.out; omega
              have HE : Hid (RefQ (w7.setCell ⟨x, 0, none⟩ (.slice A7 (k + 1 + (m - k)) c7)) (fun k => F2 k ∨ w2.heap.size ≤ k) x (insP d (at_, id)) ∧ Moved F2 w2 (w7.setCell ⟨x, 0, none⟩ (.slice A7 (k + 1 + (m - k)) c7))) := Lib.hid (by
                have := ref_end (l' := insP d (at_, id)) (A5 := A7) (c5 := c7) Q1.out Q3.out HB7.out (by rw [hln, HD.out, cellsT_app, cellsT_app]; simpa [cellsT] using HO7.out) (by rw [hln]; omega)
                rw [hln] at this; exact this)
              clear hln
              go_wp2
              go_ret
              exact HF.out _ HE.out
        · have hkm0 : k = m := by omega
          have HD := Lib.hid (insP_at (l := d) (t := (at_, id)) (k := k) (by have := HM.out; omega) HK.out (fun hk' => by have := HM.out; omega))
          obtain ⟨hA0, hA1⟩ : (A2 = none → d.length = 0 ∧ c2 = 0) ∧ (∀ g, A2 = some g → ∃ b, g = ⟨b, 0, none⟩) := own_addr Q2.out
          rw [← HM.out] at hA0
          cases A2 with
          | none =>
            obtain ⟨rfl, rfl⟩ := hA0 rfl
            obtain rfl := hkm0
            clear hA0 hA1
            skip
            have HSt : Hid (∀ V, Below w2.heap.size w2 V → V.cell? ⟨x, 0, none⟩ = some (.slice none 0 0) ∧ V.frozen? ⟨x, 0, none⟩ = false) := Lib.hid (fun V hV => ⟨cell_later hV c1, by rw [hV.frozen (p := ⟨x, 0, none⟩) hx]; exact hfz⟩)
            go_wp2_with fail
            have HBA : Hid (Below w2.heap.size w2 (w2.alloc (.cells #[] 36)).drew) := Lib.hid (below_alloc _ _).drew
            have HBB : Hid (Below w2.heap.size w2 ((w2.alloc (.cells #[] 36)).alloc (.cells #[.int .i64 at_, .int .i64 id] 36)).drew) := Lib.hid (((below_alloc _ _).alloc (by simp) _).drew)
            have HBC : Hid (Below w2.heap.size w2 (w2.alloc (.cells #[.int .i64 at_, .int .i64 id] 36)).drew) := Lib.hid (below_alloc _ _).drew
            have HBD : Hid (Below w2.heap.size w2 ((w2.alloc (.cells #[.int .i64 at_, .int .i64 id] 36)).alloc (.cells #[] 36)).drew) := Lib.hid (((below_alloc _ _).alloc (by simp) _).drew)
            have HOA : Hid (((w2.alloc (.cells #[] 36)).drew).ownsRow w2.heap.size 36 2 (.slice (some ⟨w2.heap.size, 0, none⟩) 0 0) 0 []) := Lib.hid (World.ownsRow_made w2 #[] 0 (Nat.le_refl _) (Nat.zero_le _) rfl)
            have HOB : Hid ((((w2.alloc (.cells #[] 36)).alloc (.cells #[.int .i64 at_, .int .i64 id] 36)).drew).ownsRow w2.heap.size 36 2 (.slice (some ⟨w2.heap.size, 0, none⟩) 0 0) 0 []) := Lib.hid (own_moved (p := fun _ => False) HOA.out (Below.movedNew (below_alloc _ _)) (fun _ _ h => h))
            have hod : ((w2.alloc (.cells #[.int .i64 at_, .int .i64 id] 36)).alloc (.cells #[] 36)).ownsRow w2.heap.size 36 2 (.slice (some ⟨w2.heap.size + 1, 0, none⟩) 0 0) 0 [] := by have h9 := World.ownsRow_made (base := w2.heap.size) (w2.alloc (.cells #[.int .i64 at_, .int .i64 id] 36)) #[] 0 (by simp) (Nat.zero_le _) rfl (e := 36) (size := 2); simpa using h9
            have HOD : Hid ((((w2.alloc (.cells #[.int .i64 at_, .int .i64 id] 36)).alloc (.cells #[] 36)).drew).ownsRow w2.heap.size 36 2 (.slice (some ⟨w2.heap.size + 1, 0, none⟩) 0 0) 0 []) := Lib.hid hod
            clear hod
            have htb : ((w2.alloc (.cells #[] 36)).alloc (.cells #[.int .i64 at_, .int .i64 id] 36)).heap[w2.heap.size + 1]? = some (.cells #[.int .i64 at_, .int .i64 id] 36 (0, 0)) := by have h9 := heap_new (w2.alloc (.cells #[] 36)) (.cells #[.int .i64 at_, .int .i64 id] 36); rw [show (w2.alloc (.cells #[] 36)).heap.size = w2.heap.size + 1 from by simp] at h9; exact h9
            have HTB : Hid ((((w2.alloc (.cells #[] 36)).alloc (.cells #[.int .i64 at_, .int .i64 id] 36)).drew).heap[w2.heap.size + 1]? = some (.cells #[.int .i64 at_, .int .i64 id] 36 (0, 0))) := Lib.hid htb
            clear htb
            have HTD : Hid ((((w2.alloc (.cells #[.int .i64 at_, .int .i64 id] 36)).alloc (.cells #[] 36)).drew).heap[w2.heap.size]? = some (.cells #[.int .i64 at_, .int .i64 id] 36 (0, 0))) := Lib.hid (((below_alloc (w2.alloc (.cells #[.int .i64 at_, .int .i64 id] 36)) (.cells #[] 36)).block _ (by simp)).trans (heap_new w2 (.cells #[.int .i64 at_, .int .i64 id] 36)))
            refine wp_region_heldz_drew (S := (fun w' => Below w2.heap.size w2 w')) 23 (by kernel_rfl) (Below.refl _ _).drew (fun hHeld => ?_)
            refine wpAnyZ_take (i := 0) (v := ?vv20) rfl (by kernel_rfl) (by kernel_rfl) (by kernel_rfl) (fun _ _ _ h => h) (Or.inl ⟨by rfl, ?hy20⟩) hHeld ?rr20
            case hy20 => (intro w' hSw; obtain ⟨g0, g1⟩ := HSt.out _ hSw; go_simp; try with_reducible rfl)
            try simp only [Act.put, List.setIfInBounds_toArray, List.set_cons_zero, List.set_cons_succ, List.getElem_toArray, List.getElem_cons_succ, List.getElem_cons_zero]
            refine wpAnyZ_take (i := 2) (v := ?vv21) rfl (by kernel_rfl) (by kernel_rfl) (by kernel_rfl) (fun _ _ _ h => h) (Or.inl ⟨by rfl, ?hy21⟩) hHeld ?rr21
            case hy21 => (intro w' hSw; obtain ⟨g0, g1⟩ := HSt.out _ hSw; go_simp; try with_reducible rfl)
            try simp only [Act.put, List.setIfInBounds_toArray, List.set_cons_zero, List.set_cons_succ, List.getElem_toArray, List.getElem_cons_succ, List.getElem_cons_zero]
            refine wpAnyZ_take (i := 3) (v := ?vv22) rfl (by kernel_rfl) (by kernel_rfl) (by kernel_rfl) (fun _ _ _ h => h) (Or.inl ⟨by rfl, ?hy22⟩) hHeld ?rr22
            case hy22 => (intro w' hSw; obtain ⟨g0, g1⟩ := HSt.out _ hSw; go_simp; try with_reducible rfl)
            try simp only [Act.put, List.setIfInBounds_toArray, List.set_cons_zero, List.set_cons_succ, List.getElem_toArray, List.getElem_cons_succ, List.getElem_cons_zero]
            refine wpAnyZ_take (i := 4) (v := ?vv23) rfl (by kernel_rfl) (by kernel_rfl) (by kernel_rfl) (fun _ _ _ h => h) (Or.inl ⟨by rfl, ?hy23⟩) hHeld ?rr23
            case hy23 => (intro w' hSw; obtain ⟨g0, g1⟩ := HSt.out _ hSw; go_simp; try with_reducible rfl)
            try simp only [Act.put, List.setIfInBounds_toArray, List.set_cons_zero, List.set_cons_succ, List.getElem_toArray, List.getElem_cons_succ, List.getElem_cons_zero]
            refine wpAnyZ_take (i := 5) (v := ?vv24) rfl (by kernel_rfl) (by kernel_rfl) (by kernel_rfl) (fun _ _ _ h => h) (Or.inl ⟨by rfl, ?hy24⟩) hHeld ?rr24
            case hy24 => (intro w' hSw; obtain ⟨g0, g1⟩ := HSt.out _ hSw; go_simp; try with_reducible rfl)
            try simp only [Act.put, List.setIfInBounds_toArray, List.set_cons_zero, List.set_cons_succ, List.getElem_toArray, List.getElem_cons_succ, List.getElem_cons_zero]
            refine wpAnyZ_take (i := 6) (v := ?vv25) rfl (by kernel_rfl) (by kernel_rfl) (by kernel_rfl) (fun _ _ _ h => h) (Or.inl ⟨by rfl, ?hy25⟩) hHeld ?rr25
            case hy25 => (intro w' hSw; obtain ⟨g0, g1⟩ := HSt.out _ hSw; go_simp; try with_reducible rfl)
            try simp only [Act.put, List.setIfInBounds_toArray, List.set_cons_zero, List.set_cons_succ, List.getElem_toArray, List.getElem_cons_succ, List.getElem_cons_zero]
            refine wpAnyZ_take (i := 7) (v := ?vv26) rfl (by kernel_rfl) (by kernel_rfl) (by kernel_rfl) (fun _ _ _ h => h) (Or.inl ⟨by rfl, ?hy26⟩) hHeld ?rr26
            case hy26 => (intro w' hSw; obtain ⟨g0, g1⟩ := HSt.out _ hSw; go_simp; try with_reducible rfl)
            try simp only [Act.put, List.setIfInBounds_toArray, List.set_cons_zero, List.set_cons_succ, List.getElem_toArray, List.getElem_cons_succ, List.getElem_cons_zero]
            refine wpAnyZ_take (i := 9) (v := ?vv27) rfl (by kernel_rfl) (by kernel_rfl) (by kernel_rfl) (fun _ _ _ h => h) (Or.inl ⟨by rfl, ?hy27⟩) hHeld ?rr27
            case hy27 => (intro w' hSw; obtain ⟨g0, g1⟩ := HSt.out _ hSw; go_simp; try with_reducible rfl)
            try simp only [Act.put, List.setIfInBounds_toArray, List.set_cons_zero, List.set_cons_succ, List.getElem_toArray, List.getElem_cons_succ, List.getElem_cons_zero]
            refine wpAnyZ_take (i := 10) (v := ?vv28) rfl (by kernel_rfl) (by kernel_rfl) (by kernel_rfl) (fun _ _ _ h => h) (Or.inl ⟨by rfl, ?hy28⟩) hHeld ?rr28
            case hy28 => (intro w' hSw; obtain ⟨g0, g1⟩ := HSt.out _ hSw; go_simp; try with_reducible rfl)
            try simp only [Act.put, List.setIfInBounds_toArray, List.set_cons_zero, List.set_cons_succ, List.getElem_toArray, List.getElem_cons_succ, List.getElem_cons_zero]
            refine wpAnyZ_take (i := 11) (v := ?vv29) rfl (by kernel_rfl) (by kernel_rfl) (by kernel_rfl) (fun _ _ _ h => h) (Or.inl ⟨by rfl, ?hy29⟩) hHeld ?rr29
            case hy29 => (intro w' hSw; obtain ⟨g0, g1⟩ := HSt.out _ hSw; go_simp; try with_reducible rfl)
            try simp only [Act.put, List.setIfInBounds_toArray, List.set_cons_zero, List.set_cons_succ, List.getElem_toArray, List.getElem_cons_succ, List.getElem_cons_zero]
            refine wpAnyZ_take (i := 14) (v := ?vv30) rfl (by kernel_rfl) (by kernel_rfl) (by kernel_rfl) (fun _ _ _ h => h) (Or.inl ⟨by rfl, ?hy30⟩) hHeld ?rr30
            case hy30 => (intro w' hSw; obtain ⟨g0, g1⟩ := HSt.out _ hSw; go_simp; try with_reducible rfl)
            try simp only [Act.put, List.setIfInBounds_toArray, List.set_cons_zero, List.set_cons_succ, List.getElem_toArray, List.getElem_cons_succ, List.getElem_cons_zero]
            refine wpAnyZ_take (i := 15) (v := ?vv31) rfl (by kernel_rfl) (by kernel_rfl) (by kernel_rfl) (fun _ _ _ h => h) (Or.inl ⟨by rfl, ?hy31⟩) hHeld ?rr31
            case hy31 => (intro w' hSw; obtain ⟨g0, g1⟩ := HSt.out _ hSw; go_simp; try with_reducible rfl)
            try simp only [Act.put, List.setIfInBounds_toArray, List.set_cons_zero, List.set_cons_succ, List.getElem_toArray, List.getElem_cons_succ, List.getElem_cons_zero]
            refine wpAnyZ_take (i := 16) (v := ?vv32) rfl (by kernel_rfl) (by kernel_rfl) (by kernel_rfl) (fun _ _ _ h => h) (Or.inl ⟨by rfl, ?hy32⟩) hHeld ?rr32
            case hy32 => (intro w' hSw; obtain ⟨g0, g1⟩ := HSt.out _ hSw; go_simp; try with_reducible rfl)
            try simp only [Act.put, List.setIfInBounds_toArray, List.set_cons_zero, List.set_cons_succ, List.getElem_toArray, List.getElem_cons_succ, List.getElem_cons_zero]
            refine wpAnyZ_take (i := 17) (v := ?vv33) rfl (by kernel_rfl) (by kernel_rfl) (by kernel_rfl) (fun _ _ _ h => h) (Or.inl ⟨by rfl, ?hy33⟩) hHeld ?rr33
            case hy33 => (intro w' hSw; obtain ⟨g0, g1⟩ := HSt.out _ hSw; go_simp; try with_reducible rfl)
            try simp only [Act.put, List.setIfInBounds_toArray, List.set_cons_zero, List.set_cons_succ, List.getElem_toArray, List.getElem_cons_succ, List.getElem_cons_zero]
            refine wpAnyZ_take (i := 18) (v := ?vv34) rfl (by kernel_rfl) (by kernel_rfl) (by kernel_rfl) (fun _ _ _ h => h) (Or.inl ⟨by rfl, ?hy34⟩) hHeld ?rr34
            case hy34 => (intro w' hSw; obtain ⟨g0, g1⟩ := HSt.out _ hSw; go_simp; try with_reducible rfl)
            try simp only [Act.put, List.setIfInBounds_toArray, List.set_cons_zero, List.set_cons_succ, List.getElem_toArray, List.getElem_cons_succ, List.getElem_cons_zero]
            refine wpAnyZ_take (i := 19) (v := ?vv35) rfl (by kernel_rfl) (by kernel_rfl) (by kernel_rfl) (fun _ _ _ h => h) (Or.inl ⟨by rfl, ?hy35⟩) hHeld ?rr35
            case hy35 => (intro w' hSw; obtain ⟨g0, g1⟩ := HSt.out _ hSw; go_simp; try with_reducible rfl)
            try simp only [Act.put, List.setIfInBounds_toArray, List.set_cons_zero, List.set_cons_succ, List.getElem_toArray, List.getElem_cons_succ, List.getElem_cons_zero]
            refine wpAnyZ_ready (rs := [1, 12]) (by kernel_rfl) (by simp) ?_
            refine AllReadyZ.cons rfl (fun K hK => ?_) (AllReadyZ.cons rfl (fun K hK => ?_) AllReadyZ.nil)
            · try rw [if_pos (by rfl)]
              go_simp
              refine hK.out _ _ HBA.out (fun hHeld2 => ?_)
              clear hK K hHeld
              have hHeld := hHeld2
              clear hHeld2
              try simp only [Act.put, List.setIfInBounds_toArray, List.set_cons_zero, List.set_cons_succ, List.getElem_toArray, List.getElem_cons_succ, List.getElem_cons_zero]
              refine wpAnyZ_ready (rs := [8, 12]) (by kernel_rfl) (by simp) ?_
              refine AllReadyZ.cons rfl (fun K hK => ?_) (AllReadyZ.cons rfl (fun K hK => ?_) AllReadyZ.nil)
              · try rw [if_pos (by rfl)]
                refine oper_append_k _ (.tmp 51) (.tmp 57) 26 rfl 36 i0 (.agg #[.int .i64 0, .int .i64 0]) 2 16 Try.underlying26 hinfo hz0 hz1 hz2 rfl (by decide) w2.heap.size (.slice (some ⟨w2.heap.size, 0, none⟩) 0 0) 0 [] rfl HOA.out none 0 0 [] rfl rfl (fun h => absurd h (Nat.lt_irrefl _)) (by simp) (by unfold maxLen; omega) (by omega) HBA.out.size ?_
                intro A5 c5 w5 hown5 hgrow5 _
                simp only [Nat.zero_add, Nat.add_zero] at hown5 ⊢
                have HO5 : Hid (w5.ownsRow w2.heap.size 36 2 (.slice A5 0 c5) 0 (cellsT (d.take 0))) := Lib.hid (by simpa [cellsT] using hown5)
                have HB5 : Hid (Below w2.heap.size w2 w5) := Lib.hid (HBA.out.grown hgrow5 HBA.out.size (fun k e => (HOA.out.lt k e).1))
                clear hown5 hgrow5
                refine hK.out _ _ HB5.out (fun hHeld2 => ?_)
                clear hK K hHeld
                have hHeld := hHeld2
                clear hHeld2
                try simp only [Act.put, List.setIfInBounds_toArray, List.set_cons_zero, List.set_cons_succ, List.getElem_toArray, List.getElem_cons_succ, List.getElem_cons_zero]
                refine wpAnyZ_ready (rs := [12]) (by kernel_rfl) (by simp) ?_
                refine AllReadyZ.cons rfl (fun K hK => ?_) AllReadyZ.nil
                try rw [if_pos (by rfl)]
                go_simp
                have HO5a := Lib.hid (own_moved (p := fun _ => False) HO5.out (Below.movedNew (below_alloc w5 (.cells #[.int .i64 at_, .int .i64 id] 36))) (fun _ _ h => h))
                have HB5a := Lib.hid (HB5.out.alloc HB5.out.size (.cells #[.int .i64 at_, .int .i64 id] 36))
                have HT5a := Lib.hid (heap_new w5 (.cells #[.int .i64 at_, .int .i64 id] 36))
                refine hK.out _ _ HB5a.out (fun hHeld2 => ?_)
                clear hK K hHeld
                have hHeld := hHeld2
                clear hHeld2
                try simp only [Act.put, List.setIfInBounds_toArray, List.set_cons_zero, List.set_cons_succ, List.getElem_toArray, List.getElem_cons_succ, List.getElem_cons_zero]
                refine wpAnyZ_ready (rs := [13]) (by kernel_rfl) (by simp) ?_
                refine AllReadyZ.cons rfl (fun K hK => ?_) AllReadyZ.nil
                try rw [if_pos (by rfl)]
                refine oper_append_k _ (.tmp 58) (.tmp 62) 26 rfl 36 i0 (.agg #[.int .i64 0, .int .i64 0]) 2 16 Try.underlying26 hinfo hz0 hz1 hz2 rfl (by decide) w2.heap.size (.slice A5 0 c5) 0 (cellsT (d.take 0)) rfl HO5a.out (some ⟨w5.heap.size, 0, none⟩) 1 1 [.int .i64 at_, .int .i64 id] rfl rfl (fun _ => ⟨_, rfl, cells_add HT5a.out⟩) (fun u hu => by simp at hu; rcases hu with rfl | rfl <;> rfl) (by unfold maxLen; omega) (by omega) HB5a.out.size ?_
                intro A6 c6 w6 hown6 hgrow6 _
                try simp only [Nat.zero_add, Nat.add_zero] at hown6 ⊢
                have HO6 := Lib.hid hown6
                have HB6 : Hid (Below w2.heap.size w2 w6) := Lib.hid (HB5a.out.grown hgrow6 HB5a.out.size (fun k e => (HO5a.out.lt k e).1))
                clear hown6 hgrow6
                refine hK.out _ _ HB6.out (fun hHeld2 => ?_)
                clear hK K hHeld
                have hHeld := hHeld2
                clear hHeld2
                try simp only [Act.put, List.setIfInBounds_toArray, List.set_cons_zero, List.set_cons_succ, List.getElem_toArray, List.getElem_cons_succ, List.getElem_cons_zero]
                refine wpAnyZ_ready (rs := [20]) (by kernel_rfl) (by simp) ?_
                refine AllReadyZ.cons rfl (fun K hK => ?_) AllReadyZ.nil
                try rw [if_pos (by rfl)]
                refine oper_append_k _ (.tmp 63) (.tmp 69) 26 rfl 36 i0 (.agg #[.int .i64 0, .int .i64 0]) 2 16 Try.underlying26 hinfo hz0 hz1 hz2 rfl (by decide) w2.heap.size (.slice A6 1 c6) 1 _ rfl HO6.out none 0 0 [] rfl rfl (fun h => absurd h (Nat.lt_irrefl _)) (by simp) (by unfold maxLen; omega) (by omega) HB6.out.size ?_
                intro A7 c7 w7 hown7 hgrow7 _
                try simp only [Nat.zero_add, Nat.add_zero] at hown7 ⊢
                have HO7 := Lib.hid hown7
                have HB7 : Hid (Below w2.heap.size w2 w7) := Lib.hid (HB6.out.grown hgrow7 HB6.out.size (fun k e => (HO6.out.lt k e).1))
                clear hown7 hgrow7
                obtain ⟨b0, b1⟩ := HSt.out _ HB7.out
                refine hK.out _ _ HB7.out (fun hHeld2 => ?_)
                clear hK K hHeld
                have hHeld := hHeld2
                clear hHeld2
                try simp only [Act.put, List.setIfInBounds_toArray, List.set_cons_zero, List.set_cons_succ, List.getElem_toArray, List.getElem_cons_succ, List.getElem_cons_zero]
                refine wpAnyZ_ready (rs := [21]) (by kernel_rfl) (by simp) ?_
                refine AllReadyZ.cons rfl (fun K hK => ?_) AllReadyZ.nil
                try rw [if_pos (by rfl)]
                go_simp
                refine hK.out _ _ HB7.out (fun hHeld2 => ?_)
                clear hK K hHeld
                have hHeld := hHeld2
                clear hHeld2
                try simp only [Act.put, List.setIfInBounds_toArray, List.set_cons_zero, List.set_cons_succ, List.getElem_toArray, List.getElem_cons_succ, List.getElem_cons_zero]
                refine wpAnyZ_take (i := 22) (v := ?vv36) rfl (by kernel_rfl) (by kernel_rfl) (by kernel_rfl) (fun _ _ _ h => h) (Or.inl ⟨by rfl, ?hy36⟩) hHeld ?rr36
                case hy36 => (intro w' hSw; obtain ⟨g0, g1⟩ := HSt.out _ hSw; go_simp; try with_reducible rfl)
                try simp only [Act.put, List.setIfInBounds_toArray, List.set_cons_zero, List.set_cons_succ, List.getElem_toArray, List.getElem_cons_succ, List.getElem_cons_zero]
                refine wpAnyZ_ready (rs := [23]) (by kernel_rfl) (by simp) ?_
                refine AllReadyZ.last rfl (fun K hK => ?_)
                try rw [if_pos (by rfl)]
                go_simp
                refine hK.out _ _ ?_
                clear hK K hHeld
                try simp only [Act.put, List.setIfInBounds_toArray, List.set_cons_zero, List.set_cons_succ, List.getElem_toArray, List.getElem_cons_succ, List.getElem_cons_zero]
                refine wpAnyZ_done (by kernel_rfl) ?_ _
                have hln : (insP d (at_, id)).length = 1 := by rw [insP_len]; have := HM.out; omega
                have HE : Hid (RefQ (w7.setCell ⟨x, 0, none⟩ (.slice A7 (1) c7)) (fun k => F2 k ∨ w2.heap.size ≤ k) x (insP d (at_, id)) ∧ Moved F2 w2 (w7.setCell ⟨x, 0, none⟩ (.slice A7 (1) c7))) := Lib.hid (by
                  have := ref_end (l' := insP d (at_, id)) (A5 := A7) (c5 := c7) Q1.out Q3.out HB7.out (by rw [hln, HD.out, cellsT_app, cellsT_app]; rw [List.drop_of_length_le (i := 0) (l := d) (by have := HM.out; omega)]; simpa [cellsT] using HO7.out) (by rw [hln]; omega)
                  rw [hln] at this; exact this)
                clear hln
                go_wp2
                go_ret
                exact HF.out _ HE.out
              · try rw [if_pos (by rfl)]
                go_simp
                refine hK.out _ _ HBB.out (fun hHeld2 => ?_)
                clear hK K hHeld
                have hHeld := hHeld2
                clear hHeld2
                try simp only [Act.put, List.setIfInBounds_toArray, List.set_cons_zero, List.set_cons_succ, List.getElem_toArray, List.getElem_cons_succ, List.getElem_cons_zero]
                refine wpAnyZ_ready (rs := [8]) (by kernel_rfl) (by simp) ?_
                refine AllReadyZ.cons rfl (fun K hK => ?_) AllReadyZ.nil
                try rw [if_pos (by rfl)]
                refine oper_append_k _ (.tmp 51) (.tmp 57) 26 rfl 36 i0 (.agg #[.int .i64 0, .int .i64 0]) 2 16 Try.underlying26 hinfo hz0 hz1 hz2 rfl (by decide) w2.heap.size (.slice (some ⟨w2.heap.size, 0, none⟩) 0 0) 0 [] rfl HOB.out none 0 0 [] rfl rfl (fun h => absurd h (Nat.lt_irrefl _)) (by simp) (by unfold maxLen; omega) (by omega) HBB.out.size ?_
                intro A5 c5 w5 hown5 hgrow5 _
                simp only [Nat.zero_add, Nat.add_zero] at hown5 ⊢
                have HO5 : Hid (w5.ownsRow w2.heap.size 36 2 (.slice A5 0 c5) 0 (cellsT (d.take 0))) := Lib.hid (by simpa [cellsT] using hown5)
                have HB5 : Hid (Below w2.heap.size w2 w5) := Lib.hid (HBB.out.grown hgrow5 HBB.out.size (fun k e => (HOB.out.lt k e).1))
                have HT5 := Lib.hid ((hgrow5.block (w2.heap.size + 1) (heap_lt HTB.out) (fun e => by have e : w2.heap.size + 1 = w2.heap.size := Option.some.inj e; omega)).trans HTB.out)
                clear hown5 hgrow5
                refine hK.out _ _ HB5.out (fun hHeld2 => ?_)
                clear hK K hHeld
                have hHeld := hHeld2
                clear hHeld2
                try simp only [Act.put, List.setIfInBounds_toArray, List.set_cons_zero, List.set_cons_succ, List.getElem_toArray, List.getElem_cons_succ, List.getElem_cons_zero]
                refine wpAnyZ_ready (rs := [13]) (by kernel_rfl) (by simp) ?_
                refine AllReadyZ.cons rfl (fun K hK => ?_) AllReadyZ.nil
                try rw [if_pos (by rfl)]
                refine oper_append_k _ (.tmp 58) (.tmp 62) 26 rfl 36 i0 (.agg #[.int .i64 0, .int .i64 0]) 2 16 Try.underlying26 hinfo hz0 hz1 hz2 rfl (by decide) w2.heap.size (.slice A5 0 c5) 0 (cellsT (d.take 0)) rfl HO5.out (some ⟨w2.heap.size + 1, 0, none⟩) 1 1 [.int .i64 at_, .int .i64 id] rfl rfl (fun _ => ⟨_, rfl, cells_add HT5.out⟩) (fun u hu => by simp at hu; rcases hu with rfl | rfl <;> rfl) (by unfold maxLen; omega) (by omega) HB5.out.size ?_
                intro A6 c6 w6 hown6 hgrow6 _
                try simp only [Nat.zero_add, Nat.add_zero] at hown6 ⊢
                have HO6 := Lib.hid hown6
                have HB6 : Hid (Below w2.heap.size w2 w6) := Lib.hid (HB5.out.grown hgrow6 HB5.out.size (fun k e => (HO5.out.lt k e).1))
                clear hown6 hgrow6
                refine hK.out _ _ HB6.out (fun hHeld2 => ?_)
                clear hK K hHeld
                have hHeld := hHeld2
                clear hHeld2
                try simp only [Act.put, List.setIfInBounds_toArray, List.set_cons_zero, List.set_cons_succ, List.getElem_toArray, List.getElem_cons_succ, List.getElem_cons_zero]
                refine wpAnyZ_ready (rs := [20]) (by kernel_rfl) (by simp) ?_
                refine AllReadyZ.cons rfl (fun K hK => ?_) AllReadyZ.nil
                try rw [if_pos (by rfl)]
                refine oper_append_k _ (.tmp 63) (.tmp 69) 26 rfl 36 i0 (.agg #[.int .i64 0, .int .i64 0]) 2 16 Try.underlying26 hinfo hz0 hz1 hz2 rfl (by decide) w2.heap.size (.slice A6 1 c6) 1 _ rfl HO6.out none 0 0 [] rfl rfl (fun h => absurd h (Nat.lt_irrefl _)) (by simp) (by unfold maxLen; omega) (by omega) HB6.out.size ?_
                intro A7 c7 w7 hown7 hgrow7 _
                try simp only [Nat.zero_add, Nat.add_zero] at hown7 ⊢
                have HO7 := Lib.hid hown7
                have HB7 : Hid (Below w2.heap.size w2 w7) := Lib.hid (HB6.out.grown hgrow7 HB6.out.size (fun k e => (HO6.out.lt k e).1))
                clear hown7 hgrow7
                obtain ⟨b0, b1⟩ := HSt.out _ HB7.out
                refine hK.out _ _ HB7.out (fun hHeld2 => ?_)
                clear hK K hHeld
                have hHeld := hHeld2
                clear hHeld2
                try simp only [Act.put, List.setIfInBounds_toArray, List.set_cons_zero, List.set_cons_succ, List.getElem_toArray, List.getElem_cons_succ, List.getElem_cons_zero]
                refine wpAnyZ_ready (rs := [21]) (by kernel_rfl) (by simp) ?_
                refine AllReadyZ.cons rfl (fun K hK => ?_) AllReadyZ.nil
                try rw [if_pos (by rfl)]
                go_simp
                refine hK.out _ _ HB7.out (fun hHeld2 => ?_)
                clear hK K hHeld
                have hHeld := hHeld2
                clear hHeld2
                try simp only [Act.put, List.setIfInBounds_toArray, List.set_cons_zero, List.set_cons_succ, List.getElem_toArray, List.getElem_cons_succ, List.getElem_cons_zero]
                refine wpAnyZ_take (i := 22) (v := ?vv37) rfl (by kernel_rfl) (by kernel_rfl) (by kernel_rfl) (fun _ _ _ h => h) (Or.inl ⟨by rfl, ?hy37⟩) hHeld ?rr37
                case hy37 => (intro w' hSw; obtain ⟨g0, g1⟩ := HSt.out _ hSw; go_simp; try with_reducible rfl)
                try simp only [Act.put, List.setIfInBounds_toArray, List.set_cons_zero, List.set_cons_succ, List.getElem_toArray, List.getElem_cons_succ, List.getElem_cons_zero]
                refine wpAnyZ_ready (rs := [23]) (by kernel_rfl) (by simp) ?_
                refine AllReadyZ.last rfl (fun K hK => ?_)
                try rw [if_pos (by rfl)]
                go_simp
                refine hK.out _ _ ?_
                clear hK K hHeld
                try simp only [Act.put, List.setIfInBounds_toArray, List.set_cons_zero, List.set_cons_succ, List.getElem_toArray, List.getElem_cons_succ, List.getElem_cons_zero]
                refine wpAnyZ_done (by kernel_rfl) ?_ _
                have hln : (insP d (at_, id)).length = 1 := by rw [insP_len]; have := HM.out; omega
                have HE : Hid (RefQ (w7.setCell ⟨x, 0, none⟩ (.slice A7 (1) c7)) (fun k => F2 k ∨ w2.heap.size ≤ k) x (insP d (at_, id)) ∧ Moved F2 w2 (w7.setCell ⟨x, 0, none⟩ (.slice A7 (1) c7))) := Lib.hid (by
                  have := ref_end (l' := insP d (at_, id)) (A5 := A7) (c5 := c7) Q1.out Q3.out HB7.out (by rw [hln, HD.out, cellsT_app, cellsT_app]; rw [List.drop_of_length_le (i := 0) (l := d) (by have := HM.out; omega)]; simpa [cellsT] using HO7.out) (by rw [hln]; omega)
                  rw [hln] at this; exact this)
                clear hln
                go_wp2
                go_ret
                exact HF.out _ HE.out
            · try rw [if_pos (by rfl)]
              go_simp
              refine hK.out _ _ HBC.out (fun hHeld2 => ?_)
              clear hK K hHeld
              have hHeld := hHeld2
              clear hHeld2
              try simp only [Act.put, List.setIfInBounds_toArray, List.set_cons_zero, List.set_cons_succ, List.getElem_toArray, List.getElem_cons_succ, List.getElem_cons_zero]
              refine wpAnyZ_ready (rs := [1]) (by kernel_rfl) (by simp) ?_
              refine AllReadyZ.cons rfl (fun K hK => ?_) AllReadyZ.nil
              try rw [if_pos (by rfl)]
              go_simp
              refine hK.out _ _ HBD.out (fun hHeld2 => ?_)
              clear hK K hHeld
              have hHeld := hHeld2
              clear hHeld2
              try simp only [Act.put, List.setIfInBounds_toArray, List.set_cons_zero, List.set_cons_succ, List.getElem_toArray, List.getElem_cons_succ, List.getElem_cons_zero]
              refine wpAnyZ_ready (rs := [8]) (by kernel_rfl) (by simp) ?_
              refine AllReadyZ.cons rfl (fun K hK => ?_) AllReadyZ.nil
              try rw [if_pos (by rfl)]
              refine oper_append_k _ (.tmp 51) (.tmp 57) 26 rfl 36 i0 (.agg #[.int .i64 0, .int .i64 0]) 2 16 Try.underlying26 hinfo hz0 hz1 hz2 rfl (by decide) w2.heap.size (.slice (some ⟨w2.heap.size + 1, 0, none⟩) 0 0) 0 [] rfl HOD.out none 0 0 [] rfl rfl (fun h => absurd h (Nat.lt_irrefl _)) (by simp) (by unfold maxLen; omega) (by omega) HBD.out.size ?_
              intro A5 c5 w5 hown5 hgrow5 _
              simp only [Nat.zero_add, Nat.add_zero] at hown5 ⊢
              have HO5 : Hid (w5.ownsRow w2.heap.size 36 2 (.slice A5 0 c5) 0 (cellsT (d.take 0))) := Lib.hid (by simpa [cellsT] using hown5)
              have HB5 : Hid (Below w2.heap.size w2 w5) := Lib.hid (HBD.out.grown hgrow5 HBD.out.size (fun k e => (HOD.out.lt k e).1))
              have HT5 := Lib.hid ((hgrow5.block w2.heap.size (heap_lt HTD.out) (fun e => by have e : w2.heap.size = w2.heap.size + 1 := Option.some.inj e; omega)).trans HTD.out)
              clear hown5 hgrow5
              refine hK.out _ _ HB5.out (fun hHeld2 => ?_)
              clear hK K hHeld
              have hHeld := hHeld2
              clear hHeld2
              try simp only [Act.put, List.setIfInBounds_toArray, List.set_cons_zero, List.set_cons_succ, List.getElem_toArray, List.getElem_cons_succ, List.getElem_cons_zero]
              refine wpAnyZ_ready (rs := [13]) (by kernel_rfl) (by simp) ?_
              refine AllReadyZ.cons rfl (fun K hK => ?_) AllReadyZ.nil
              try rw [if_pos (by rfl)]
              refine oper_append_k _ (.tmp 58) (.tmp 62) 26 rfl 36 i0 (.agg #[.int .i64 0, .int .i64 0]) 2 16 Try.underlying26 hinfo hz0 hz1 hz2 rfl (by decide) w2.heap.size (.slice A5 0 c5) 0 (cellsT (d.take 0)) rfl HO5.out (some ⟨w2.heap.size, 0, none⟩) 1 1 [.int .i64 at_, .int .i64 id] rfl rfl (fun _ => ⟨_, rfl, cells_add HT5.out⟩) (fun u hu => by simp at hu; rcases hu with rfl | rfl <;> rfl) (by unfold maxLen; omega) (by omega) HB5.out.size ?_
              intro A6 c6 w6 hown6 hgrow6 _
              try simp only [Nat.zero_add, Nat.add_zero] at hown6 ⊢
              have HO6 := Lib.hid hown6
              have HB6 : Hid (Below w2.heap.size w2 w6) := Lib.hid (HB5.out.grown hgrow6 HB5.out.size (fun k e => (HO5.out.lt k e).1))
              clear hown6 hgrow6
              refine hK.out _ _ HB6.out (fun hHeld2 => ?_)
              clear hK K hHeld
              have hHeld := hHeld2
              clear hHeld2
              try simp only [Act.put, List.setIfInBounds_toArray, List.set_cons_zero, List.set_cons_succ, List.getElem_toArray, List.getElem_cons_succ, List.getElem_cons_zero]
              refine wpAnyZ_ready (rs := [20]) (by kernel_rfl) (by simp) ?_
              refine AllReadyZ.cons rfl (fun K hK => ?_) AllReadyZ.nil
              try rw [if_pos (by rfl)]
              refine oper_append_k _ (.tmp 63) (.tmp 69) 26 rfl 36 i0 (.agg #[.int .i64 0, .int .i64 0]) 2 16 Try.underlying26 hinfo hz0 hz1 hz2 rfl (by decide) w2.heap.size (.slice A6 1 c6) 1 _ rfl HO6.out none 0 0 [] rfl rfl (fun h => absurd h (Nat.lt_irrefl _)) (by simp) (by unfold maxLen; omega) (by omega) HB6.out.size ?_
              intro A7 c7 w7 hown7 hgrow7 _
              try simp only [Nat.zero_add, Nat.add_zero] at hown7 ⊢
              have HO7 := Lib.hid hown7
              have HB7 : Hid (Below w2.heap.size w2 w7) := Lib.hid (HB6.out.grown hgrow7 HB6.out.size (fun k e => (HO6.out.lt k e).1))
              clear hown7 hgrow7
              obtain ⟨b0, b1⟩ := HSt.out _ HB7.out
              refine hK.out _ _ HB7.out (fun hHeld2 => ?_)
              clear hK K hHeld
              have hHeld := hHeld2
              clear hHeld2
              try simp only [Act.put, List.setIfInBounds_toArray, List.set_cons_zero, List.set_cons_succ, List.getElem_toArray, List.getElem_cons_succ, List.getElem_cons_zero]
              refine wpAnyZ_ready (rs := [21]) (by kernel_rfl) (by simp) ?_
              refine AllReadyZ.cons rfl (fun K hK => ?_) AllReadyZ.nil
              try rw [if_pos (by rfl)]
              go_simp
              refine hK.out _ _ HB7.out (fun hHeld2 => ?_)
              clear hK K hHeld
              have hHeld := hHeld2
              clear hHeld2
              try simp only [Act.put, List.setIfInBounds_toArray, List.set_cons_zero, List.set_cons_succ, List.getElem_toArray, List.getElem_cons_succ, List.getElem_cons_zero]
              refine wpAnyZ_take (i := 22) (v := ?vv38) rfl (by kernel_rfl) (by kernel_rfl) (by kernel_rfl) (fun _ _ _ h => h) (Or.inl ⟨by rfl, ?hy38⟩) hHeld ?rr38
              case hy38 => (intro w' hSw; obtain ⟨g0, g1⟩ := HSt.out _ hSw; go_simp; try with_reducible rfl)
              try simp only [Act.put, List.setIfInBounds_toArray, List.set_cons_zero, List.set_cons_succ, List.getElem_toArray, List.getElem_cons_succ, List.getElem_cons_zero]
              refine wpAnyZ_ready (rs := [23]) (by kernel_rfl) (by simp) ?_
              refine AllReadyZ.last rfl (fun K hK => ?_)
              try rw [if_pos (by rfl)]
              go_simp
              refine hK.out _ _ ?_
              clear hK K hHeld
              try simp only [Act.put, List.setIfInBounds_toArray, List.set_cons_zero, List.set_cons_succ, List.getElem_toArray, List.getElem_cons_succ, List.getElem_cons_zero]
              refine wpAnyZ_done (by kernel_rfl) ?_ _
              have hln : (insP d (at_, id)).length = 1 := by rw [insP_len]; have := HM.out; omega
              have HE : Hid (RefQ (w7.setCell ⟨x, 0, none⟩ (.slice A7 (1) c7)) (fun k => F2 k ∨ w2.heap.size ≤ k) x (insP d (at_, id)) ∧ Moved F2 w2 (w7.setCell ⟨x, 0, none⟩ (.slice A7 (1) c7))) := Lib.hid (by
                have := ref_end (l' := insP d (at_, id)) (A5 := A7) (c5 := c7) Q1.out Q3.out HB7.out (by rw [hln, HD.out, cellsT_app, cellsT_app]; rw [List.drop_of_length_le (i := 0) (l := d) (by have := HM.out; omega)]; simpa [cellsT] using HO7.out) (by rw [hln]; omega)
                rw [hln] at this; exact this)
              clear hln
              go_wp2
              go_ret
              exact HF.out _ HE.out
          | some ga =>
            obtain ⟨g, rfl⟩ := hA1 ga rfl
            clear hA0 hA1
            subst hkm0
            by_cases hck : c2 = k
            · subst hck
              obtain ⟨k, hkk⟩ : ∃ k, k = c2 := ⟨_, rfl⟩
              subst hkk
              have HS1 : Hid (∀ V, Below w2.heap.size w2 V → 0 < k → ∃ ad, (some ⟨g, 0, none⟩ : Option Addr) = some ad ∧ ∀ j u, (cellsT (d.take k))[j]? = some u → V.cell? (ad.add j) = some u) := Lib.hid (fun V hV h0 => by
                obtain ⟨g', eg, hs⟩ := ref_src (lo := 0) (hi := k) (own_moved (p := fun _ => False) Q2.out (Below.movedNew hV) (fun _ _ h => h)) (by have := HM.out; omega) (by omega) (by omega)
                injection eg with eg; injection eg with eg; subst eg
                exact ⟨_, rfl, by simpa using hs⟩)
              have HL1 : Hid ((cellsT (d.take k)).length = k * 2) := Lib.hid (by rw [cellsT_len, List.length_take, Nat.min_eq_left (by have := HM.out; omega)])
              have hkz : (0 : Int) ≤ (k : Int) := by omega
              have hkb : (k : Int) ≤ 65536 := by omega
              have HSt : Hid (∀ V, Below w2.heap.size w2 V → V.cell? ⟨x, 0, none⟩ = some (.slice (some ⟨g, 0, none⟩) k k) ∧ V.frozen? ⟨x, 0, none⟩ = false) := Lib.hid (fun V hV => ⟨cell_later hV c1, by rw [hV.frozen (p := ⟨x, 0, none⟩) hx]; exact hfz⟩)
              go_wp2_with fail
              have HBA : Hid (Below w2.heap.size w2 (w2.alloc (.cells #[] 36)).drew) := Lib.hid (below_alloc _ _).drew
              have HBB : Hid (Below w2.heap.size w2 ((w2.alloc (.cells #[] 36)).alloc (.cells #[.int .i64 at_, .int .i64 id] 36)).drew) := Lib.hid (((below_alloc _ _).alloc (by simp) _).drew)
              have HBC : Hid (Below w2.heap.size w2 (w2.alloc (.cells #[.int .i64 at_, .int .i64 id] 36)).drew) := Lib.hid (below_alloc _ _).drew
              have HBD : Hid (Below w2.heap.size w2 ((w2.alloc (.cells #[.int .i64 at_, .int .i64 id] 36)).alloc (.cells #[] 36)).drew) := Lib.hid (((below_alloc _ _).alloc (by simp) _).drew)
              have HOA : Hid (((w2.alloc (.cells #[] 36)).drew).ownsRow w2.heap.size 36 2 (.slice (some ⟨w2.heap.size, 0, none⟩) 0 0) 0 []) := Lib.hid (World.ownsRow_made w2 #[] 0 (Nat.le_refl _) (Nat.zero_le _) rfl)
              have HOB : Hid ((((w2.alloc (.cells #[] 36)).alloc (.cells #[.int .i64 at_, .int .i64 id] 36)).drew).ownsRow w2.heap.size 36 2 (.slice (some ⟨w2.heap.size, 0, none⟩) 0 0) 0 []) := Lib.hid (own_moved (p := fun _ => False) HOA.out (Below.movedNew (below_alloc _ _)) (fun _ _ h => h))
              have hod : ((w2.alloc (.cells #[.int .i64 at_, .int .i64 id] 36)).alloc (.cells #[] 36)).ownsRow w2.heap.size 36 2 (.slice (some ⟨w2.heap.size + 1, 0, none⟩) 0 0) 0 [] := by have h9 := World.ownsRow_made (base := w2.heap.size) (w2.alloc (.cells #[.int .i64 at_, .int .i64 id] 36)) #[] 0 (by simp) (Nat.zero_le _) rfl (e := 36) (size := 2); simpa using h9
              have HOD : Hid ((((w2.alloc (.cells #[.int .i64 at_, .int .i64 id] 36)).alloc (.cells #[] 36)).drew).ownsRow w2.heap.size 36 2 (.slice (some ⟨w2.heap.size + 1, 0, none⟩) 0 0) 0 []) := Lib.hid hod
              clear hod
              have htb : ((w2.alloc (.cells #[] 36)).alloc (.cells #[.int .i64 at_, .int .i64 id] 36)).heap[w2.heap.size + 1]? = some (.cells #[.int .i64 at_, .int .i64 id] 36 (0, 0)) := by have h9 := heap_new (w2.alloc (.cells #[] 36)) (.cells #[.int .i64 at_, .int .i64 id] 36); rw [show (w2.alloc (.cells #[] 36)).heap.size = w2.heap.size + 1 from by simp] at h9; exact h9
              have HTB : Hid ((((w2.alloc (.cells #[] 36)).alloc (.cells #[.int .i64 at_, .int .i64 id] 36)).drew).heap[w2.heap.size + 1]? = some (.cells #[.int .i64 at_, .int .i64 id] 36 (0, 0))) := Lib.hid htb
              clear htb
              have HTD : Hid ((((w2.alloc (.cells #[.int .i64 at_, .int .i64 id] 36)).alloc (.cells #[] 36)).drew).heap[w2.heap.size]? = some (.cells #[.int .i64 at_, .int .i64 id] 36 (0, 0))) := Lib.hid (((below_alloc (w2.alloc (.cells #[.int .i64 at_, .int .i64 id] 36)) (.cells #[] 36)).block _ (by simp)).trans (heap_new w2 (.cells #[.int .i64 at_, .int .i64 id] 36)))
              refine wp_region_heldz_drew (S := (fun w' => Below w2.heap.size w2 w')) 23 (by kernel_rfl) (Below.refl _ _).drew (fun hHeld => ?_)
              refine wpAnyZ_take (i := 0) (v := ?vv39) rfl (by kernel_rfl) (by kernel_rfl) (by kernel_rfl) (fun _ _ _ h => h) (Or.inl ⟨by rfl, ?hy39⟩) hHeld ?rr39
              case hy39 => (intro w' hSw; obtain ⟨g0, g1⟩ := HSt.out _ hSw; go_simp; try with_reducible rfl)
              try simp only [Act.put, List.setIfInBounds_toArray, List.set_cons_zero, List.set_cons_succ, List.getElem_toArray, List.getElem_cons_succ, List.getElem_cons_zero]
              refine wpAnyZ_take (i := 2) (v := ?vv40) rfl (by kernel_rfl) (by kernel_rfl) (by kernel_rfl) (fun _ _ _ h => h) (Or.inl ⟨by rfl, ?hy40⟩) hHeld ?rr40
              case hy40 => (intro w' hSw; obtain ⟨g0, g1⟩ := HSt.out _ hSw; go_simp; try with_reducible rfl)
              try simp only [Act.put, List.setIfInBounds_toArray, List.set_cons_zero, List.set_cons_succ, List.getElem_toArray, List.getElem_cons_succ, List.getElem_cons_zero]
              refine wpAnyZ_take (i := 3) (v := ?vv41) rfl (by kernel_rfl) (by kernel_rfl) (by kernel_rfl) (fun _ _ _ h => h) (Or.inl ⟨by rfl, ?hy41⟩) hHeld ?rr41
              case hy41 => (intro w' hSw; obtain ⟨g0, g1⟩ := HSt.out _ hSw; go_simp; try with_reducible rfl)
              try simp only [Act.put, List.setIfInBounds_toArray, List.set_cons_zero, List.set_cons_succ, List.getElem_toArray, List.getElem_cons_succ, List.getElem_cons_zero]
              refine wpAnyZ_take (i := 4) (v := ?vv42) rfl (by kernel_rfl) (by kernel_rfl) (by kernel_rfl) (fun _ _ _ h => h) (Or.inl ⟨by rfl, ?hy42⟩) hHeld ?rr42
              case hy42 => (intro w' hSw; obtain ⟨g0, g1⟩ := HSt.out _ hSw; go_simp; try with_reducible rfl)
              try simp only [Act.put, List.setIfInBounds_toArray, List.set_cons_zero, List.set_cons_succ, List.getElem_toArray, List.getElem_cons_succ, List.getElem_cons_zero]
              refine wpAnyZ_take (i := 5) (v := ?vv43) rfl (by kernel_rfl) (by kernel_rfl) (by kernel_rfl) (fun _ _ _ h => h) (Or.inl ⟨by rfl, ?hy43⟩) hHeld ?rr43
              case hy43 => (intro w' hSw; obtain ⟨g0, g1⟩ := HSt.out _ hSw; go_simp; try with_reducible rfl)
              try simp only [Act.put, List.setIfInBounds_toArray, List.set_cons_zero, List.set_cons_succ, List.getElem_toArray, List.getElem_cons_succ, List.getElem_cons_zero]
              refine wpAnyZ_take (i := 6) (v := ?vv44) rfl (by kernel_rfl) (by kernel_rfl) (by kernel_rfl) (fun _ _ _ h => h) (Or.inl ⟨by rfl, ?hy44⟩) hHeld ?rr44
              case hy44 => (intro w' hSw; obtain ⟨g0, g1⟩ := HSt.out _ hSw; go_simp; try with_reducible rfl)
              try simp only [Act.put, List.setIfInBounds_toArray, List.set_cons_zero, List.set_cons_succ, List.getElem_toArray, List.getElem_cons_succ, List.getElem_cons_zero]
              refine wpAnyZ_take (i := 7) (v := ?vv45) rfl (by kernel_rfl) (by kernel_rfl) (by kernel_rfl) (fun _ _ _ h => h) (Or.inl ⟨by rfl, ?hy45⟩) hHeld ?rr45
              case hy45 => (intro w' hSw; obtain ⟨g0, g1⟩ := HSt.out _ hSw; go_simp; try with_reducible rfl)
              try simp only [Act.put, List.setIfInBounds_toArray, List.set_cons_zero, List.set_cons_succ, List.getElem_toArray, List.getElem_cons_succ, List.getElem_cons_zero]
              refine wpAnyZ_take (i := 9) (v := ?vv46) rfl (by kernel_rfl) (by kernel_rfl) (by kernel_rfl) (fun _ _ _ h => h) (Or.inl ⟨by rfl, ?hy46⟩) hHeld ?rr46
              case hy46 => (intro w' hSw; obtain ⟨g0, g1⟩ := HSt.out _ hSw; go_simp; try with_reducible rfl)
              try simp only [Act.put, List.setIfInBounds_toArray, List.set_cons_zero, List.set_cons_succ, List.getElem_toArray, List.getElem_cons_succ, List.getElem_cons_zero]
              refine wpAnyZ_take (i := 10) (v := ?vv47) rfl (by kernel_rfl) (by kernel_rfl) (by kernel_rfl) (fun _ _ _ h => h) (Or.inl ⟨by rfl, ?hy47⟩) hHeld ?rr47
              case hy47 => (intro w' hSw; obtain ⟨g0, g1⟩ := HSt.out _ hSw; go_simp; try with_reducible rfl)
              try simp only [Act.put, List.setIfInBounds_toArray, List.set_cons_zero, List.set_cons_succ, List.getElem_toArray, List.getElem_cons_succ, List.getElem_cons_zero]
              refine wpAnyZ_take (i := 11) (v := ?vv48) rfl (by kernel_rfl) (by kernel_rfl) (by kernel_rfl) (fun _ _ _ h => h) (Or.inl ⟨by rfl, ?hy48⟩) hHeld ?rr48
              case hy48 => (intro w' hSw; obtain ⟨g0, g1⟩ := HSt.out _ hSw; go_simp; try with_reducible rfl)
              try simp only [Act.put, List.setIfInBounds_toArray, List.set_cons_zero, List.set_cons_succ, List.getElem_toArray, List.getElem_cons_succ, List.getElem_cons_zero]
              refine wpAnyZ_take (i := 14) (v := ?vv49) rfl (by kernel_rfl) (by kernel_rfl) (by kernel_rfl) (fun _ _ _ h => h) (Or.inl ⟨by rfl, ?hy49⟩) hHeld ?rr49
              case hy49 => (intro w' hSw; obtain ⟨g0, g1⟩ := HSt.out _ hSw; go_simp; try with_reducible rfl)
              try simp only [Act.put, List.setIfInBounds_toArray, List.set_cons_zero, List.set_cons_succ, List.getElem_toArray, List.getElem_cons_succ, List.getElem_cons_zero]
              refine wpAnyZ_take (i := 15) (v := ?vv50) rfl (by kernel_rfl) (by kernel_rfl) (by kernel_rfl) (fun _ _ _ h => h) (Or.inl ⟨by rfl, ?hy50⟩) hHeld ?rr50
              case hy50 => (intro w' hSw; obtain ⟨g0, g1⟩ := HSt.out _ hSw; go_simp; try with_reducible rfl)
              try simp only [Act.put, List.setIfInBounds_toArray, List.set_cons_zero, List.set_cons_succ, List.getElem_toArray, List.getElem_cons_succ, List.getElem_cons_zero]
              refine wpAnyZ_take (i := 16) (v := ?vv51) rfl (by kernel_rfl) (by kernel_rfl) (by kernel_rfl) (fun _ _ _ h => h) (Or.inl ⟨by rfl, ?hy51⟩) hHeld ?rr51
              case hy51 => (intro w' hSw; obtain ⟨g0, g1⟩ := HSt.out _ hSw; go_simp; try with_reducible rfl)
              try simp only [Act.put, List.setIfInBounds_toArray, List.set_cons_zero, List.set_cons_succ, List.getElem_toArray, List.getElem_cons_succ, List.getElem_cons_zero]
              refine wpAnyZ_take (i := 17) (v := ?vv52) rfl (by kernel_rfl) (by kernel_rfl) (by kernel_rfl) (fun _ _ _ h => h) (Or.inl ⟨by rfl, ?hy52⟩) hHeld ?rr52
              case hy52 => (intro w' hSw; obtain ⟨g0, g1⟩ := HSt.out _ hSw; go_simp; try with_reducible rfl)
              try simp only [Act.put, List.setIfInBounds_toArray, List.set_cons_zero, List.set_cons_succ, List.getElem_toArray, List.getElem_cons_succ, List.getElem_cons_zero]
              refine wpAnyZ_take (i := 18) (v := ?vv53) rfl (by kernel_rfl) (by kernel_rfl) (by kernel_rfl) (fun _ _ _ h => h) (Or.inl ⟨by rfl, ?hy53⟩) hHeld ?rr53
              case hy53 => (intro w' hSw; obtain ⟨g0, g1⟩ := HSt.out _ hSw; go_simp; try with_reducible rfl)
              try simp only [Act.put, List.setIfInBounds_toArray, List.set_cons_zero, List.set_cons_succ, List.getElem_toArray, List.getElem_cons_succ, List.getElem_cons_zero]
              refine wpAnyZ_take (i := 19) (v := ?vv54) rfl (by kernel_rfl) (by kernel_rfl) (by kernel_rfl) (fun _ _ _ h => h) (Or.inl ⟨by rfl, ?hy54⟩) hHeld ?rr54
              case hy54 => (intro w' hSw; obtain ⟨g0, g1⟩ := HSt.out _ hSw; go_simp; try with_reducible rfl)
              try simp only [Act.put, List.setIfInBounds_toArray, List.set_cons_zero, List.set_cons_succ, List.getElem_toArray, List.getElem_cons_succ, List.getElem_cons_zero]
              refine wpAnyZ_ready (rs := [1, 12]) (by kernel_rfl) (by simp) ?_
              refine AllReadyZ.cons rfl (fun K hK => ?_) (AllReadyZ.cons rfl (fun K hK => ?_) AllReadyZ.nil)
              · try rw [if_pos (by rfl)]
                go_simp
                refine hK.out _ _ HBA.out (fun hHeld2 => ?_)
                clear hK K hHeld
                have hHeld := hHeld2
                clear hHeld2
                try simp only [Act.put, List.setIfInBounds_toArray, List.set_cons_zero, List.set_cons_succ, List.getElem_toArray, List.getElem_cons_succ, List.getElem_cons_zero]
                refine wpAnyZ_ready (rs := [8, 12]) (by kernel_rfl) (by simp) ?_
                refine AllReadyZ.cons rfl (fun K hK => ?_) (AllReadyZ.cons rfl (fun K hK => ?_) AllReadyZ.nil)
                · try rw [if_pos (by rfl)]
                  refine oper_append_k _ (.tmp 51) (.tmp 57) 26 rfl 36 i0 (.agg #[.int .i64 0, .int .i64 0]) 2 16 Try.underlying26 hinfo hz0 hz1 hz2 rfl (by decide) w2.heap.size (.slice (some ⟨w2.heap.size, 0, none⟩) 0 0) 0 [] rfl HOA.out (some ⟨g, 0, none⟩) k k (cellsT (d.take k)) rfl HL1.out (HS1.out _ HBA.out) (cellsT_one _) (by unfold maxLen; omega) (by omega) HBA.out.size ?_
                  intro A5 c5 w5 hown5 hgrow5 _
                  simp only [Nat.zero_add, Nat.add_zero] at hown5 ⊢
                  have HO5 : Hid (w5.ownsRow w2.heap.size 36 2 (.slice A5 k c5) k (cellsT (d.take k))) := Lib.hid (by simpa using hown5)
                  have HB5 : Hid (Below w2.heap.size w2 w5) := Lib.hid (HBA.out.grown hgrow5 HBA.out.size (fun k e => (HOA.out.lt k e).1))
                  clear hown5 hgrow5
                  refine hK.out _ _ HB5.out (fun hHeld2 => ?_)
                  clear hK K hHeld
                  have hHeld := hHeld2
                  clear hHeld2
                  try simp only [Act.put, List.setIfInBounds_toArray, List.set_cons_zero, List.set_cons_succ, List.getElem_toArray, List.getElem_cons_succ, List.getElem_cons_zero]
                  refine wpAnyZ_ready (rs := [12]) (by kernel_rfl) (by simp) ?_
                  refine AllReadyZ.cons rfl (fun K hK => ?_) AllReadyZ.nil
                  try rw [if_pos (by rfl)]
                  go_simp
                  have HO5a := Lib.hid (own_moved (p := fun _ => False) HO5.out (Below.movedNew (below_alloc w5 (.cells #[.int .i64 at_, .int .i64 id] 36))) (fun _ _ h => h))
                  have HB5a := Lib.hid (HB5.out.alloc HB5.out.size (.cells #[.int .i64 at_, .int .i64 id] 36))
                  have HT5a := Lib.hid (heap_new w5 (.cells #[.int .i64 at_, .int .i64 id] 36))
                  refine hK.out _ _ HB5a.out (fun hHeld2 => ?_)
                  clear hK K hHeld
                  have hHeld := hHeld2
                  clear hHeld2
                  try simp only [Act.put, List.setIfInBounds_toArray, List.set_cons_zero, List.set_cons_succ, List.getElem_toArray, List.getElem_cons_succ, List.getElem_cons_zero]
                  refine wpAnyZ_ready (rs := [13]) (by kernel_rfl) (by simp) ?_
                  refine AllReadyZ.cons rfl (fun K hK => ?_) AllReadyZ.nil
                  try rw [if_pos (by rfl)]
                  refine oper_append_k _ (.tmp 58) (.tmp 62) 26 rfl 36 i0 (.agg #[.int .i64 0, .int .i64 0]) 2 16 Try.underlying26 hinfo hz0 hz1 hz2 rfl (by decide) w2.heap.size (.slice A5 k c5) k (cellsT (d.take k)) rfl HO5a.out (some ⟨w5.heap.size, 0, none⟩) 1 1 [.int .i64 at_, .int .i64 id] rfl rfl (fun _ => ⟨_, rfl, cells_add HT5a.out⟩) (fun u hu => by simp at hu; rcases hu with rfl | rfl <;> rfl) (by unfold maxLen; omega) (by omega) HB5a.out.size ?_
                  intro A6 c6 w6 hown6 hgrow6 _
                  try simp only [Nat.zero_add, Nat.add_zero] at hown6 ⊢
                  have HO6 := Lib.hid hown6
                  have HB6 : Hid (Below w2.heap.size w2 w6) := Lib.hid (HB5a.out.grown hgrow6 HB5a.out.size (fun k e => (HO5a.out.lt k e).1))
                  clear hown6 hgrow6
                  refine hK.out _ _ HB6.out (fun hHeld2 => ?_)
                  clear hK K hHeld
                  have hHeld := hHeld2
                  clear hHeld2
                  try simp only [Act.put, List.setIfInBounds_toArray, List.set_cons_zero, List.set_cons_succ, List.getElem_toArray, List.getElem_cons_succ, List.getElem_cons_zero]
                  refine wpAnyZ_ready (rs := [20]) (by kernel_rfl) (by simp) ?_
                  refine AllReadyZ.cons rfl (fun K hK => ?_) AllReadyZ.nil
                  try rw [if_pos (by rfl)]
                  refine oper_append_k _ (.tmp 63) (.tmp 69) 26 rfl 36 i0 (.agg #[.int .i64 0, .int .i64 0]) 2 16 Try.underlying26 hinfo hz0 hz1 hz2 rfl (by decide) w2.heap.size (.slice A6 (k + 1) c6) (k + 1) _ rfl HO6.out (some ⟨g, 0, none⟩) 0 0 [] rfl rfl (fun h => absurd h (Nat.lt_irrefl _)) (by simp) (by unfold maxLen; omega) (by omega) HB6.out.size ?_
                  intro A7 c7 w7 hown7 hgrow7 _
                  try simp only [Nat.zero_add, Nat.add_zero] at hown7 ⊢
                  have HO7 := Lib.hid hown7
                  have HB7 : Hid (Below w2.heap.size w2 w7) := Lib.hid (HB6.out.grown hgrow7 HB6.out.size (fun k e => (HO6.out.lt k e).1))
                  clear hown7 hgrow7
                  obtain ⟨b0, b1⟩ := HSt.out _ HB7.out
                  refine hK.out _ _ HB7.out (fun hHeld2 => ?_)
                  clear hK K hHeld
                  have hHeld := hHeld2
                  clear hHeld2
                  try simp only [Act.put, List.setIfInBounds_toArray, List.set_cons_zero, List.set_cons_succ, List.getElem_toArray, List.getElem_cons_succ, List.getElem_cons_zero]
                  refine wpAnyZ_ready (rs := [21]) (by kernel_rfl) (by simp) ?_
                  refine AllReadyZ.cons rfl (fun K hK => ?_) AllReadyZ.nil
                  try rw [if_pos (by rfl)]
                  go_simp
                  refine hK.out _ _ HB7.out (fun hHeld2 => ?_)
                  clear hK K hHeld
                  have hHeld := hHeld2
                  clear hHeld2
                  try simp only [Act.put, List.setIfInBounds_toArray, List.set_cons_zero, List.set_cons_succ, List.getElem_toArray, List.getElem_cons_succ, List.getElem_cons_zero]
                  refine wpAnyZ_take (i := 22) (v := ?vv55) rfl (by kernel_rfl) (by kernel_rfl) (by kernel_rfl) (fun _ _ _ h => h) (Or.inl ⟨by rfl, ?hy55⟩) hHeld ?rr55
                  case hy55 => (intro w' hSw; obtain ⟨g0, g1⟩ := HSt.out _ hSw; go_simp; try with_reducible rfl)
                  try simp only [Act.put, List.setIfInBounds_toArray, List.set_cons_zero, List.set_cons_succ, List.getElem_toArray, List.getElem_cons_succ, List.getElem_cons_zero]
                  refine wpAnyZ_ready (rs := [23]) (by kernel_rfl) (by simp) ?_
                  refine AllReadyZ.last rfl (fun K hK => ?_)
                  try rw [if_pos (by rfl)]
                  go_simp
                  refine hK.out _ _ ?_
                  clear hK K hHeld
                  try simp only [Act.put, List.setIfInBounds_toArray, List.set_cons_zero, List.set_cons_succ, List.getElem_toArray, List.getElem_cons_succ, List.getElem_cons_zero]
                  refine wpAnyZ_done (by kernel_rfl) ?_ _
                  have hln : (insP d (at_, id)).length = k + 1 := by rw [insP_len]; have := HM.out; omega
                  have HE : Hid (RefQ (w7.setCell ⟨x, 0, none⟩ (.slice A7 (k + 1) c7)) (fun k => F2 k ∨ w2.heap.size ≤ k) x (insP d (at_, id)) ∧ Moved F2 w2 (w7.setCell ⟨x, 0, none⟩ (.slice A7 (k + 1) c7))) := Lib.hid (by
                    have := ref_end (l' := insP d (at_, id)) (A5 := A7) (c5 := c7) Q1.out Q3.out HB7.out (by rw [hln, HD.out, cellsT_app, cellsT_app]; rw [List.drop_of_length_le (i := k) (l := d) (by have := HM.out; omega)]; simpa [cellsT] using HO7.out) (by rw [hln]; omega)
                    rw [hln] at this; exact this)
                  clear hln
                  go_wp2
                  go_ret
                  exact HF.out _ HE.out
                · try rw [if_pos (by rfl)]
                  go_simp
                  refine hK.out _ _ HBB.out (fun hHeld2 => ?_)
                  clear hK K hHeld
                  have hHeld := hHeld2
                  clear hHeld2
                  try simp only [Act.put, List.setIfInBounds_toArray, List.set_cons_zero, List.set_cons_succ, List.getElem_toArray, List.getElem_cons_succ, List.getElem_cons_zero]
                  refine wpAnyZ_ready (rs := [8]) (by kernel_rfl) (by simp) ?_
                  refine AllReadyZ.cons rfl (fun K hK => ?_) AllReadyZ.nil
                  try rw [if_pos (by rfl)]
                  refine oper_append_k _ (.tmp 51) (.tmp 57) 26 rfl 36 i0 (.agg #[.int .i64 0, .int .i64 0]) 2 16 Try.underlying26 hinfo hz0 hz1 hz2 rfl (by decide) w2.heap.size (.slice (some ⟨w2.heap.size, 0, none⟩) 0 0) 0 [] rfl HOB.out (some ⟨g, 0, none⟩) k k (cellsT (d.take k)) rfl HL1.out (HS1.out _ HBB.out) (cellsT_one _) (by unfold maxLen; omega) (by omega) HBB.out.size ?_
                  intro A5 c5 w5 hown5 hgrow5 _
                  simp only [Nat.zero_add, Nat.add_zero] at hown5 ⊢
                  have HO5 : Hid (w5.ownsRow w2.heap.size 36 2 (.slice A5 k c5) k (cellsT (d.take k))) := Lib.hid (by simpa using hown5)
                  have HB5 : Hid (Below w2.heap.size w2 w5) := Lib.hid (HBB.out.grown hgrow5 HBB.out.size (fun k e => (HOB.out.lt k e).1))
                  have HT5 := Lib.hid ((hgrow5.block (w2.heap.size + 1) (heap_lt HTB.out) (fun e => by have e : w2.heap.size + 1 = w2.heap.size := Option.some.inj e; omega)).trans HTB.out)
                  clear hown5 hgrow5
                  refine hK.out _ _ HB5.out (fun hHeld2 => ?_)
                  clear hK K hHeld
                  have hHeld := hHeld2
                  clear hHeld2
                  try simp only [Act.put, List.setIfInBounds_toArray, List.set_cons_zero, List.set_cons_succ, List.getElem_toArray, List.getElem_cons_succ, List.getElem_cons_zero]
                  refine wpAnyZ_ready (rs := [13]) (by kernel_rfl) (by simp) ?_
                  refine AllReadyZ.cons rfl (fun K hK => ?_) AllReadyZ.nil
                  try rw [if_pos (by rfl)]
                  refine oper_append_k _ (.tmp 58) (.tmp 62) 26 rfl 36 i0 (.agg #[.int .i64 0, .int .i64 0]) 2 16 Try.underlying26 hinfo hz0 hz1 hz2 rfl (by decide) w2.heap.size (.slice A5 k c5) k (cellsT (d.take k)) rfl HO5.out (some ⟨w2.heap.size + 1, 0, none⟩) 1 1 [.int .i64 at_, .int .i64 id] rfl rfl (fun _ => ⟨_, rfl, cells_add HT5.out⟩) (fun u hu => by simp at hu; rcases hu with rfl | rfl <;> rfl) (by unfold maxLen; omega) (by omega) HB5.out.size ?_
                  intro A6 c6 w6 hown6 hgrow6 _
                  try simp only [Nat.zero_add, Nat.add_zero] at hown6 ⊢
                  have HO6 := Lib.hid hown6
                  have HB6 : Hid (Below w2.heap.size w2 w6) := Lib.hid (HB5.out.grown hgrow6 HB5.out.size (fun k e => (HO5.out.lt k e).1))
                  clear hown6 hgrow6
                  refine hK.out _ _ HB6.out (fun hHeld2 => ?_)
                  clear hK K hHeld
                  have hHeld := hHeld2
                  clear hHeld2
                  try simp only [Act.put, List.setIfInBounds_toArray, List.set_cons_zero, List.set_cons_succ, List.getElem_toArray, List.getElem_cons_succ, List.getElem_cons_zero]
                  refine wpAnyZ_ready (rs := [20]) (by kernel_rfl) (by simp) ?_
                  refine AllReadyZ.cons rfl (fun K hK => ?_) AllReadyZ.nil
                  try rw [if_pos (by rfl)]
                  refine oper_append_k _ (.tmp 63) (.tmp 69) 26 rfl 36 i0 (.agg #[.int .i64 0, .int .i64 0]) 2 16 Try.underlying26 hinfo hz0 hz1 hz2 rfl (by decide) w2.heap.size (.slice A6 (k + 1) c6) (k + 1) _ rfl HO6.out (some ⟨g, 0, none⟩) 0 0 [] rfl rfl (fun h => absurd h (Nat.lt_irrefl _)) (by simp) (by unfold maxLen; omega) (by omega) HB6.out.size ?_
                  intro A7 c7 w7 hown7 hgrow7 _
                  try simp only [Nat.zero_add, Nat.add_zero] at hown7 ⊢
                  have HO7 := Lib.hid hown7
                  have HB7 : Hid (Below w2.heap.size w2 w7) := Lib.hid (HB6.out.grown hgrow7 HB6.out.size (fun k e => (HO6.out.lt k e).1))
                  clear hown7 hgrow7
                  obtain ⟨b0, b1⟩ := HSt.out _ HB7.out
                  refine hK.out _ _ HB7.out (fun hHeld2 => ?_)
                  clear hK K hHeld
                  have hHeld := hHeld2
                  clear hHeld2
                  try simp only [Act.put, List.setIfInBounds_toArray, List.set_cons_zero, List.set_cons_succ, List.getElem_toArray, List.getElem_cons_succ, List.getElem_cons_zero]
                  refine wpAnyZ_ready (rs := [21]) (by kernel_rfl) (by simp) ?_
                  refine AllReadyZ.cons rfl (fun K hK => ?_) AllReadyZ.nil
                  try rw [if_pos (by rfl)]
                  go_simp
                  refine hK.out _ _ HB7.out (fun hHeld2 => ?_)
                  clear hK K hHeld
                  have hHeld := hHeld2
                  clear hHeld2
                  try simp only [Act.put, List.setIfInBounds_toArray, List.set_cons_zero, List.set_cons_succ, List.getElem_toArray, List.getElem_cons_succ, List.getElem_cons_zero]
                  refine wpAnyZ_take (i := 22) (v := ?vv56) rfl (by kernel_rfl) (by kernel_rfl) (by kernel_rfl) (fun _ _ _ h => h) (Or.inl ⟨by rfl, ?hy56⟩) hHeld ?rr56
                  case hy56 => (intro w' hSw; obtain ⟨g0, g1⟩ := HSt.out _ hSw; go_simp; try with_reducible rfl)
                  try simp only [Act.put, List.setIfInBounds_toArray, List.set_cons_zero, List.set_cons_succ, List.getElem_toArray, List.getElem_cons_succ, List.getElem_cons_zero]
                  refine wpAnyZ_ready (rs := [23]) (by kernel_rfl) (by simp) ?_
                  refine AllReadyZ.last rfl (fun K hK => ?_)
                  try rw [if_pos (by rfl)]
                  go_simp
                  refine hK.out _ _ ?_
                  clear hK K hHeld
                  try simp only [Act.put, List.setIfInBounds_toArray, List.set_cons_zero, List.set_cons_succ, List.getElem_toArray, List.getElem_cons_succ, List.getElem_cons_zero]
                  refine wpAnyZ_done (by kernel_rfl) ?_ _
                  have hln : (insP d (at_, id)).length = k + 1 := by rw [insP_len]; have := HM.out; omega
                  have HE : Hid (RefQ (w7.setCell ⟨x, 0, none⟩ (.slice A7 (k + 1) c7)) (fun k => F2 k ∨ w2.heap.size ≤ k) x (insP d (at_, id)) ∧ Moved F2 w2 (w7.setCell ⟨x, 0, none⟩ (.slice A7 (k + 1) c7))) := Lib.hid (by
                    have := ref_end (l' := insP d (at_, id)) (A5 := A7) (c5 := c7) Q1.out Q3.out HB7.out (by rw [hln, HD.out, cellsT_app, cellsT_app]; rw [List.drop_of_length_le (i := k) (l := d) (by have := HM.out; omega)]; simpa [cellsT] using HO7.out) (by rw [hln]; omega)
                    rw [hln] at this; exact this)
                  clear hln
                  go_wp2
                  go_ret
                  exact HF.out _ HE.out
              · try rw [if_pos (by rfl)]
                go_simp
                refine hK.out _ _ HBC.out (fun hHeld2 => ?_)
                clear hK K hHeld
                have hHeld := hHeld2
                clear hHeld2
                try simp only [Act.put, List.setIfInBounds_toArray, List.set_cons_zero, List.set_cons_succ, List.getElem_toArray, List.getElem_cons_succ, List.getElem_cons_zero]
                refine wpAnyZ_ready (rs := [1]) (by kernel_rfl) (by simp) ?_
                refine AllReadyZ.cons rfl (fun K hK => ?_) AllReadyZ.nil
                try rw [if_pos (by rfl)]
                go_simp
                refine hK.out _ _ HBD.out (fun hHeld2 => ?_)
                clear hK K hHeld
                have hHeld := hHeld2
                clear hHeld2
                try simp only [Act.put, List.setIfInBounds_toArray, List.set_cons_zero, List.set_cons_succ, List.getElem_toArray, List.getElem_cons_succ, List.getElem_cons_zero]
                refine wpAnyZ_ready (rs := [8]) (by kernel_rfl) (by simp) ?_
                refine AllReadyZ.cons rfl (fun K hK => ?_) AllReadyZ.nil
                try rw [if_pos (by rfl)]
                refine oper_append_k _ (.tmp 51) (.tmp 57) 26 rfl 36 i0 (.agg #[.int .i64 0, .int .i64 0]) 2 16 Try.underlying26 hinfo hz0 hz1 hz2 rfl (by decide) w2.heap.size (.slice (some ⟨w2.heap.size + 1, 0, none⟩) 0 0) 0 [] rfl HOD.out (some ⟨g, 0, none⟩) k k (cellsT (d.take k)) rfl HL1.out (HS1.out _ HBD.out) (cellsT_one _) (by unfold maxLen; omega) (by omega) HBD.out.size ?_
                intro A5 c5 w5 hown5 hgrow5 _
                simp only [Nat.zero_add, Nat.add_zero] at hown5 ⊢
                have HO5 : Hid (w5.ownsRow w2.heap.size 36 2 (.slice A5 k c5) k (cellsT (d.take k))) := Lib.hid (by simpa using hown5)
                have HB5 : Hid (Below w2.heap.size w2 w5) := Lib.hid (HBD.out.grown hgrow5 HBD.out.size (fun k e => (HOD.out.lt k e).1))
                have HT5 := Lib.hid ((hgrow5.block w2.heap.size (heap_lt HTD.out) (fun e => by have e : w2.heap.size = w2.heap.size + 1 := Option.some.inj e; omega)).trans HTD.out)
                clear hown5 hgrow5
                refine hK.out _ _ HB5.out (fun hHeld2 => ?_)
                clear hK K hHeld
                have hHeld := hHeld2
                clear hHeld2
                try simp only [Act.put, List.setIfInBounds_toArray, List.set_cons_zero, List.set_cons_succ, List.getElem_toArray, List.getElem_cons_succ, List.getElem_cons_zero]
                refine wpAnyZ_ready (rs := [13]) (by kernel_rfl) (by simp) ?_
                refine AllReadyZ.cons rfl (fun K hK => ?_) AllReadyZ.nil
                try rw [if_pos (by rfl)]
                refine oper_append_k _ (.tmp 58) (.tmp 62) 26 rfl 36 i0 (.agg #[.int .i64 0, .int .i64 0]) 2 16 Try.underlying26 hinfo hz0 hz1 hz2 rfl (by decide) w2.heap.size (.slice A5 k c5) k (cellsT (d.take k)) rfl HO5.out (some ⟨w2.heap.size, 0, none⟩) 1 1 [.int .i64 at_, .int .i64 id] rfl rfl (fun _ => ⟨_, rfl, cells_add HT5.out⟩) (fun u hu => by simp at hu; rcases hu with rfl | rfl <;> rfl) (by unfold maxLen; omega) (by omega) HB5.out.size ?_
                intro A6 c6 w6 hown6 hgrow6 _
                try simp only [Nat.zero_add, Nat.add_zero] at hown6 ⊢
                have HO6 := Lib.hid hown6
                have HB6 : Hid (Below w2.heap.size w2 w6) := Lib.hid (HB5.out.grown hgrow6 HB5.out.size (fun k e => (HO5.out.lt k e).1))
                clear hown6 hgrow6
                refine hK.out _ _ HB6.out (fun hHeld2 => ?_)
                clear hK K hHeld
                have hHeld := hHeld2
                clear hHeld2
                try simp only [Act.put, List.setIfInBounds_toArray, List.set_cons_zero, List.set_cons_succ, List.getElem_toArray, List.getElem_cons_succ, List.getElem_cons_zero]
                refine wpAnyZ_ready (rs := [20]) (by kernel_rfl) (by simp) ?_
                refine AllReadyZ.cons rfl (fun K hK => ?_) AllReadyZ.nil
                try rw [if_pos (by rfl)]
                refine oper_append_k _ (.tmp 63) (.tmp 69) 26 rfl 36 i0 (.agg #[.int .i64 0, .int .i64 0]) 2 16 Try.underlying26 hinfo hz0 hz1 hz2 rfl (by decide) w2.heap.size (.slice A6 (k + 1) c6) (k + 1) _ rfl HO6.out (some ⟨g, 0, none⟩) 0 0 [] rfl rfl (fun h => absurd h (Nat.lt_irrefl _)) (by simp) (by unfold maxLen; omega) (by omega) HB6.out.size ?_
                intro A7 c7 w7 hown7 hgrow7 _
                try simp only [Nat.zero_add, Nat.add_zero] at hown7 ⊢
                have HO7 := Lib.hid hown7
                have HB7 : Hid (Below w2.heap.size w2 w7) := Lib.hid (HB6.out.grown hgrow7 HB6.out.size (fun k e => (HO6.out.lt k e).1))
                clear hown7 hgrow7
                obtain ⟨b0, b1⟩ := HSt.out _ HB7.out
                refine hK.out _ _ HB7.out (fun hHeld2 => ?_)
                clear hK K hHeld
                have hHeld := hHeld2
                clear hHeld2
                try simp only [Act.put, List.setIfInBounds_toArray, List.set_cons_zero, List.set_cons_succ, List.getElem_toArray, List.getElem_cons_succ, List.getElem_cons_zero]
                refine wpAnyZ_ready (rs := [21]) (by kernel_rfl) (by simp) ?_
                refine AllReadyZ.cons rfl (fun K hK => ?_) AllReadyZ.nil
                try rw [if_pos (by rfl)]
                go_simp
                refine hK.out _ _ HB7.out (fun hHeld2 => ?_)
                clear hK K hHeld
                have hHeld := hHeld2
                clear hHeld2
                try simp only [Act.put, List.setIfInBounds_toArray, List.set_cons_zero, List.set_cons_succ, List.getElem_toArray, List.getElem_cons_succ, List.getElem_cons_zero]
                refine wpAnyZ_take (i := 22) (v := ?vv57) rfl (by kernel_rfl) (by kernel_rfl) (by kernel_rfl) (fun _ _ _ h => h) (Or.inl ⟨by rfl, ?hy57⟩) hHeld ?rr57
                case hy57 => (intro w' hSw; obtain ⟨g0, g1⟩ := HSt.out _ hSw; go_simp; try with_reducible rfl)
                try simp only [Act.put, List.setIfInBounds_toArray, List.set_cons_zero, List.set_cons_succ, List.getElem_toArray, List.getElem_cons_succ, List.getElem_cons_zero]
                refine wpAnyZ_ready (rs := [23]) (by kernel_rfl) (by simp) ?_
                refine AllReadyZ.last rfl (fun K hK => ?_)
                try rw [if_pos (by rfl)]
                go_simp
                refine hK.out _ _ ?_
                clear hK K hHeld
                try simp only [Act.put, List.setIfInBounds_toArray, List.set_cons_zero, List.set_cons_succ, List.getElem_toArray, List.getElem_cons_succ, List.getElem_cons_zero]
                refine wpAnyZ_done (by kernel_rfl) ?_ _
                have hln : (insP d (at_, id)).length = k + 1 := by rw [insP_len]; have := HM.out; omega
                have HE : Hid (RefQ (w7.setCell ⟨x, 0, none⟩ (.slice A7 (k + 1) c7)) (fun k => F2 k ∨ w2.heap.size ≤ k) x (insP d (at_, id)) ∧ Moved F2 w2 (w7.setCell ⟨x, 0, none⟩ (.slice A7 (k + 1) c7))) := Lib.hid (by
                  have := ref_end (l' := insP d (at_, id)) (A5 := A7) (c5 := c7) Q1.out Q3.out HB7.out (by rw [hln, HD.out, cellsT_app, cellsT_app]; rw [List.drop_of_length_le (i := k) (l := d) (by have := HM.out; omega)]; simpa [cellsT] using HO7.out) (by rw [hln]; omega)
                  rw [hln] at this; exact this)
                clear hln
                go_wp2
                go_ret
                exact HF.out _ HE.out
            · have HS1 : Hid (∀ V, Below w2.heap.size w2 V → 0 < k → ∃ ad, (some ⟨g, 0, none⟩ : Option Addr) = some ad ∧ ∀ j u, (cellsT (d.take k))[j]? = some u → V.cell? (ad.add j) = some u) := Lib.hid (fun V hV h0 => by
                obtain ⟨g', eg, hs⟩ := ref_src (lo := 0) (hi := k) (own_moved (p := fun _ => False) Q2.out (Below.movedNew hV) (fun _ _ h => h)) (by have := HM.out; omega) (by omega) (by omega)
                injection eg with eg; injection eg with eg; subst eg
                exact ⟨_, rfl, by simpa using hs⟩)
              have HL1 : Hid ((cellsT (d.take k)).length = k * 2) := Lib.hid (by rw [cellsT_len, List.length_take, Nat.min_eq_left (by have := HM.out; omega)])
              have hkz : (0 : Int) ≤ (k : Int) := by omega
              have hkb : (k : Int) ≤ 65536 := by omega
              have hkc : k ≤ c2 := by omega
              have hkc2 : (k : Int) ≤ (c2 : Int) := by omega
              have HSt : Hid (∀ V, Below w2.heap.size w2 V → V.cell? ⟨x, 0, none⟩ = some (.slice (some ⟨g, 0, none⟩) k c2) ∧ V.frozen? ⟨x, 0, none⟩ = false) := Lib.hid (fun V hV => ⟨cell_later hV c1, by rw [hV.frozen (p := ⟨x, 0, none⟩) hx]; exact hfz⟩)
              go_wp2_with fail
              have HBA : Hid (Below w2.heap.size w2 (w2.alloc (.cells #[] 36)).drew) := Lib.hid (below_alloc _ _).drew
              have HBB : Hid (Below w2.heap.size w2 ((w2.alloc (.cells #[] 36)).alloc (.cells #[.int .i64 at_, .int .i64 id] 36)).drew) := Lib.hid (((below_alloc _ _).alloc (by simp) _).drew)
              have HBC : Hid (Below w2.heap.size w2 (w2.alloc (.cells #[.int .i64 at_, .int .i64 id] 36)).drew) := Lib.hid (below_alloc _ _).drew
              have HBD : Hid (Below w2.heap.size w2 ((w2.alloc (.cells #[.int .i64 at_, .int .i64 id] 36)).alloc (.cells #[] 36)).drew) := Lib.hid (((below_alloc _ _).alloc (by simp) _).drew)
              have HOA : Hid (((w2.alloc (.cells #[] 36)).drew).ownsRow w2.heap.size 36 2 (.slice (some ⟨w2.heap.size, 0, none⟩) 0 0) 0 []) := Lib.hid (World.ownsRow_made w2 #[] 0 (Nat.le_refl _) (Nat.zero_le _) rfl)
              have HOB : Hid ((((w2.alloc (.cells #[] 36)).alloc (.cells #[.int .i64 at_, .int .i64 id] 36)).drew).ownsRow w2.heap.size 36 2 (.slice (some ⟨w2.heap.size, 0, none⟩) 0 0) 0 []) := Lib.hid (own_moved (p := fun _ => False) HOA.out (Below.movedNew (below_alloc _ _)) (fun _ _ h => h))
              have hod : ((w2.alloc (.cells #[.int .i64 at_, .int .i64 id] 36)).alloc (.cells #[] 36)).ownsRow w2.heap.size 36 2 (.slice (some ⟨w2.heap.size + 1, 0, none⟩) 0 0) 0 [] := by have h9 := World.ownsRow_made (base := w2.heap.size) (w2.alloc (.cells #[.int .i64 at_, .int .i64 id] 36)) #[] 0 (by simp) (Nat.zero_le _) rfl (e := 36) (size := 2); simpa using h9
              have HOD : Hid ((((w2.alloc (.cells #[.int .i64 at_, .int .i64 id] 36)).alloc (.cells #[] 36)).drew).ownsRow w2.heap.size 36 2 (.slice (some ⟨w2.heap.size + 1, 0, none⟩) 0 0) 0 []) := Lib.hid hod
              clear hod
              have htb : ((w2.alloc (.cells #[] 36)).alloc (.cells #[.int .i64 at_, .int .i64 id] 36)).heap[w2.heap.size + 1]? = some (.cells #[.int .i64 at_, .int .i64 id] 36 (0, 0)) := by have h9 := heap_new (w2.alloc (.cells #[] 36)) (.cells #[.int .i64 at_, .int .i64 id] 36); rw [show (w2.alloc (.cells #[] 36)).heap.size = w2.heap.size + 1 from by simp] at h9; exact h9
              have HTB : Hid ((((w2.alloc (.cells #[] 36)).alloc (.cells #[.int .i64 at_, .int .i64 id] 36)).drew).heap[w2.heap.size + 1]? = some (.cells #[.int .i64 at_, .int .i64 id] 36 (0, 0))) := Lib.hid htb
              clear htb
              have HTD : Hid ((((w2.alloc (.cells #[.int .i64 at_, .int .i64 id] 36)).alloc (.cells #[] 36)).drew).heap[w2.heap.size]? = some (.cells #[.int .i64 at_, .int .i64 id] 36 (0, 0))) := Lib.hid (((below_alloc (w2.alloc (.cells #[.int .i64 at_, .int .i64 id] 36)) (.cells #[] 36)).block _ (by simp)).trans (heap_new w2 (.cells #[.int .i64 at_, .int .i64 id] 36)))
              refine wp_region_heldz_drew (S := (fun w' => Below w2.heap.size w2 w')) 23 (by kernel_rfl) (Below.refl _ _).drew (fun hHeld => ?_)
              refine wpAnyZ_take (i := 0) (v := ?vv58) rfl (by kernel_rfl) (by kernel_rfl) (by kernel_rfl) (fun _ _ _ h => h) (Or.inl ⟨by rfl, ?hy58⟩) hHeld ?rr58
              case hy58 => (intro w' hSw; obtain ⟨g0, g1⟩ := HSt.out _ hSw; go_simp; try with_reducible rfl)
              try simp only [Act.put, List.setIfInBounds_toArray, List.set_cons_zero, List.set_cons_succ, List.getElem_toArray, List.getElem_cons_succ, List.getElem_cons_zero]
              refine wpAnyZ_take (i := 2) (v := ?vv59) rfl (by kernel_rfl) (by kernel_rfl) (by kernel_rfl) (fun _ _ _ h => h) (Or.inl ⟨by rfl, ?hy59⟩) hHeld ?rr59
              case hy59 => (intro w' hSw; obtain ⟨g0, g1⟩ := HSt.out _ hSw; go_simp; try with_reducible rfl)
              try simp only [Act.put, List.setIfInBounds_toArray, List.set_cons_zero, List.set_cons_succ, List.getElem_toArray, List.getElem_cons_succ, List.getElem_cons_zero]
              refine wpAnyZ_take (i := 3) (v := ?vv60) rfl (by kernel_rfl) (by kernel_rfl) (by kernel_rfl) (fun _ _ _ h => h) (Or.inl ⟨by rfl, ?hy60⟩) hHeld ?rr60
              case hy60 => (intro w' hSw; obtain ⟨g0, g1⟩ := HSt.out _ hSw; go_simp; try with_reducible rfl)
              try simp only [Act.put, List.setIfInBounds_toArray, List.set_cons_zero, List.set_cons_succ, List.getElem_toArray, List.getElem_cons_succ, List.getElem_cons_zero]
              refine wpAnyZ_take (i := 4) (v := ?vv61) rfl (by kernel_rfl) (by kernel_rfl) (by kernel_rfl) (fun _ _ _ h => h) (Or.inl ⟨by rfl, ?hy61⟩) hHeld ?rr61
              case hy61 => (intro w' hSw; obtain ⟨g0, g1⟩ := HSt.out _ hSw; go_simp; try with_reducible rfl)
              try simp only [Act.put, List.setIfInBounds_toArray, List.set_cons_zero, List.set_cons_succ, List.getElem_toArray, List.getElem_cons_succ, List.getElem_cons_zero]
              refine wpAnyZ_take (i := 5) (v := ?vv62) rfl (by kernel_rfl) (by kernel_rfl) (by kernel_rfl) (fun _ _ _ h => h) (Or.inl ⟨by rfl, ?hy62⟩) hHeld ?rr62
              case hy62 => (intro w' hSw; obtain ⟨g0, g1⟩ := HSt.out _ hSw; go_simp; try with_reducible rfl)
              try simp only [Act.put, List.setIfInBounds_toArray, List.set_cons_zero, List.set_cons_succ, List.getElem_toArray, List.getElem_cons_succ, List.getElem_cons_zero]
              refine wpAnyZ_take (i := 6) (v := ?vv63) rfl (by kernel_rfl) (by kernel_rfl) (by kernel_rfl) (fun _ _ _ h => h) (Or.inl ⟨by rfl, ?hy63⟩) hHeld ?rr63
              case hy63 => (intro w' hSw; obtain ⟨g0, g1⟩ := HSt.out _ hSw; go_simp; try with_reducible rfl)
              try simp only [Act.put, List.setIfInBounds_toArray, List.set_cons_zero, List.set_cons_succ, List.getElem_toArray, List.getElem_cons_succ, List.getElem_cons_zero]
              refine wpAnyZ_take (i := 7) (v := ?vv64) rfl (by kernel_rfl) (by kernel_rfl) (by kernel_rfl) (fun _ _ _ h => h) (Or.inl ⟨by rfl, ?hy64⟩) hHeld ?rr64
              case hy64 => (intro w' hSw; obtain ⟨g0, g1⟩ := HSt.out _ hSw; go_simp; try with_reducible rfl)
              try simp only [Act.put, List.setIfInBounds_toArray, List.set_cons_zero, List.set_cons_succ, List.getElem_toArray, List.getElem_cons_succ, List.getElem_cons_zero]
              refine wpAnyZ_take (i := 9) (v := ?vv65) rfl (by kernel_rfl) (by kernel_rfl) (by kernel_rfl) (fun _ _ _ h => h) (Or.inl ⟨by rfl, ?hy65⟩) hHeld ?rr65
              case hy65 => (intro w' hSw; obtain ⟨g0, g1⟩ := HSt.out _ hSw; go_simp; try with_reducible rfl)
              try simp only [Act.put, List.setIfInBounds_toArray, List.set_cons_zero, List.set_cons_succ, List.getElem_toArray, List.getElem_cons_succ, List.getElem_cons_zero]
              refine wpAnyZ_take (i := 10) (v := ?vv66) rfl (by kernel_rfl) (by kernel_rfl) (by kernel_rfl) (fun _ _ _ h => h) (Or.inl ⟨by rfl, ?hy66⟩) hHeld ?rr66
              case hy66 => (intro w' hSw; obtain ⟨g0, g1⟩ := HSt.out _ hSw; go_simp; try with_reducible rfl)
              try simp only [Act.put, List.setIfInBounds_toArray, List.set_cons_zero, List.set_cons_succ, List.getElem_toArray, List.getElem_cons_succ, List.getElem_cons_zero]
              refine wpAnyZ_take (i := 11) (v := ?vv67) rfl (by kernel_rfl) (by kernel_rfl) (by kernel_rfl) (fun _ _ _ h => h) (Or.inl ⟨by rfl, ?hy67⟩) hHeld ?rr67
              case hy67 => (intro w' hSw; obtain ⟨g0, g1⟩ := HSt.out _ hSw; go_simp; try with_reducible rfl)
              try simp only [Act.put, List.setIfInBounds_toArray, List.set_cons_zero, List.set_cons_succ, List.getElem_toArray, List.getElem_cons_succ, List.getElem_cons_zero]
              refine wpAnyZ_take (i := 14) (v := ?vv68) rfl (by kernel_rfl) (by kernel_rfl) (by kernel_rfl) (fun _ _ _ h => h) (Or.inl ⟨by rfl, ?hy68⟩) hHeld ?rr68
              case hy68 => (intro w' hSw; obtain ⟨g0, g1⟩ := HSt.out _ hSw; go_simp; try with_reducible rfl)
              try simp only [Act.put, List.setIfInBounds_toArray, List.set_cons_zero, List.set_cons_succ, List.getElem_toArray, List.getElem_cons_succ, List.getElem_cons_zero]
              refine wpAnyZ_take (i := 15) (v := ?vv69) rfl (by kernel_rfl) (by kernel_rfl) (by kernel_rfl) (fun _ _ _ h => h) (Or.inl ⟨by rfl, ?hy69⟩) hHeld ?rr69
              case hy69 => (intro w' hSw; obtain ⟨g0, g1⟩ := HSt.out _ hSw; go_simp; try with_reducible rfl)
              try simp only [Act.put, List.setIfInBounds_toArray, List.set_cons_zero, List.set_cons_succ, List.getElem_toArray, List.getElem_cons_succ, List.getElem_cons_zero]
              refine wpAnyZ_take (i := 16) (v := ?vv70) rfl (by kernel_rfl) (by kernel_rfl) (by kernel_rfl) (fun _ _ _ h => h) (Or.inl ⟨by rfl, ?hy70⟩) hHeld ?rr70
              case hy70 => (intro w' hSw; obtain ⟨g0, g1⟩ := HSt.out _ hSw; go_simp; try with_reducible rfl)
              try simp only [Act.put, List.setIfInBounds_toArray, List.set_cons_zero, List.set_cons_succ, List.getElem_toArray, List.getElem_cons_succ, List.getElem_cons_zero]
              refine wpAnyZ_take (i := 17) (v := ?vv71) rfl (by kernel_rfl) (by kernel_rfl) (by kernel_rfl) (fun _ _ _ h => h) (Or.inl ⟨by rfl, ?hy71⟩) hHeld ?rr71
              case hy71 => (intro w' hSw; obtain ⟨g0, g1⟩ := HSt.out _ hSw; go_simp; try with_reducible rfl)
              try simp only [Act.put, List.setIfInBounds_toArray, List.set_cons_zero, List.set_cons_succ, List.getElem_toArray, List.getElem_cons_succ, List.getElem_cons_zero]
              refine wpAnyZ_take (i := 18) (v := ?vv72) rfl (by kernel_rfl) (by kernel_rfl) (by kernel_rfl) (fun _ _ _ h => h) (Or.inl ⟨by rfl, ?hy72⟩) hHeld ?rr72
              case hy72 => (intro w' hSw; obtain ⟨g0, g1⟩ := HSt.out _ hSw; go_simp; try with_reducible rfl)
              try simp only [Act.put, List.setIfInBounds_toArray, List.set_cons_zero, List.set_cons_succ, List.getElem_toArray, List.getElem_cons_succ, List.getElem_cons_zero]
              refine wpAnyZ_take (i := 19) (v := ?vv73) rfl (by kernel_rfl) (by kernel_rfl) (by kernel_rfl) (fun _ _ _ h => h) (Or.inl ⟨by rfl, ?hy73⟩) hHeld ?rr73
              case hy73 => (intro w' hSw; obtain ⟨g0, g1⟩ := HSt.out _ hSw; go_simp; try with_reducible rfl)
              try simp only [Act.put, List.setIfInBounds_toArray, List.set_cons_zero, List.set_cons_succ, List.getElem_toArray, List.getElem_cons_succ, List.getElem_cons_zero]
              refine wpAnyZ_ready (rs := [1, 12]) (by kernel_rfl) (by simp) ?_
              refine AllReadyZ.cons rfl (fun K hK => ?_) (AllReadyZ.cons rfl (fun K hK => ?_) AllReadyZ.nil)
              · try rw [if_pos (by rfl)]
                go_simp
                refine hK.out _ _ HBA.out (fun hHeld2 => ?_)
                clear hK K hHeld
                have hHeld := hHeld2
                clear hHeld2
                try simp only [Act.put, List.setIfInBounds_toArray, List.set_cons_zero, List.set_cons_succ, List.getElem_toArray, List.getElem_cons_succ, List.getElem_cons_zero]
                refine wpAnyZ_ready (rs := [8, 12]) (by kernel_rfl) (by simp) ?_
                refine AllReadyZ.cons rfl (fun K hK => ?_) (AllReadyZ.cons rfl (fun K hK => ?_) AllReadyZ.nil)
                · try rw [if_pos (by rfl)]
                  refine oper_append_k _ (.tmp 51) (.tmp 57) 26 rfl 36 i0 (.agg #[.int .i64 0, .int .i64 0]) 2 16 Try.underlying26 hinfo hz0 hz1 hz2 rfl (by decide) w2.heap.size (.slice (some ⟨w2.heap.size, 0, none⟩) 0 0) 0 [] rfl HOA.out (some ⟨g, 0, none⟩) k c2 (cellsT (d.take k)) rfl HL1.out (HS1.out _ HBA.out) (cellsT_one _) (by unfold maxLen; omega) (by omega) HBA.out.size ?_
                  intro A5 c5 w5 hown5 hgrow5 _
                  simp only [Nat.zero_add, Nat.add_zero] at hown5 ⊢
                  have HO5 : Hid (w5.ownsRow w2.heap.size 36 2 (.slice A5 k c5) k (cellsT (d.take k))) := Lib.hid (by simpa using hown5)
                  have HB5 : Hid (Below w2.heap.size w2 w5) := Lib.hid (HBA.out.grown hgrow5 HBA.out.size (fun k e => (HOA.out.lt k e).1))
                  clear hown5 hgrow5
                  refine hK.out _ _ HB5.out (fun hHeld2 => ?_)
                  clear hK K hHeld
                  have hHeld := hHeld2
                  clear hHeld2
                  try simp only [Act.put, List.setIfInBounds_toArray, List.set_cons_zero, List.set_cons_succ, List.getElem_toArray, List.getElem_cons_succ, List.getElem_cons_zero]
                  refine wpAnyZ_ready (rs := [12]) (by kernel_rfl) (by simp) ?_
                  refine AllReadyZ.cons rfl (fun K hK => ?_) AllReadyZ.nil
                  try rw [if_pos (by rfl)]
                  go_simp
                  have HO5a := Lib.hid (own_moved (p := fun _ => False) HO5.out (Below.movedNew (below_alloc w5 (.cells #[.int .i64 at_, .int .i64 id] 36))) (fun _ _ h => h))
                  have HB5a := Lib.hid (HB5.out.alloc HB5.out.size (.cells #[.int .i64 at_, .int .i64 id] 36))
                  have HT5a := Lib.hid (heap_new w5 (.cells #[.int .i64 at_, .int .i64 id] 36))
                  refine hK.out _ _ HB5a.out (fun hHeld2 => ?_)
                  clear hK K hHeld
                  have hHeld := hHeld2
                  clear hHeld2
                  try simp only [Act.put, List.setIfInBounds_toArray, List.set_cons_zero, List.set_cons_succ, List.getElem_toArray, List.getElem_cons_succ, List.getElem_cons_zero]
                  refine wpAnyZ_ready (rs := [13]) (by kernel_rfl) (by simp) ?_
                  refine AllReadyZ.cons rfl (fun K hK => ?_) AllReadyZ.nil
                  try rw [if_pos (by rfl)]
                  refine oper_append_k _ (.tmp 58) (.tmp 62) 26 rfl 36 i0 (.agg #[.int .i64 0, .int .i64 0]) 2 16 Try.underlying26 hinfo hz0 hz1 hz2 rfl (by decide) w2.heap.size (.slice A5 k c5) k (cellsT (d.take k)) rfl HO5a.out (some ⟨w5.heap.size, 0, none⟩) 1 1 [.int .i64 at_, .int .i64 id] rfl rfl (fun _ => ⟨_, rfl, cells_add HT5a.out⟩) (fun u hu => by simp at hu; rcases hu with rfl | rfl <;> rfl) (by unfold maxLen; omega) (by omega) HB5a.out.size ?_
                  intro A6 c6 w6 hown6 hgrow6 _
                  try simp only [Nat.zero_add, Nat.add_zero] at hown6 ⊢
                  have HO6 := Lib.hid hown6
                  have HB6 : Hid (Below w2.heap.size w2 w6) := Lib.hid (HB5a.out.grown hgrow6 HB5a.out.size (fun k e => (HO5a.out.lt k e).1))
                  clear hown6 hgrow6
                  refine hK.out _ _ HB6.out (fun hHeld2 => ?_)
                  clear hK K hHeld
                  have hHeld := hHeld2
                  clear hHeld2
                  try simp only [Act.put, List.setIfInBounds_toArray, List.set_cons_zero, List.set_cons_succ, List.getElem_toArray, List.getElem_cons_succ, List.getElem_cons_zero]
                  refine wpAnyZ_ready (rs := [20]) (by kernel_rfl) (by simp) ?_
                  refine AllReadyZ.cons rfl (fun K hK => ?_) AllReadyZ.nil
                  try rw [if_pos (by rfl)]
                  refine oper_append_k _ (.tmp 63) (.tmp 69) 26 rfl 36 i0 (.agg #[.int .i64 0, .int .i64 0]) 2 16 Try.underlying26 hinfo hz0 hz1 hz2 rfl (by decide) w2.heap.size (.slice A6 (k + 1) c6) (k + 1) _ rfl HO6.out (some ⟨g, k * 2, none⟩) 0 (c2 - k) [] rfl rfl (fun h => absurd h (Nat.lt_irrefl _)) (by simp) (by unfold maxLen; omega) (by omega) HB6.out.size ?_
                  intro A7 c7 w7 hown7 hgrow7 _
                  try simp only [Nat.zero_add, Nat.add_zero] at hown7 ⊢
                  have HO7 := Lib.hid hown7
                  have HB7 : Hid (Below w2.heap.size w2 w7) := Lib.hid (HB6.out.grown hgrow7 HB6.out.size (fun k e => (HO6.out.lt k e).1))
                  clear hown7 hgrow7
                  obtain ⟨b0, b1⟩ := HSt.out _ HB7.out
                  refine hK.out _ _ HB7.out (fun hHeld2 => ?_)
                  clear hK K hHeld
                  have hHeld := hHeld2
                  clear hHeld2
                  try simp only [Act.put, List.setIfInBounds_toArray, List.set_cons_zero, List.set_cons_succ, List.getElem_toArray, List.getElem_cons_succ, List.getElem_cons_zero]
                  refine wpAnyZ_ready (rs := [21]) (by kernel_rfl) (by simp) ?_
                  refine AllReadyZ.cons rfl (fun K hK => ?_) AllReadyZ.nil
                  try rw [if_pos (by rfl)]
                  go_simp
                  refine hK.out _ _ HB7.out (fun hHeld2 => ?_)
                  clear hK K hHeld
                  have hHeld := hHeld2
                  clear hHeld2
                  try simp only [Act.put, List.setIfInBounds_toArray, List.set_cons_zero, List.set_cons_succ, List.getElem_toArray, List.getElem_cons_succ, List.getElem_cons_zero]
                  refine wpAnyZ_take (i := 22) (v := ?vv74) rfl (by kernel_rfl) (by kernel_rfl) (by kernel_rfl) (fun _ _ _ h => h) (Or.inl ⟨by rfl, ?hy74⟩) hHeld ?rr74
                  case hy74 => (intro w' hSw; obtain ⟨g0, g1⟩ := HSt.out _ hSw; go_simp; try with_reducible rfl)
                  try simp only [Act.put, List.setIfInBounds_toArray, List.set_cons_zero, List.set_cons_succ, List.getElem_toArray, List.getElem_cons_succ, List.getElem_cons_zero]
                  refine wpAnyZ_ready (rs := [23]) (by kernel_rfl) (by simp) ?_
                  refine AllReadyZ.last rfl (fun K hK => ?_)
                  try rw [if_pos (by rfl)]
                  go_simp
                  refine hK.out _ _ ?_
                  clear hK K hHeld
                  try simp only [Act.put, List.setIfInBounds_toArray, List.set_cons_zero, List.set_cons_succ, List.getElem_toArray, List.getElem_cons_succ, List.getElem_cons_zero]
                  refine wpAnyZ_done (by kernel_rfl) ?_ _
                  have hln : (insP d (at_, id)).length = k + 1 := by rw [insP_len]; have := HM.out; omega
                  have HE : Hid (RefQ (w7.setCell ⟨x, 0, none⟩ (.slice A7 (k + 1) c7)) (fun k => F2 k ∨ w2.heap.size ≤ k) x (insP d (at_, id)) ∧ Moved F2 w2 (w7.setCell ⟨x, 0, none⟩ (.slice A7 (k + 1) c7))) := Lib.hid (by
                    have := ref_end (l' := insP d (at_, id)) (A5 := A7) (c5 := c7) Q1.out Q3.out HB7.out (by rw [hln, HD.out, cellsT_app, cellsT_app]; rw [List.drop_of_length_le (i := k) (l := d) (by have := HM.out; omega)]; simpa [cellsT] using HO7.out) (by rw [hln]; omega)
                    rw [hln] at this; exact this)
                  clear hln
                  go_wp2
                  go_ret
                  exact HF.out _ HE.out
                · try rw [if_pos (by rfl)]
                  go_simp
                  refine hK.out _ _ HBB.out (fun hHeld2 => ?_)
                  clear hK K hHeld
                  have hHeld := hHeld2
                  clear hHeld2
                  try simp only [Act.put, List.setIfInBounds_toArray, List.set_cons_zero, List.set_cons_succ, List.getElem_toArray, List.getElem_cons_succ, List.getElem_cons_zero]
                  refine wpAnyZ_ready (rs := [8]) (by kernel_rfl) (by simp) ?_
                  refine AllReadyZ.cons rfl (fun K hK => ?_) AllReadyZ.nil
                  try rw [if_pos (by rfl)]
                  refine oper_append_k _ (.tmp 51) (.tmp 57) 26 rfl 36 i0 (.agg #[.int .i64 0, .int .i64 0]) 2 16 Try.underlying26 hinfo hz0 hz1 hz2 rfl (by decide) w2.heap.size (.slice (some ⟨w2.heap.size, 0, none⟩) 0 0) 0 [] rfl HOB.out (some ⟨g, 0, none⟩) k c2 (cellsT (d.take k)) rfl HL1.out (HS1.out _ HBB.out) (cellsT_one _) (by unfold maxLen; omega) (by omega) HBB.out.size ?_
                  intro A5 c5 w5 hown5 hgrow5 _
                  simp only [Nat.zero_add, Nat.add_zero] at hown5 ⊢
                  have HO5 : Hid (w5.ownsRow w2.heap.size 36 2 (.slice A5 k c5) k (cellsT (d.take k))) := Lib.hid (by simpa using hown5)
                  have HB5 : Hid (Below w2.heap.size w2 w5) := Lib.hid (HBB.out.grown hgrow5 HBB.out.size (fun k e => (HOB.out.lt k e).1))
                  have HT5 := Lib.hid ((hgrow5.block (w2.heap.size + 1) (heap_lt HTB.out) (fun e => by have e : w2.heap.size + 1 = w2.heap.size := Option.some.inj e; omega)).trans HTB.out)
                  clear hown5 hgrow5
                  refine hK.out _ _ HB5.out (fun hHeld2 => ?_)
                  clear hK K hHeld
                  have hHeld := hHeld2
                  clear hHeld2
                  try simp only [Act.put, List.setIfInBounds_toArray, List.set_cons_zero, List.set_cons_succ, List.getElem_toArray, List.getElem_cons_succ, List.getElem_cons_zero]
                  refine wpAnyZ_ready (rs := [13]) (by kernel_rfl) (by simp) ?_
                  refine AllReadyZ.cons rfl (fun K hK => ?_) AllReadyZ.nil
                  try rw [if_pos (by rfl)]
                  refine oper_append_k _ (.tmp 58) (.tmp 62) 26 rfl 36 i0 (.agg #[.int .i64 0, .int .i64 0]) 2 16 Try.underlying26 hinfo hz0 hz1 hz2 rfl (by decide) w2.heap.size (.slice A5 k c5) k (cellsT (d.take k)) rfl HO5.out (some ⟨w2.heap.size + 1, 0, none⟩) 1 1 [.int .i64 at_, .int .i64 id] rfl rfl (fun _ => ⟨_, rfl, cells_add HT5.out⟩) (fun u hu => by simp at hu; rcases hu with rfl | rfl <;> rfl) (by unfold maxLen; omega) (by omega) HB5.out.size ?_
                  intro A6 c6 w6 hown6 hgrow6 _
                  try simp only [Nat.zero_add, Nat.add_zero] at hown6 ⊢
                  have HO6 := Lib.hid hown6
                  have HB6 : Hid (Below w2.heap.size w2 w6) := Lib.hid (HB5.out.grown hgrow6 HB5.out.size (fun k e => (HO5.out.lt k e).1))
                  clear hown6 hgrow6
                  refine hK.out _ _ HB6.out (fun hHeld2 => ?_)
                  clear hK K hHeld
                  have hHeld := hHeld2
                  clear hHeld2
                  try simp only [Act.put, List.setIfInBounds_toArray, List.set_cons_zero, List.set_cons_succ, List.getElem_toArray, List.getElem_cons_succ, List.getElem_cons_zero]
                  refine wpAnyZ_ready (rs := [20]) (by kernel_rfl) (by simp) ?_
                  refine AllReadyZ.cons rfl (fun K hK => ?_) AllReadyZ.nil
                  try rw [if_pos (by rfl)]
                  refine oper_append_k _ (.tmp 63) (.tmp 69) 26 rfl 36 i0 (.agg #[.int .i64 0, .int .i64 0]) 2 16 Try.underlying26 hinfo hz0 hz1 hz2 rfl (by decide) w2.heap.size (.slice A6 (k + 1) c6) (k + 1) _ rfl HO6.out (some ⟨g, k * 2, none⟩) 0 (c2 - k) [] rfl rfl (fun h => absurd h (Nat.lt_irrefl _)) (by simp) (by unfold maxLen; omega) (by omega) HB6.out.size ?_
                  intro A7 c7 w7 hown7 hgrow7 _
                  try simp only [Nat.zero_add, Nat.add_zero] at hown7 ⊢
                  have HO7 := Lib.hid hown7
                  have HB7 : Hid (Below w2.heap.size w2 w7) := Lib.hid (HB6.out.grown hgrow7 HB6.out.size (fun k e => (HO6.out.lt k e).1))
                  clear hown7 hgrow7
                  obtain ⟨b0, b1⟩ := HSt.out _ HB7.out
                  refine hK.out _ _ HB7.out (fun hHeld2 => ?_)
                  clear hK K hHeld
                  have hHeld := hHeld2
                  clear hHeld2
                  try simp only [Act.put, List.setIfInBounds_toArray, List.set_cons_zero, List.set_cons_succ, List.getElem_toArray, List.getElem_cons_succ, List.getElem_cons_zero]
                  refine wpAnyZ_ready (rs := [21]) (by kernel_rfl) (by simp) ?_
                  refine AllReadyZ.cons rfl (fun K hK => ?_) AllReadyZ.nil
                  try rw [if_pos (by rfl)]
                  go_simp
                  refine hK.out _ _ HB7.out (fun hHeld2 => ?_)
                  clear hK K hHeld
                  have hHeld := hHeld2
                  clear hHeld2
                  try simp only [Act.put, List.setIfInBounds_toArray, List.set_cons_zero, List.set_cons_succ, List.getElem_toArray, List.getElem_cons_succ, List.getElem_cons_zero]
                  refine wpAnyZ_take (i := 22) (v := ?vv75) rfl (by kernel_rfl) (by kernel_rfl) (by kernel_rfl) (fun _ _ _ h => h) (Or.inl ⟨by rfl, ?hy75⟩) hHeld ?rr75
                  case hy75 => (intro w' hSw; obtain ⟨g0, g1⟩ := HSt.out _ hSw; go_simp; try with_reducible rfl)
                  try simp only [Act.put, List.setIfInBounds_toArray, List.set_cons_zero, List.set_cons_succ, List.getElem_toArray, List.getElem_cons_succ, List.getElem_cons_zero]
                  refine wpAnyZ_ready (rs := [23]) (by kernel_rfl) (by simp) ?_
                  refine AllReadyZ.last rfl (fun K hK => ?_)
                  try rw [if_pos (by rfl)]
                  go_simp
                  refine hK.out _ _ ?_
                  clear hK K hHeld
                  try simp only [Act.put, List.setIfInBounds_toArray, List.set_cons_zero, List.set_cons_succ, List.getElem_toArray, List.getElem_cons_succ, List.getElem_cons_zero]
                  refine wpAnyZ_done (by kernel_rfl) ?_ _
                  have hln : (insP d (at_, id)).length = k + 1 := by rw [insP_len]; have := HM.out; omega
                  have HE : Hid (RefQ (w7.setCell ⟨x, 0, none⟩ (.slice A7 (k + 1) c7)) (fun k => F2 k ∨ w2.heap.size ≤ k) x (insP d (at_, id)) ∧ Moved F2 w2 (w7.setCell ⟨x, 0, none⟩ (.slice A7 (k + 1) c7))) := Lib.hid (by
                    have := ref_end (l' := insP d (at_, id)) (A5 := A7) (c5 := c7) Q1.out Q3.out HB7.out (by rw [hln, HD.out, cellsT_app, cellsT_app]; rw [List.drop_of_length_le (i := k) (l := d) (by have := HM.out; omega)]; simpa [cellsT] using HO7.out) (by rw [hln]; omega)
                    rw [hln] at this; exact this)
                  clear hln
                  go_wp2
                  go_ret
                  exact HF.out _ HE.out
              · try rw [if_pos (by rfl)]
                go_simp
                refine hK.out _ _ HBC.out (fun hHeld2 => ?_)
                clear hK K hHeld
                have hHeld := hHeld2
                clear hHeld2
                try simp only [Act.put, List.setIfInBounds_toArray, List.set_cons_zero, List.set_cons_succ, List.getElem_toArray, List.getElem_cons_succ, List.getElem_cons_zero]
                refine wpAnyZ_ready (rs := [1]) (by kernel_rfl) (by simp) ?_
                refine AllReadyZ.cons rfl (fun K hK => ?_) AllReadyZ.nil
                try rw [if_pos (by rfl)]
                go_simp
                refine hK.out _ _ HBD.out (fun hHeld2 => ?_)
                clear hK K hHeld
                have hHeld := hHeld2
                clear hHeld2
                try simp only [Act.put, List.setIfInBounds_toArray, List.set_cons_zero, List.set_cons_succ, List.getElem_toArray, List.getElem_cons_succ, List.getElem_cons_zero]
                refine wpAnyZ_ready (rs := [8]) (by kernel_rfl) (by simp) ?_
                refine AllReadyZ.cons rfl (fun K hK => ?_) AllReadyZ.nil
                try rw [if_pos (by rfl)]
                refine oper_append_k _ (.tmp 51) (.tmp 57) 26 rfl 36 i0 (.agg #[.int .i64 0, .int .i64 0]) 2 16 Try.underlying26 hinfo hz0 hz1 hz2 rfl (by decide) w2.heap.size (.slice (some ⟨w2.heap.size + 1, 0, none⟩) 0 0) 0 [] rfl HOD.out (some ⟨g, 0, none⟩) k c2 (cellsT (d.take k)) rfl HL1.out (HS1.out _ HBD.out) (cellsT_one _) (by unfold maxLen; omega) (by omega) HBD.out.size ?_
                intro A5 c5 w5 hown5 hgrow5 _
                simp only [Nat.zero_add, Nat.add_zero] at hown5 ⊢
                have HO5 : Hid (w5.ownsRow w2.heap.size 36 2 (.slice A5 k c5) k (cellsT (d.take k))) := Lib.hid (by simpa using hown5)
                have HB5 : Hid (Below w2.heap.size w2 w5) := Lib.hid (HBD.out.grown hgrow5 HBD.out.size (fun k e => (HOD.out.lt k e).1))
                have HT5 := Lib.hid ((hgrow5.block w2.heap.size (heap_lt HTD.out) (fun e => by have e : w2.heap.size = w2.heap.size + 1 := Option.some.inj e; omega)).trans HTD.out)
                clear hown5 hgrow5
                refine hK.out _ _ HB5.out (fun hHeld2 => ?_)
                clear hK K hHeld
                have hHeld := hHeld2
                clear hHeld2
                try simp only [Act.put, List.setIfInBounds_toArray, List.set_cons_zero, List.set_cons_succ, List.getElem_toArray, List.getElem_cons_succ, List.getElem_cons_zero]
                refine wpAnyZ_ready (rs := [13]) (by kernel_rfl) (by simp) ?_
                refine AllReadyZ.cons rfl (fun K hK => ?_) AllReadyZ.nil
                try rw [if_pos (by rfl)]
                refine oper_append_k _ (.tmp 58) (.tmp 62) 26 rfl 36 i0 (.agg #[.int .i64 0, .int .i64 0]) 2 16 Try.underlying26 hinfo hz0 hz1 hz2 rfl (by decide) w2.heap.size (.slice A5 k c5) k (cellsT (d.take k)) rfl HO5.out (some ⟨w2.heap.size, 0, none⟩) 1 1 [.int .i64 at_, .int .i64 id] rfl rfl (fun _ => ⟨_, rfl, cells_add HT5.out⟩) (fun u hu => by simp at hu; rcases hu with rfl | rfl <;> rfl) (by unfold maxLen; omega) (by omega) HB5.out.size ?_
                intro A6 c6 w6 hown6 hgrow6 _
                try simp only [Nat.zero_add, Nat.add_zero] at hown6 ⊢
                have HO6 := Lib.hid hown6
                have HB6 : Hid (Below w2.heap.size w2 w6) := Lib.hid (HB5.out.grown hgrow6 HB5.out.size (fun k e => (HO5.out.lt k e).1))
                clear hown6 hgrow6
                refine hK.out _ _ HB6.out (fun hHeld2 => ?_)
                clear hK K hHeld
                have hHeld := hHeld2
                clear hHeld2
                try simp only [Act.put, List.setIfInBounds_toArray, List.set_cons_zero, List.set_cons_succ, List.getElem_toArray, List.getElem_cons_succ, List.getElem_cons_zero]
                refine wpAnyZ_ready (rs := [20]) (by kernel_rfl) (by simp) ?_
                refine AllReadyZ.cons rfl (fun K hK => ?_) AllReadyZ.nil
                try rw [if_pos (by rfl)]
                refine oper_append_k _ (.tmp 63) (.tmp 69) 26 rfl 36 i0 (.agg #[.int .i64 0, .int .i64 0]) 2 16 Try.underlying26 hinfo hz0 hz1 hz2 rfl (by decide) w2.heap.size (.slice A6 (k + 1) c6) (k + 1) _ rfl HO6.out (some ⟨g, k * 2, none⟩) 0 (c2 - k) [] rfl rfl (fun h => absurd h (Nat.lt_irrefl _)) (by simp) (by unfold maxLen; omega) (by omega) HB6.out.size ?_
                intro A7 c7 w7 hown7 hgrow7 _
                try simp only [Nat.zero_add, Nat.add_zero] at hown7 ⊢
                have HO7 := Lib.hid hown7
                have HB7 : Hid (Below w2.heap.size w2 w7) := Lib.hid (HB6.out.grown hgrow7 HB6.out.size (fun k e => (HO6.out.lt k e).1))
                clear hown7 hgrow7
                obtain ⟨b0, b1⟩ := HSt.out _ HB7.out
                refine hK.out _ _ HB7.out (fun hHeld2 => ?_)
                clear hK K hHeld
                have hHeld := hHeld2
                clear hHeld2
                try simp only [Act.put, List.setIfInBounds_toArray, List.set_cons_zero, List.set_cons_succ, List.getElem_toArray, List.getElem_cons_succ, List.getElem_cons_zero]
                refine wpAnyZ_ready (rs := [21]) (by kernel_rfl) (by simp) ?_
                refine AllReadyZ.cons rfl (fun K hK => ?_) AllReadyZ.nil
                try rw [if_pos (by rfl)]
                go_simp
                refine hK.out _ _ HB7.out (fun hHeld2 => ?_)
                clear hK K hHeld
                have hHeld := hHeld2
                clear hHeld2
                try simp only [Act.put, List.setIfInBounds_toArray, List.set_cons_zero, List.set_cons_succ, List.getElem_toArray, List.getElem_cons_succ, List.getElem_cons_zero]
                refine wpAnyZ_take (i := 22) (v := ?vv76) rfl (by kernel_rfl) (by kernel_rfl) (by kernel_rfl) (fun _ _ _ h => h) (Or.inl ⟨by rfl, ?hy76⟩) hHeld ?rr76
                case hy76 => (intro w' hSw; obtain ⟨g0, g1⟩ := HSt.out _ hSw; go_simp; try with_reducible rfl)
                try simp only [Act.put, List.setIfInBounds_toArray, List.set_cons_zero, List.set_cons_succ, List.getElem_toArray, List.getElem_cons_succ, List.getElem_cons_zero]
                refine wpAnyZ_ready (rs := [23]) (by kernel_rfl) (by simp) ?_
                refine AllReadyZ.last rfl (fun K hK => ?_)
                try rw [if_pos (by rfl)]
                go_simp
                refine hK.out _ _ ?_
                clear hK K hHeld
                try simp only [Act.put, List.setIfInBounds_toArray, List.set_cons_zero, List.set_cons_succ, List.getElem_toArray, List.getElem_cons_succ, List.getElem_cons_zero]
                refine wpAnyZ_done (by kernel_rfl) ?_ _
                have hln : (insP d (at_, id)).length = k + 1 := by rw [insP_len]; have := HM.out; omega
                have HE : Hid (RefQ (w7.setCell ⟨x, 0, none⟩ (.slice A7 (k + 1) c7)) (fun k => F2 k ∨ w2.heap.size ≤ k) x (insP d (at_, id)) ∧ Moved F2 w2 (w7.setCell ⟨x, 0, none⟩ (.slice A7 (k + 1) c7))) := Lib.hid (by
                  have := ref_end (l' := insP d (at_, id)) (A5 := A7) (c5 := c7) Q1.out Q3.out HB7.out (by rw [hln, HD.out, cellsT_app, cellsT_app]; rw [List.drop_of_length_le (i := k) (l := d) (by have := HM.out; omega)]; simpa [cellsT] using HO7.out) (by rw [hln]; omega)
                  rw [hln] at this; exact this)
                clear hln
                go_wp2
                go_ret
                exact HF.out _ HE.out
    · have hw : whenB l id = false := by simpa using hw
      have hlt : n < 65536 := by
        unfold fullB at hf
        rw [hw] at hf
        simp at hf
        omega
      have hge : decide ((65536 : Int) ≤ (n : Int)) = false := by rw [decide_eq_false_iff_not]; omega
      clear hf hn h5 hlt
      go_enter Try.func10, Try.ntmps10
      go_wp2_with (first
        | ((go_at_call 16; with_reducible refine (rwhen_any H.out id).mono ?_); rintro _ _ ⟨rfl, rfl⟩; try rw [hw])
        | ((go_at_call 12; with_reducible refine (rdrop_any H.out id).mono ?_); rintro _ w2 ⟨rfl, hR2, hM2⟩; have HR2 := Lib.hid hR2; have HM2 := Lib.hid hM2; clear hR2 hM2))
      obtain ⟨F2, hF2⟩ : ∃ F2 : Nat → Prop, F2 = (fun k => F k ∨ w.heap.size ≤ k) := ⟨_, rfl⟩
      have HF : Hid (∀ (w3 : World) (D : List (Int × Int)), RefQ w3 (fun k => F2 k ∨ w2.heap.size ≤ k) x (insP (dropP l id) (at_, id)) ∧ Moved F2 w2 w3 → RPop F x (setT l id at_) (.int .i64 (setE l id)) w (.returned (.int .i64 0)) w3) := Lib.hid (fun w3 _ hE => by
        subst hF2
        refine ⟨by rw [HR.out.2], ?_, HM2.out.trans hE.2 (fun k hk h => h.resolve_right (by omega))⟩
        rw [HR.out.1]
        exact hE.1.wide (fun k hk => hk.elim (fun h => h) (fun h => .inr (Nat.le_trans HM2.out.size h))))
      rw [← hF2] at HR2
      clear hF2
      obtain ⟨d, hd⟩ : ∃ d, d = dropP l id := ⟨_, rfl⟩
      rw [← hd] at HR2 HF HR5
      have HF := Lib.hid (fun w3 => HF.out w3 d)
      clear hd c0
      obtain ⟨A2, c2, q1, q2, q3, q4, q5⟩ := HR2.out
      have c1 : w2.cell? ⟨x, 0, none⟩ = some (.slice A2 d.length c2) := cell_of_row _ _ 0 _ _ _ q1
      have hx : x < w2.heap.size := heap_lt q1
      have hfz : w2.frozen? ⟨x, 0, none⟩ = false := (cells_of_heap q1).2 0
      have Q1 := Lib.hid q1
      have Q2 := Lib.hid q2
      have Q3 := Lib.hid q3
      have hcn : d.length ≤ c2 := by
        obtain ⟨A', cap, hv, hc, _⟩ := own_form q2
        injection hv with _ _ hv
        omega
      obtain ⟨m, hm⟩ : ∃ m, m = d.length := ⟨_, rfl⟩
      have HM := Lib.hid hm
      have hm5 : m ≤ 65535 := by have := HR5.out; omega
      rw [← hm] at c1 hcn
      clear q1 q2 q3 q4 q5 hm
      go_loop [9] (fun iv => ∃ k : Nat, k ≤ m ∧ iv = .int .i64 (k : Int) ∧ Hid (∀ j (hj : j < d.length), j < k → d[j].1 ≤ at_)) (fun iv => m - (intOf iv).toNat)
      case atStart => exact ⟨0, Nat.zero_le _, rfl, Lib.hid (fun j hj h => by omega)⟩
      case round =>
        obtain ⟨k, hk, rfl, HK⟩ := hrel
        by_cases hlt : k < m
        · have hlt2 : (k : Int) < (m : Int) := by omega
          have hkl : k < d.length := by rw [← HM.out]; exact hlt
          obtain ⟨g, rfl, e0, e1⟩ := ref_at Q2.out hkl
          obtain ⟨y, hy⟩ : ∃ y, y = d[k].1 := ⟨_, rfl⟩
          rw [← hy] at e0
          clear e1
          by_cases he : y ≤ at_
          · have HNx : Hid (∀ j (hj : j < d.length), j < k + 1 → d[j].1 ≤ at_) := Lib.hid (fun j hj h => by
              by_cases e : j = k
              · subst e; rw [← hy]; exact he
              · exact HK.out j hj (by omega))
            clear hy hkl
            go_wp2
            go_round
            case rel => exact ⟨k + 1, by omega, by go_num, HNx⟩
            case measure => simp [intOf]; omega
          · have HD := Lib.hid (insP_at (l := d) (t := (at_, id)) (k := k) (by omega) HK.out (fun _ => by rw [← hy]; exact he))
            have HS1 : Hid (∀ V, Below w2.heap.size w2 V → 0 < k → ∃ ad, (some ⟨g, 0, none⟩ : Option Addr) = some ad ∧ ∀ j u, (cellsT (d.take k))[j]? = some u → V.cell? (ad.add j) = some u) := Lib.hid (fun V hV h0 => by
              obtain ⟨g', eg, hs⟩ := ref_src (lo := 0) (hi := k) (own_moved (p := fun _ => False) Q2.out (Below.movedNew hV) (fun _ _ h => h)) (by have := HM.out; omega) (by omega) (by omega)
              injection eg with eg; injection eg with eg; subst eg
              exact ⟨_, rfl, by simpa using hs⟩)
            have HL1 : Hid ((cellsT (d.take k)).length = k * 2) := Lib.hid (by rw [cellsT_len, List.length_take, Nat.min_eq_left (by have := HM.out; omega)])
            have HS2 : Hid (∀ V, Below w2.heap.size w2 V → 0 < m - k → ∃ ad, (some ⟨g, k * 2, none⟩ : Option Addr) = some ad ∧ ∀ j u, (cellsT (d.drop k))[j]? = some u → V.cell? (ad.add j) = some u) := Lib.hid (fun V hV h0 => by
              obtain ⟨g', eg, hs⟩ := ref_src (lo := k) (hi := d.length) (own_moved (p := fun _ => False) Q2.out (Below.movedNew hV) (fun _ _ h => h)) (by omega) (by omega) (by have := HM.out; omega)
              injection eg with eg; injection eg with eg; subst eg
              exact ⟨_, rfl, by simpa using hs⟩)
            have HL2 : Hid ((cellsT (d.drop k)).length = (m - k) * 2) := Lib.hid (by rw [cellsT_len, List.length_drop, ← HM.out])
            have hkz : (0 : Int) ≤ (k : Int) := by omega
            have hkb : (k : Int) ≤ 65536 := by omega
            have hkc : k ≤ c2 := by omega
            have hkc2 : (k : Int) ≤ (c2 : Int) := by omega
            have HSt : Hid (∀ V, Below w2.heap.size w2 V → V.cell? ⟨x, 0, none⟩ = some (.slice (some ⟨g, 0, none⟩) m c2) ∧ V.frozen? ⟨x, 0, none⟩ = false) := Lib.hid (fun V hV => ⟨cell_later hV c1, by rw [hV.frozen (p := ⟨x, 0, none⟩) hx]; exact hfz⟩)
            have hkm : (k : Int) ≤ (m : Int) := by omega
            have hckk : ¬ c2 = k := by omega
            clear hy hkl
            go_wp2_with fail
            have HBA : Hid (Below w2.heap.size w2 (w2.alloc (.cells #[] 36)).drew) := Lib.hid (below_alloc _ _).drew
            have HBB : Hid (Below w2.heap.size w2 ((w2.alloc (.cells #[] 36)).alloc (.cells #[.int .i64 at_, .int .i64 id] 36)).drew) := Lib.hid (((below_alloc _ _).alloc (by simp) _).drew)
            have HBC : Hid (Below w2.heap.size w2 (w2.alloc (.cells #[.int .i64 at_, .int .i64 id] 36)).drew) := Lib.hid (below_alloc _ _).drew
            have HBD : Hid (Below w2.heap.size w2 ((w2.alloc (.cells #[.int .i64 at_, .int .i64 id] 36)).alloc (.cells #[] 36)).drew) := Lib.hid (((below_alloc _ _).alloc (by simp) _).drew)
            have HOA : Hid (((w2.alloc (.cells #[] 36)).drew).ownsRow w2.heap.size 36 2 (.slice (some ⟨w2.heap.size, 0, none⟩) 0 0) 0 []) := Lib.hid (World.ownsRow_made w2 #[] 0 (Nat.le_refl _) (Nat.zero_le _) rfl)
            have HOB : Hid ((((w2.alloc (.cells #[] 36)).alloc (.cells #[.int .i64 at_, .int .i64 id] 36)).drew).ownsRow w2.heap.size 36 2 (.slice (some ⟨w2.heap.size, 0, none⟩) 0 0) 0 []) := Lib.hid (own_moved (p := fun _ => False) HOA.out (Below.movedNew (below_alloc _ _)) (fun _ _ h => h))
            have hod : ((w2.alloc (.cells #[.int .i64 at_, .int .i64 id] 36)).alloc (.cells #[] 36)).ownsRow w2.heap.size 36 2 (.slice (some ⟨w2.heap.size + 1, 0, none⟩) 0 0) 0 [] := by have h9 := World.ownsRow_made (base := w2.heap.size) (w2.alloc (.cells #[.int .i64 at_, .int .i64 id] 36)) #[] 0 (by simp) (Nat.zero_le _) rfl (e := 36) (size := 2); simpa using h9
            have HOD : Hid ((((w2.alloc (.cells #[.int .i64 at_, .int .i64 id] 36)).alloc (.cells #[] 36)).drew).ownsRow w2.heap.size 36 2 (.slice (some ⟨w2.heap.size + 1, 0, none⟩) 0 0) 0 []) := Lib.hid hod
            clear hod
            have htb : ((w2.alloc (.cells #[] 36)).alloc (.cells #[.int .i64 at_, .int .i64 id] 36)).heap[w2.heap.size + 1]? = some (.cells #[.int .i64 at_, .int .i64 id] 36 (0, 0)) := by have h9 := heap_new (w2.alloc (.cells #[] 36)) (.cells #[.int .i64 at_, .int .i64 id] 36); rw [show (w2.alloc (.cells #[] 36)).heap.size = w2.heap.size + 1 from by simp] at h9; exact h9
            have HTB : Hid ((((w2.alloc (.cells #[] 36)).alloc (.cells #[.int .i64 at_, .int .i64 id] 36)).drew).heap[w2.heap.size + 1]? = some (.cells #[.int .i64 at_, .int .i64 id] 36 (0, 0))) := Lib.hid htb
            clear htb
            have HTD : Hid ((((w2.alloc (.cells #[.int .i64 at_, .int .i64 id] 36)).alloc (.cells #[] 36)).drew).heap[w2.heap.size]? = some (.cells #[.int .i64 at_, .int .i64 id] 36 (0, 0))) := Lib.hid (((below_alloc (w2.alloc (.cells #[.int .i64 at_, .int .i64 id] 36)) (.cells #[] 36)).block _ (by simp)).trans (heap_new w2 (.cells #[.int .i64 at_, .int .i64 id] 36)))
            refine wp_region_heldz_drew (S := (fun w' => Below w2.heap.size w2 w')) 23 (by kernel_rfl) (Below.refl _ _).drew (fun hHeld => ?_)
            refine wpAnyZ_take (i := 0) (v := ?vv77) rfl (by kernel_rfl) (by kernel_rfl) (by kernel_rfl) (fun _ _ _ h => h) (Or.inl ⟨by rfl, ?hy77⟩) hHeld ?rr77
            case hy77 => (intro w' hSw; obtain ⟨g0, g1⟩ := HSt.out _ hSw; go_simp; try with_reducible rfl)
            try simp only [Act.put, List.setIfInBounds_toArray, List.set_cons_zero, List.set_cons_succ, List.getElem_toArray, List.getElem_cons_succ, List.getElem_cons_zero]
            refine wpAnyZ_take (i := 2) (v := ?vv78) rfl (by kernel_rfl) (by kernel_rfl) (by kernel_rfl) (fun _ _ _ h => h) (Or.inl ⟨by rfl, ?hy78⟩) hHeld ?rr78
            case hy78 => (intro w' hSw; obtain ⟨g0, g1⟩ := HSt.out _ hSw; go_simp; try with_reducible rfl)
            try simp only [Act.put, List.setIfInBounds_toArray, List.set_cons_zero, List.set_cons_succ, List.getElem_toArray, List.getElem_cons_succ, List.getElem_cons_zero]
            refine wpAnyZ_take (i := 3) (v := ?vv79) rfl (by kernel_rfl) (by kernel_rfl) (by kernel_rfl) (fun _ _ _ h => h) (Or.inl ⟨by rfl, ?hy79⟩) hHeld ?rr79
            case hy79 => (intro w' hSw; obtain ⟨g0, g1⟩ := HSt.out _ hSw; go_simp; try with_reducible rfl)
            try simp only [Act.put, List.setIfInBounds_toArray, List.set_cons_zero, List.set_cons_succ, List.getElem_toArray, List.getElem_cons_succ, List.getElem_cons_zero]
            refine wpAnyZ_take (i := 4) (v := ?vv80) rfl (by kernel_rfl) (by kernel_rfl) (by kernel_rfl) (fun _ _ _ h => h) (Or.inl ⟨by rfl, ?hy80⟩) hHeld ?rr80
            case hy80 => (intro w' hSw; obtain ⟨g0, g1⟩ := HSt.out _ hSw; go_simp; try with_reducible rfl)
            try simp only [Act.put, List.setIfInBounds_toArray, List.set_cons_zero, List.set_cons_succ, List.getElem_toArray, List.getElem_cons_succ, List.getElem_cons_zero]
            refine wpAnyZ_take (i := 5) (v := ?vv81) rfl (by kernel_rfl) (by kernel_rfl) (by kernel_rfl) (fun _ _ _ h => h) (Or.inl ⟨by rfl, ?hy81⟩) hHeld ?rr81
            case hy81 => (intro w' hSw; obtain ⟨g0, g1⟩ := HSt.out _ hSw; go_simp; try with_reducible rfl)
            try simp only [Act.put, List.setIfInBounds_toArray, List.set_cons_zero, List.set_cons_succ, List.getElem_toArray, List.getElem_cons_succ, List.getElem_cons_zero]
            refine wpAnyZ_take (i := 6) (v := ?vv82) rfl (by kernel_rfl) (by kernel_rfl) (by kernel_rfl) (fun _ _ _ h => h) (Or.inl ⟨by rfl, ?hy82⟩) hHeld ?rr82
            case hy82 => (intro w' hSw; obtain ⟨g0, g1⟩ := HSt.out _ hSw; go_simp; try with_reducible rfl)
            try simp only [Act.put, List.setIfInBounds_toArray, List.set_cons_zero, List.set_cons_succ, List.getElem_toArray, List.getElem_cons_succ, List.getElem_cons_zero]
            refine wpAnyZ_take (i := 7) (v := ?vv83) rfl (by kernel_rfl) (by kernel_rfl) (by kernel_rfl) (fun _ _ _ h => h) (Or.inl ⟨by rfl, ?hy83⟩) hHeld ?rr83
            case hy83 => (intro w' hSw; obtain ⟨g0, g1⟩ := HSt.out _ hSw; go_simp; try with_reducible rfl)
            try simp only [Act.put, List.setIfInBounds_toArray, List.set_cons_zero, List.set_cons_succ, List.getElem_toArray, List.getElem_cons_succ, List.getElem_cons_zero]
            refine wpAnyZ_take (i := 9) (v := ?vv84) rfl (by kernel_rfl) (by kernel_rfl) (by kernel_rfl) (fun _ _ _ h => h) (Or.inl ⟨by rfl, ?hy84⟩) hHeld ?rr84
            case hy84 => (intro w' hSw; obtain ⟨g0, g1⟩ := HSt.out _ hSw; go_simp; try with_reducible rfl)
            try simp only [Act.put, List.setIfInBounds_toArray, List.set_cons_zero, List.set_cons_succ, List.getElem_toArray, List.getElem_cons_succ, List.getElem_cons_zero]
            refine wpAnyZ_take (i := 10) (v := ?vv85) rfl (by kernel_rfl) (by kernel_rfl) (by kernel_rfl) (fun _ _ _ h => h) (Or.inl ⟨by rfl, ?hy85⟩) hHeld ?rr85
            case hy85 => (intro w' hSw; obtain ⟨g0, g1⟩ := HSt.out _ hSw; go_simp; try with_reducible rfl)
            try simp only [Act.put, List.setIfInBounds_toArray, List.set_cons_zero, List.set_cons_succ, List.getElem_toArray, List.getElem_cons_succ, List.getElem_cons_zero]
            refine wpAnyZ_take (i := 11) (v := ?vv86) rfl (by kernel_rfl) (by kernel_rfl) (by kernel_rfl) (fun _ _ _ h => h) (Or.inl ⟨by rfl, ?hy86⟩) hHeld ?rr86
            case hy86 => (intro w' hSw; obtain ⟨g0, g1⟩ := HSt.out _ hSw; go_simp; try with_reducible rfl)
            try simp only [Act.put, List.setIfInBounds_toArray, List.set_cons_zero, List.set_cons_succ, List.getElem_toArray, List.getElem_cons_succ, List.getElem_cons_zero]
            refine wpAnyZ_take (i := 14) (v := ?vv87) rfl (by kernel_rfl) (by kernel_rfl) (by kernel_rfl) (fun _ _ _ h => h) (Or.inl ⟨by rfl, ?hy87⟩) hHeld ?rr87
            case hy87 => (intro w' hSw; obtain ⟨g0, g1⟩ := HSt.out _ hSw; go_simp; try with_reducible rfl)
            try simp only [Act.put, List.setIfInBounds_toArray, List.set_cons_zero, List.set_cons_succ, List.getElem_toArray, List.getElem_cons_succ, List.getElem_cons_zero]
            refine wpAnyZ_take (i := 15) (v := ?vv88) rfl (by kernel_rfl) (by kernel_rfl) (by kernel_rfl) (fun _ _ _ h => h) (Or.inl ⟨by rfl, ?hy88⟩) hHeld ?rr88
            case hy88 => (intro w' hSw; obtain ⟨g0, g1⟩ := HSt.out _ hSw; go_simp; try with_reducible rfl)
            try simp only [Act.put, List.setIfInBounds_toArray, List.set_cons_zero, List.set_cons_succ, List.getElem_toArray, List.getElem_cons_succ, List.getElem_cons_zero]
            refine wpAnyZ_take (i := 16) (v := ?vv89) rfl (by kernel_rfl) (by kernel_rfl) (by kernel_rfl) (fun _ _ _ h => h) (Or.inl ⟨by rfl, ?hy89⟩) hHeld ?rr89
            case hy89 => (intro w' hSw; obtain ⟨g0, g1⟩ := HSt.out _ hSw; go_simp; try with_reducible rfl)
            try simp only [Act.put, List.setIfInBounds_toArray, List.set_cons_zero, List.set_cons_succ, List.getElem_toArray, List.getElem_cons_succ, List.getElem_cons_zero]
            refine wpAnyZ_take (i := 17) (v := ?vv90) rfl (by kernel_rfl) (by kernel_rfl) (by kernel_rfl) (fun _ _ _ h => h) (Or.inl ⟨by rfl, ?hy90⟩) hHeld ?rr90
            case hy90 => (intro w' hSw; obtain ⟨g0, g1⟩ := HSt.out _ hSw; go_simp; try with_reducible rfl)
            try simp only [Act.put, List.setIfInBounds_toArray, List.set_cons_zero, List.set_cons_succ, List.getElem_toArray, List.getElem_cons_succ, List.getElem_cons_zero]
            refine wpAnyZ_take (i := 18) (v := ?vv91) rfl (by kernel_rfl) (by kernel_rfl) (by kernel_rfl) (fun _ _ _ h => h) (Or.inl ⟨by rfl, ?hy91⟩) hHeld ?rr91
            case hy91 => (intro w' hSw; obtain ⟨g0, g1⟩ := HSt.out _ hSw; go_simp; try with_reducible rfl)
            try simp only [Act.put, List.setIfInBounds_toArray, List.set_cons_zero, List.set_cons_succ, List.getElem_toArray, List.getElem_cons_succ, List.getElem_cons_zero]
            refine wpAnyZ_take (i := 19) (v := ?vv92) rfl (by kernel_rfl) (by kernel_rfl) (by kernel_rfl) (fun _ _ _ h => h) (Or.inl ⟨by rfl, ?hy92⟩) hHeld ?rr92
            case hy92 => (intro w' hSw; obtain ⟨g0, g1⟩ := HSt.out _ hSw; go_simp; try with_reducible rfl)
            try simp only [Act.put, List.setIfInBounds_toArray, List.set_cons_zero, List.set_cons_succ, List.getElem_toArray, List.getElem_cons_succ, List.getElem_cons_zero]
            refine wpAnyZ_ready (rs := [1, 12]) (by kernel_rfl) (by simp) ?_
            refine AllReadyZ.cons rfl (fun K hK => ?_) (AllReadyZ.cons rfl (fun K hK => ?_) AllReadyZ.nil)
            · try rw [if_pos (by rfl)]
              go_simp
              refine hK.out _ _ HBA.out (fun hHeld2 => ?_)
              clear hK K hHeld
              have hHeld := hHeld2
              clear hHeld2
              try simp only [Act.put, List.setIfInBounds_toArray, List.set_cons_zero, List.set_cons_succ, List.getElem_toArray, List.getElem_cons_succ, List.getElem_cons_zero]
              refine wpAnyZ_ready (rs := [8, 12]) (by kernel_rfl) (by simp) ?_
              refine AllReadyZ.cons rfl (fun K hK => ?_) (AllReadyZ.cons rfl (fun K hK => ?_) AllReadyZ.nil)
              · try rw [if_pos (by rfl)]
                refine oper_append_k _ (.tmp 51) (.tmp 57) 26 rfl 36 i0 (.agg #[.int .i64 0, .int .i64 0]) 2 16 Try.underlying26 hinfo hz0 hz1 hz2 rfl (by decide) w2.heap.size (.slice (some ⟨w2.heap.size, 0, none⟩) 0 0) 0 [] rfl HOA.out (some ⟨g, 0, none⟩) k c2 (cellsT (d.take k)) rfl HL1.out (HS1.out _ HBA.out) (cellsT_one _) (by unfold maxLen; omega) (by omega) HBA.out.size ?_
                intro A5 c5 w5 hown5 hgrow5 _
                simp only [Nat.zero_add, Nat.add_zero] at hown5 ⊢
                have HO5 : Hid (w5.ownsRow w2.heap.size 36 2 (.slice A5 k c5) k (cellsT (d.take k))) := Lib.hid (by simpa using hown5)
                have HB5 : Hid (Below w2.heap.size w2 w5) := Lib.hid (HBA.out.grown hgrow5 HBA.out.size (fun k e => (HOA.out.lt k e).1))
                clear hown5 hgrow5
                refine hK.out _ _ HB5.out (fun hHeld2 => ?_)
                clear hK K hHeld
                have hHeld := hHeld2
                clear hHeld2
                try simp only [Act.put, List.setIfInBounds_toArray, List.set_cons_zero, List.set_cons_succ, List.getElem_toArray, List.getElem_cons_succ, List.getElem_cons_zero]
                refine wpAnyZ_ready (rs := [12]) (by kernel_rfl) (by simp) ?_
                refine AllReadyZ.cons rfl (fun K hK => ?_) AllReadyZ.nil
                try rw [if_pos (by rfl)]
                go_simp
                have HO5a := Lib.hid (own_moved (p := fun _ => False) HO5.out (Below.movedNew (below_alloc w5 (.cells #[.int .i64 at_, .int .i64 id] 36))) (fun _ _ h => h))
                have HB5a := Lib.hid (HB5.out.alloc HB5.out.size (.cells #[.int .i64 at_, .int .i64 id] 36))
                have HT5a := Lib.hid (heap_new w5 (.cells #[.int .i64 at_, .int .i64 id] 36))
                refine hK.out _ _ HB5a.out (fun hHeld2 => ?_)
                clear hK K hHeld
                have hHeld := hHeld2
                clear hHeld2
                try simp only [Act.put, List.setIfInBounds_toArray, List.set_cons_zero, List.set_cons_succ, List.getElem_toArray, List.getElem_cons_succ, List.getElem_cons_zero]
                refine wpAnyZ_ready (rs := [13]) (by kernel_rfl) (by simp) ?_
                refine AllReadyZ.cons rfl (fun K hK => ?_) AllReadyZ.nil
                try rw [if_pos (by rfl)]
                refine oper_append_k _ (.tmp 58) (.tmp 62) 26 rfl 36 i0 (.agg #[.int .i64 0, .int .i64 0]) 2 16 Try.underlying26 hinfo hz0 hz1 hz2 rfl (by decide) w2.heap.size (.slice A5 k c5) k (cellsT (d.take k)) rfl HO5a.out (some ⟨w5.heap.size, 0, none⟩) 1 1 [.int .i64 at_, .int .i64 id] rfl rfl (fun _ => ⟨_, rfl, cells_add HT5a.out⟩) (fun u hu => by simp at hu; rcases hu with rfl | rfl <;> rfl) (by unfold maxLen; omega) (by omega) HB5a.out.size ?_
                intro A6 c6 w6 hown6 hgrow6 _
                try simp only [Nat.zero_add, Nat.add_zero] at hown6 ⊢
                have HO6 := Lib.hid hown6
                have HB6 : Hid (Below w2.heap.size w2 w6) := Lib.hid (HB5a.out.grown hgrow6 HB5a.out.size (fun k e => (HO5a.out.lt k e).1))
                clear hown6 hgrow6
                refine hK.out _ _ HB6.out (fun hHeld2 => ?_)
                clear hK K hHeld
                have hHeld := hHeld2
                clear hHeld2
                try simp only [Act.put, List.setIfInBounds_toArray, List.set_cons_zero, List.set_cons_succ, List.getElem_toArray, List.getElem_cons_succ, List.getElem_cons_zero]
                refine wpAnyZ_ready (rs := [20]) (by kernel_rfl) (by simp) ?_
                refine AllReadyZ.cons rfl (fun K hK => ?_) AllReadyZ.nil
                try rw [if_pos (by rfl)]
                refine oper_append_k _ (.tmp 63) (.tmp 69) 26 rfl 36 i0 (.agg #[.int .i64 0, .int .i64 0]) 2 16 Try.underlying26 hinfo hz0 hz1 hz2 rfl (by decide) w2.heap.size (.slice A6 (k + 1) c6) (k + 1) _ rfl HO6.out (some ⟨g, k * 2, none⟩) (m - k) (c2 - k) (cellsT (d.drop k)) rfl HL2.out (HS2.out _ HB6.out) (cellsT_one _) (by unfold maxLen; omega) (by omega) HB6.out.size ?_
                intro A7 c7 w7 hown7 hgrow7 _
                try simp only [Nat.zero_add, Nat.add_zero] at hown7 ⊢
                have HO7 := Lib.hid hown7
                have HB7 : Hid (Below w2.heap.size w2 w7) := Lib.hid (HB6.out.grown hgrow7 HB6.out.size (fun k e => (HO6.out.lt k e).1))
                clear hown7 hgrow7
                obtain ⟨b0, b1⟩ := HSt.out _ HB7.out
                refine hK.out _ _ HB7.out (fun hHeld2 => ?_)
                clear hK K hHeld
                have hHeld := hHeld2
                clear hHeld2
                try simp only [Act.put, List.setIfInBounds_toArray, List.set_cons_zero, List.set_cons_succ, List.getElem_toArray, List.getElem_cons_succ, List.getElem_cons_zero]
                refine wpAnyZ_ready (rs := [21]) (by kernel_rfl) (by simp) ?_
                refine AllReadyZ.cons rfl (fun K hK => ?_) AllReadyZ.nil
                try rw [if_pos (by rfl)]
                go_simp
                refine hK.out _ _ HB7.out (fun hHeld2 => ?_)
                clear hK K hHeld
                have hHeld := hHeld2
                clear hHeld2
                try simp only [Act.put, List.setIfInBounds_toArray, List.set_cons_zero, List.set_cons_succ, List.getElem_toArray, List.getElem_cons_succ, List.getElem_cons_zero]
                refine wpAnyZ_take (i := 22) (v := ?vv93) rfl (by kernel_rfl) (by kernel_rfl) (by kernel_rfl) (fun _ _ _ h => h) (Or.inl ⟨by rfl, ?hy93⟩) hHeld ?rr93
                case hy93 => (intro w' hSw; obtain ⟨g0, g1⟩ := HSt.out _ hSw; go_simp; try with_reducible rfl)
                try simp only [Act.put, List.setIfInBounds_toArray, List.set_cons_zero, List.set_cons_succ, List.getElem_toArray, List.getElem_cons_succ, List.getElem_cons_zero]
                refine wpAnyZ_ready (rs := [23]) (by kernel_rfl) (by simp) ?_
                refine AllReadyZ.last rfl (fun K hK => ?_)
                try rw [if_pos (by rfl)]
                go_simp
                refine hK.out _ _ ?_
                clear hK K hHeld
                try simp only [Act.put, List.setIfInBounds_toArray, List.set_cons_zero, List.set_cons_succ, List.getElem_toArray, List.getElem_cons_succ, List.getElem_cons_zero]
                refine wpAnyZ_done (by kernel_rfl) ?_ _
                have hln : (insP d (at_, id)).length = k + 1 + (m - k) := by rw [insP_len]; have := HM.out; omega
                have HE : Hid (RefQ (w7.setCell ⟨x, 0, none⟩ (.slice A7 (k + 1 + (m - k)) c7)) (fun k => F2 k ∨ w2.heap.size ≤ k) x (insP d (at_, id)) ∧ Moved F2 w2 (w7.setCell ⟨x, 0, none⟩ (.slice A7 (k + 1 + (m - k)) c7))) := Lib.hid (by
                  have := ref_end (l' := insP d (at_, id)) (A5 := A7) (c5 := c7) Q1.out Q3.out HB7.out (by rw [hln, HD.out, cellsT_app, cellsT_app]; simpa [cellsT] using HO7.out) (by rw [hln]; omega)
                  rw [hln] at this; exact this)
                clear hln
                go_wp2
                go_ret
                exact HF.out _ HE.out
              · try rw [if_pos (by rfl)]
                go_simp
                refine hK.out _ _ HBB.out (fun hHeld2 => ?_)
                clear hK K hHeld
                have hHeld := hHeld2
                clear hHeld2
                try simp only [Act.put, List.setIfInBounds_toArray, List.set_cons_zero, List.set_cons_succ, List.getElem_toArray, List.getElem_cons_succ, List.getElem_cons_zero]
                refine wpAnyZ_ready (rs := [8]) (by kernel_rfl) (by simp) ?_
                refine AllReadyZ.cons rfl (fun K hK => ?_) AllReadyZ.nil
                try rw [if_pos (by rfl)]
                refine oper_append_k _ (.tmp 51) (.tmp 57) 26 rfl 36 i0 (.agg #[.int .i64 0, .int .i64 0]) 2 16 Try.underlying26 hinfo hz0 hz1 hz2 rfl (by decide) w2.heap.size (.slice (some ⟨w2.heap.size, 0, none⟩) 0 0) 0 [] rfl HOB.out (some ⟨g, 0, none⟩) k c2 (cellsT (d.take k)) rfl HL1.out (HS1.out _ HBB.out) (cellsT_one _) (by unfold maxLen; omega) (by omega) HBB.out.size ?_
                intro A5 c5 w5 hown5 hgrow5 _
                simp only [Nat.zero_add, Nat.add_zero] at hown5 ⊢
                have HO5 : Hid (w5.ownsRow w2.heap.size 36 2 (.slice A5 k c5) k (cellsT (d.take k))) := Lib.hid (by simpa using hown5)
                have HB5 : Hid (Below w2.heap.size w2 w5) := Lib.hid (HBB.out.grown hgrow5 HBB.out.size (fun k e => (HOB.out.lt k e).1))
                have HT5 := Lib.hid ((hgrow5.block (w2.heap.size + 1) (heap_lt HTB.out) (fun e => by have e : w2.heap.size + 1 = w2.heap.size := Option.some.inj e; omega)).trans HTB.out)
                clear hown5 hgrow5
                refine hK.out _ _ HB5.out (fun hHeld2 => ?_)
                clear hK K hHeld
                have hHeld := hHeld2
                clear hHeld2
                try simp only [Act.put, List.setIfInBounds_toArray, List.set_cons_zero, List.set_cons_succ, List.getElem_toArray, List.getElem_cons_succ, List.getElem_cons_zero]
                refine wpAnyZ_ready (rs := [13]) (by kernel_rfl) (by simp) ?_
                refine AllReadyZ.cons rfl (fun K hK => ?_) AllReadyZ.nil
                try rw [if_pos (by rfl)]
                refine oper_append_k _ (.tmp 58) (.tmp 62) 26 rfl 36 i0 (.agg #[.int .i64 0, .int .i64 0]) 2 16 Try.underlying26 hinfo hz0 hz1 hz2 rfl (by decide) w2.heap.size (.slice A5 k c5) k (cellsT (d.take k)) rfl HO5.out (some ⟨w2.heap.size + 1, 0, none⟩) 1 1 [.int .i64 at_, .int .i64 id] rfl rfl (fun _ => ⟨_, rfl, cells_add HT5.out⟩) (fun u hu => by simp at hu; rcases hu with rfl | rfl <;> rfl) (by unfold maxLen; omega) (by omega) HB5.out.size ?_
                intro A6 c6 w6 hown6 hgrow6 _
                try simp only [Nat.zero_add, Nat.add_zero] at hown6 ⊢
                have HO6 := Lib.hid hown6
                have HB6 : Hid (Below w2.heap.size w2 w6) := Lib.hid (HB5.out.grown hgrow6 HB5.out.size (fun k e => (HO5.out.lt k e).1))
                clear hown6 hgrow6
                refine hK.out _ _ HB6.out (fun hHeld2 => ?_)
                clear hK K hHeld
                have hHeld := hHeld2
                clear hHeld2
                try simp only [Act.put, List.setIfInBounds_toArray, List.set_cons_zero, List.set_cons_succ, List.getElem_toArray, List.getElem_cons_succ, List.getElem_cons_zero]
                refine wpAnyZ_ready (rs := [20]) (by kernel_rfl) (by simp) ?_
                refine AllReadyZ.cons rfl (fun K hK => ?_) AllReadyZ.nil
                try rw [if_pos (by rfl)]
                refine oper_append_k _ (.tmp 63) (.tmp 69) 26 rfl 36 i0 (.agg #[.int .i64 0, .int .i64 0]) 2 16 Try.underlying26 hinfo hz0 hz1 hz2 rfl (by decide) w2.heap.size (.slice A6 (k + 1) c6) (k + 1) _ rfl HO6.out (some ⟨g, k * 2, none⟩) (m - k) (c2 - k) (cellsT (d.drop k)) rfl HL2.out (HS2.out _ HB6.out) (cellsT_one _) (by unfold maxLen; omega) (by omega) HB6.out.size ?_
                intro A7 c7 w7 hown7 hgrow7 _
                try simp only [Nat.zero_add, Nat.add_zero] at hown7 ⊢
                have HO7 := Lib.hid hown7
                have HB7 : Hid (Below w2.heap.size w2 w7) := Lib.hid (HB6.out.grown hgrow7 HB6.out.size (fun k e => (HO6.out.lt k e).1))
                clear hown7 hgrow7
                obtain ⟨b0, b1⟩ := HSt.out _ HB7.out
                refine hK.out _ _ HB7.out (fun hHeld2 => ?_)
                clear hK K hHeld
                have hHeld := hHeld2
                clear hHeld2
                try simp only [Act.put, List.setIfInBounds_toArray, List.set_cons_zero, List.set_cons_succ, List.getElem_toArray, List.getElem_cons_succ, List.getElem_cons_zero]
                refine wpAnyZ_ready (rs := [21]) (by kernel_rfl) (by simp) ?_
                refine AllReadyZ.cons rfl (fun K hK => ?_) AllReadyZ.nil
                try rw [if_pos (by rfl)]
                go_simp
                refine hK.out _ _ HB7.out (fun hHeld2 => ?_)
                clear hK K hHeld
                have hHeld := hHeld2
                clear hHeld2
                try simp only [Act.put, List.setIfInBounds_toArray, List.set_cons_zero, List.set_cons_succ, List.getElem_toArray, List.getElem_cons_succ, List.getElem_cons_zero]
                refine wpAnyZ_take (i := 22) (v := ?vv94) rfl (by kernel_rfl) (by kernel_rfl) (by kernel_rfl) (fun _ _ _ h => h) (Or.inl ⟨by rfl, ?hy94⟩) hHeld ?rr94
                case hy94 => (intro w' hSw; obtain ⟨g0, g1⟩ := HSt.out _ hSw; go_simp; try with_reducible rfl)
                try simp only [Act.put, List.setIfInBounds_toArray, List.set_cons_zero, List.set_cons_succ, List.getElem_toArray, List.getElem_cons_succ, List.getElem_cons_zero]
                refine wpAnyZ_ready (rs := [23]) (by kernel_rfl) (by simp) ?_
                refine AllReadyZ.last rfl (fun K hK => ?_)
                try rw [if_pos (by rfl)]
                go_simp
                refine hK.out _ _ ?_
                clear hK K hHeld
                try simp only [Act.put, List.setIfInBounds_toArray, List.set_cons_zero, List.set_cons_succ, List.getElem_toArray, List.getElem_cons_succ, List.getElem_cons_zero]
                refine wpAnyZ_done (by kernel_rfl) ?_ _
                have hln : (insP d (at_, id)).length = k + 1 + (m - k) := by rw [insP_len]; have := HM.out; omega
                have HE : Hid (RefQ (w7.setCell ⟨x, 0, none⟩ (.slice A7 (k + 1 + (m - k)) c7)) (fun k => F2 k ∨ w2.heap.size ≤ k) x (insP d (at_, id)) ∧ Moved F2 w2 (w7.setCell ⟨x, 0, none⟩ (.slice A7 (k + 1 + (m - k)) c7))) := Lib.hid (by
                  have := ref_end (l' := insP d (at_, id)) (A5 := A7) (c5 := c7) Q1.out Q3.out HB7.out (by rw [hln, HD.out, cellsT_app, cellsT_app]; simpa [cellsT] using HO7.out) (by rw [hln]; omega)
                  rw [hln] at this; exact this)
                clear hln
                go_wp2
                go_ret
                exact HF.out _ HE.out
            · try rw [if_pos (by rfl)]
              go_simp
              refine hK.out _ _ HBC.out (fun hHeld2 => ?_)
              clear hK K hHeld
              have hHeld := hHeld2
              clear hHeld2
              try simp only [Act.put, List.setIfInBounds_toArray, List.set_cons_zero, List.set_cons_succ, List.getElem_toArray, List.getElem_cons_succ, List.getElem_cons_zero]
              refine wpAnyZ_ready (rs := [1]) (by kernel_rfl) (by simp) ?_
              refine AllReadyZ.cons rfl (fun K hK => ?_) AllReadyZ.nil
              try rw [if_pos (by rfl)]
              go_simp
              refine hK.out _ _ HBD.out (fun hHeld2 => ?_)
              clear hK K hHeld
              have hHeld := hHeld2
              clear hHeld2
              try simp only [Act.put, List.setIfInBounds_toArray, List.set_cons_zero, List.set_cons_succ, List.getElem_toArray, List.getElem_cons_succ, List.getElem_cons_zero]
              refine wpAnyZ_ready (rs := [8]) (by kernel_rfl) (by simp) ?_
              refine AllReadyZ.cons rfl (fun K hK => ?_) AllReadyZ.nil
              try rw [if_pos (by rfl)]
              refine oper_append_k _ (.tmp 51) (.tmp 57) 26 rfl 36 i0 (.agg #[.int .i64 0, .int .i64 0]) 2 16 Try.underlying26 hinfo hz0 hz1 hz2 rfl (by decide) w2.heap.size (.slice (some ⟨w2.heap.size + 1, 0, none⟩) 0 0) 0 [] rfl HOD.out (some ⟨g, 0, none⟩) k c2 (cellsT (d.take k)) rfl HL1.out (HS1.out _ HBD.out) (cellsT_one _) (by unfold maxLen; omega) (by omega) HBD.out.size ?_
              intro A5 c5 w5 hown5 hgrow5 _
              simp only [Nat.zero_add, Nat.add_zero] at hown5 ⊢
              have HO5 : Hid (w5.ownsRow w2.heap.size 36 2 (.slice A5 k c5) k (cellsT (d.take k))) := Lib.hid (by simpa using hown5)
              have HB5 : Hid (Below w2.heap.size w2 w5) := Lib.hid (HBD.out.grown hgrow5 HBD.out.size (fun k e => (HOD.out.lt k e).1))
              have HT5 := Lib.hid ((hgrow5.block w2.heap.size (heap_lt HTD.out) (fun e => by have e : w2.heap.size = w2.heap.size + 1 := Option.some.inj e; omega)).trans HTD.out)
              clear hown5 hgrow5
              refine hK.out _ _ HB5.out (fun hHeld2 => ?_)
              clear hK K hHeld
              have hHeld := hHeld2
              clear hHeld2
              try simp only [Act.put, List.setIfInBounds_toArray, List.set_cons_zero, List.set_cons_succ, List.getElem_toArray, List.getElem_cons_succ, List.getElem_cons_zero]
              refine wpAnyZ_ready (rs := [13]) (by kernel_rfl) (by simp) ?_
              refine AllReadyZ.cons rfl (fun K hK => ?_) AllReadyZ.nil
              try rw [if_pos (by rfl)]
              refine oper_append_k _ (.tmp 58) (.tmp 62) 26 rfl 36 i0 (.agg #[.int .i64 0, .int .i64 0]) 2 16 Try.underlying26 hinfo hz0 hz1 hz2 rfl (by decide) w2.heap.size (.slice A5 k c5) k (cellsT (d.take k)) rfl HO5.out (some ⟨w2.heap.size, 0, none⟩) 1 1 [.int .i64 at_, .int .i64 id] rfl rfl (fun _ => ⟨_, rfl, cells_add HT5.out⟩) (fun u hu => by simp at hu; rcases hu with rfl | rfl <;> rfl) (by unfold maxLen; omega) (by omega) HB5.out.size ?_
              intro A6 c6 w6 hown6 hgrow6 _
              try simp only [Nat.zero_add, Nat.add_zero] at hown6 ⊢
              have HO6 := Lib.hid hown6
              have HB6 : Hid (Below w2.heap.size w2 w6) := Lib.hid (HB5.out.grown hgrow6 HB5.out.size (fun k e => (HO5.out.lt k e).1))
              clear hown6 hgrow6
              refine hK.out _ _ HB6.out (fun hHeld2 => ?_)
              clear hK K hHeld
              have hHeld := hHeld2
              clear hHeld2
              try simp only [Act.put, List.setIfInBounds_toArray, List.set_cons_zero, List.set_cons_succ, List.getElem_toArray, List.getElem_cons_succ, List.getElem_cons_zero]
              refine wpAnyZ_ready (rs := [20]) (by kernel_rfl) (by simp) ?_
              refine AllReadyZ.cons rfl (fun K hK => ?_) AllReadyZ.nil
              try rw [if_pos (by rfl)]
              refine oper_append_k _ (.tmp 63) (.tmp 69) 26 rfl 36 i0 (.agg #[.int .i64 0, .int .i64 0]) 2 16 Try.underlying26 hinfo hz0 hz1 hz2 rfl (by decide) w2.heap.size (.slice A6 (k + 1) c6) (k + 1) _ rfl HO6.out (some ⟨g, k * 2, none⟩) (m - k) (c2 - k) (cellsT (d.drop k)) rfl HL2.out (HS2.out _ HB6.out) (cellsT_one _) (by unfold maxLen; omega) (by omega) HB6.out.size ?_
              intro A7 c7 w7 hown7 hgrow7 _
              try simp only [Nat.zero_add, Nat.add_zero] at hown7 ⊢
              have HO7 := Lib.hid hown7
              have HB7 : Hid (Below w2.heap.size w2 w7) := Lib.hid (HB6.out.grown hgrow7 HB6.out.size (fun k e => (HO6.out.lt k e).1))
              clear hown7 hgrow7
              obtain ⟨b0, b1⟩ := HSt.out _ HB7.out
              refine hK.out _ _ HB7.out (fun hHeld2 => ?_)
              clear hK K hHeld
              have hHeld := hHeld2
              clear hHeld2
              try simp only [Act.put, List.setIfInBounds_toArray, List.set_cons_zero, List.set_cons_succ, List.getElem_toArray, List.getElem_cons_succ, List.getElem_cons_zero]
              refine wpAnyZ_ready (rs := [21]) (by kernel_rfl) (by simp) ?_
              refine AllReadyZ.cons rfl (fun K hK => ?_) AllReadyZ.nil
              try rw [if_pos (by rfl)]
              go_simp
              refine hK.out _ _ HB7.out (fun hHeld2 => ?_)
              clear hK K hHeld
              have hHeld := hHeld2
              clear hHeld2
              try simp only [Act.put, List.setIfInBounds_toArray, List.set_cons_zero, List.set_cons_succ, List.getElem_toArray, List.getElem_cons_succ, List.getElem_cons_zero]
              refine wpAnyZ_take (i := 22) (v := ?vv95) rfl (by kernel_rfl) (by kernel_rfl) (by kernel_rfl) (fun _ _ _ h => h) (Or.inl ⟨by rfl, ?hy95⟩) hHeld ?rr95
              case hy95 => (intro w' hSw; obtain ⟨g0, g1⟩ := HSt.out _ hSw; go_simp; try with_reducible rfl)
              try simp only [Act.put, List.setIfInBounds_toArray, List.set_cons_zero, List.set_cons_succ, List.getElem_toArray, List.getElem_cons_succ, List.getElem_cons_zero]
              refine wpAnyZ_ready (rs := [23]) (by kernel_rfl) (by simp) ?_
              refine AllReadyZ.last rfl (fun K hK => ?_)
              try rw [if_pos (by rfl)]
              go_simp
              refine hK.out _ _ ?_
              clear hK K hHeld
              try simp only [Act.put, List.setIfInBounds_toArray, List.set_cons_zero, List.set_cons_succ, List.getElem_toArray, List.getElem_cons_succ, List.getElem_cons_zero]
              refine wpAnyZ_done (by kernel_rfl) ?_ _
              have hln : (insP d (at_, id)).length = k + 1 + (m - k) := by rw [insP_len]; have := HM.out; omega
              have HE : Hid (RefQ (w7.setCell ⟨x, 0, none⟩ (.slice A7 (k + 1 + (m - k)) c7)) (fun k => F2 k ∨ w2.heap.size ≤ k) x (insP d (at_, id)) ∧ Moved F2 w2 (w7.setCell ⟨x, 0, none⟩ (.slice A7 (k + 1 + (m - k)) c7))) := Lib.hid (by
                have := ref_end (l' := insP d (at_, id)) (A5 := A7) (c5 := c7) Q1.out Q3.out HB7.out (by rw [hln, HD.out, cellsT_app, cellsT_app]; simpa [cellsT] using HO7.out) (by rw [hln]; omega)
                rw [hln] at this; exact this)
              clear hln
              go_wp2
              go_ret
              exact HF.out _ HE.out
        · have hkm0 : k = m := by omega
          have HD := Lib.hid (insP_at (l := d) (t := (at_, id)) (k := k) (by have := HM.out; omega) HK.out (fun hk' => by have := HM.out; omega))
          obtain ⟨hA0, hA1⟩ : (A2 = none → d.length = 0 ∧ c2 = 0) ∧ (∀ g, A2 = some g → ∃ b, g = ⟨b, 0, none⟩) := own_addr Q2.out
          rw [← HM.out] at hA0
          cases A2 with
          | none =>
            obtain ⟨rfl, rfl⟩ := hA0 rfl
            obtain rfl := hkm0
            clear hA0 hA1
            skip
            have HSt : Hid (∀ V, Below w2.heap.size w2 V → V.cell? ⟨x, 0, none⟩ = some (.slice none 0 0) ∧ V.frozen? ⟨x, 0, none⟩ = false) := Lib.hid (fun V hV => ⟨cell_later hV c1, by rw [hV.frozen (p := ⟨x, 0, none⟩) hx]; exact hfz⟩)
            go_wp2_with fail
            have HBA : Hid (Below w2.heap.size w2 (w2.alloc (.cells #[] 36)).drew) := Lib.hid (below_alloc _ _).drew
            have HBB : Hid (Below w2.heap.size w2 ((w2.alloc (.cells #[] 36)).alloc (.cells #[.int .i64 at_, .int .i64 id] 36)).drew) := Lib.hid (((below_alloc _ _).alloc (by simp) _).drew)
            have HBC : Hid (Below w2.heap.size w2 (w2.alloc (.cells #[.int .i64 at_, .int .i64 id] 36)).drew) := Lib.hid (below_alloc _ _).drew
            have HBD : Hid (Below w2.heap.size w2 ((w2.alloc (.cells #[.int .i64 at_, .int .i64 id] 36)).alloc (.cells #[] 36)).drew) := Lib.hid (((below_alloc _ _).alloc (by simp) _).drew)
            have HOA : Hid (((w2.alloc (.cells #[] 36)).drew).ownsRow w2.heap.size 36 2 (.slice (some ⟨w2.heap.size, 0, none⟩) 0 0) 0 []) := Lib.hid (World.ownsRow_made w2 #[] 0 (Nat.le_refl _) (Nat.zero_le _) rfl)
            have HOB : Hid ((((w2.alloc (.cells #[] 36)).alloc (.cells #[.int .i64 at_, .int .i64 id] 36)).drew).ownsRow w2.heap.size 36 2 (.slice (some ⟨w2.heap.size, 0, none⟩) 0 0) 0 []) := Lib.hid (own_moved (p := fun _ => False) HOA.out (Below.movedNew (below_alloc _ _)) (fun _ _ h => h))
            have hod : ((w2.alloc (.cells #[.int .i64 at_, .int .i64 id] 36)).alloc (.cells #[] 36)).ownsRow w2.heap.size 36 2 (.slice (some ⟨w2.heap.size + 1, 0, none⟩) 0 0) 0 [] := by have h9 := World.ownsRow_made (base := w2.heap.size) (w2.alloc (.cells #[.int .i64 at_, .int .i64 id] 36)) #[] 0 (by simp) (Nat.zero_le _) rfl (e := 36) (size := 2); simpa using h9
            have HOD : Hid ((((w2.alloc (.cells #[.int .i64 at_, .int .i64 id] 36)).alloc (.cells #[] 36)).drew).ownsRow w2.heap.size 36 2 (.slice (some ⟨w2.heap.size + 1, 0, none⟩) 0 0) 0 []) := Lib.hid hod
            clear hod
            have htb : ((w2.alloc (.cells #[] 36)).alloc (.cells #[.int .i64 at_, .int .i64 id] 36)).heap[w2.heap.size + 1]? = some (.cells #[.int .i64 at_, .int .i64 id] 36 (0, 0)) := by have h9 := heap_new (w2.alloc (.cells #[] 36)) (.cells #[.int .i64 at_, .int .i64 id] 36); rw [show (w2.alloc (.cells #[] 36)).heap.size = w2.heap.size + 1 from by simp] at h9; exact h9
            have HTB : Hid ((((w2.alloc (.cells #[] 36)).alloc (.cells #[.int .i64 at_, .int .i64 id] 36)).drew).heap[w2.heap.size + 1]? = some (.cells #[.int .i64 at_, .int .i64 id] 36 (0, 0))) := Lib.hid htb
            clear htb
            have HTD : Hid ((((w2.alloc (.cells #[.int .i64 at_, .int .i64 id] 36)).alloc (.cells #[] 36)).drew).heap[w2.heap.size]? = some (.cells #[.int .i64 at_, .int .i64 id] 36 (0, 0))) := Lib.hid (((below_alloc (w2.alloc (.cells #[.int .i64 at_, .int .i64 id] 36)) (.cells #[] 36)).block _ (by simp)).trans (heap_new w2 (.cells #[.int .i64 at_, .int .i64 id] 36)))
            refine wp_region_heldz_drew (S := (fun w' => Below w2.heap.size w2 w')) 23 (by kernel_rfl) (Below.refl _ _).drew (fun hHeld => ?_)
            refine wpAnyZ_take (i := 0) (v := ?vv96) rfl (by kernel_rfl) (by kernel_rfl) (by kernel_rfl) (fun _ _ _ h => h) (Or.inl ⟨by rfl, ?hy96⟩) hHeld ?rr96
            case hy96 => (intro w' hSw; obtain ⟨g0, g1⟩ := HSt.out _ hSw; go_simp; try with_reducible rfl)
            try simp only [Act.put, List.setIfInBounds_toArray, List.set_cons_zero, List.set_cons_succ, List.getElem_toArray, List.getElem_cons_succ, List.getElem_cons_zero]
            refine wpAnyZ_take (i := 2) (v := ?vv97) rfl (by kernel_rfl) (by kernel_rfl) (by kernel_rfl) (fun _ _ _ h => h) (Or.inl ⟨by rfl, ?hy97⟩) hHeld ?rr97
            case hy97 => (intro w' hSw; obtain ⟨g0, g1⟩ := HSt.out _ hSw; go_simp; try with_reducible rfl)
            try simp only [Act.put, List.setIfInBounds_toArray, List.set_cons_zero, List.set_cons_succ, List.getElem_toArray, List.getElem_cons_succ, List.getElem_cons_zero]
            refine wpAnyZ_take (i := 3) (v := ?vv98) rfl (by kernel_rfl) (by kernel_rfl) (by kernel_rfl) (fun _ _ _ h => h) (Or.inl ⟨by rfl, ?hy98⟩) hHeld ?rr98
            case hy98 => (intro w' hSw; obtain ⟨g0, g1⟩ := HSt.out _ hSw; go_simp; try with_reducible rfl)
            try simp only [Act.put, List.setIfInBounds_toArray, List.set_cons_zero, List.set_cons_succ, List.getElem_toArray, List.getElem_cons_succ, List.getElem_cons_zero]
            refine wpAnyZ_take (i := 4) (v := ?vv99) rfl (by kernel_rfl) (by kernel_rfl) (by kernel_rfl) (fun _ _ _ h => h) (Or.inl ⟨by rfl, ?hy99⟩) hHeld ?rr99
            case hy99 => (intro w' hSw; obtain ⟨g0, g1⟩ := HSt.out _ hSw; go_simp; try with_reducible rfl)
            try simp only [Act.put, List.setIfInBounds_toArray, List.set_cons_zero, List.set_cons_succ, List.getElem_toArray, List.getElem_cons_succ, List.getElem_cons_zero]
            refine wpAnyZ_take (i := 5) (v := ?vv100) rfl (by kernel_rfl) (by kernel_rfl) (by kernel_rfl) (fun _ _ _ h => h) (Or.inl ⟨by rfl, ?hy100⟩) hHeld ?rr100
            case hy100 => (intro w' hSw; obtain ⟨g0, g1⟩ := HSt.out _ hSw; go_simp; try with_reducible rfl)
            try simp only [Act.put, List.setIfInBounds_toArray, List.set_cons_zero, List.set_cons_succ, List.getElem_toArray, List.getElem_cons_succ, List.getElem_cons_zero]
            refine wpAnyZ_take (i := 6) (v := ?vv101) rfl (by kernel_rfl) (by kernel_rfl) (by kernel_rfl) (fun _ _ _ h => h) (Or.inl ⟨by rfl, ?hy101⟩) hHeld ?rr101
            case hy101 => (intro w' hSw; obtain ⟨g0, g1⟩ := HSt.out _ hSw; go_simp; try with_reducible rfl)
            try simp only [Act.put, List.setIfInBounds_toArray, List.set_cons_zero, List.set_cons_succ, List.getElem_toArray, List.getElem_cons_succ, List.getElem_cons_zero]
            refine wpAnyZ_take (i := 7) (v := ?vv102) rfl (by kernel_rfl) (by kernel_rfl) (by kernel_rfl) (fun _ _ _ h => h) (Or.inl ⟨by rfl, ?hy102⟩) hHeld ?rr102
            case hy102 => (intro w' hSw; obtain ⟨g0, g1⟩ := HSt.out _ hSw; go_simp; try with_reducible rfl)
            try simp only [Act.put, List.setIfInBounds_toArray, List.set_cons_zero, List.set_cons_succ, List.getElem_toArray, List.getElem_cons_succ, List.getElem_cons_zero]
            refine wpAnyZ_take (i := 9) (v := ?vv103) rfl (by kernel_rfl) (by kernel_rfl) (by kernel_rfl) (fun _ _ _ h => h) (Or.inl ⟨by rfl, ?hy103⟩) hHeld ?rr103
            case hy103 => (intro w' hSw; obtain ⟨g0, g1⟩ := HSt.out _ hSw; go_simp; try with_reducible rfl)
            try simp only [Act.put, List.setIfInBounds_toArray, List.set_cons_zero, List.set_cons_succ, List.getElem_toArray, List.getElem_cons_succ, List.getElem_cons_zero]
            refine wpAnyZ_take (i := 10) (v := ?vv104) rfl (by kernel_rfl) (by kernel_rfl) (by kernel_rfl) (fun _ _ _ h => h) (Or.inl ⟨by rfl, ?hy104⟩) hHeld ?rr104
            case hy104 => (intro w' hSw; obtain ⟨g0, g1⟩ := HSt.out _ hSw; go_simp; try with_reducible rfl)
            try simp only [Act.put, List.setIfInBounds_toArray, List.set_cons_zero, List.set_cons_succ, List.getElem_toArray, List.getElem_cons_succ, List.getElem_cons_zero]
            refine wpAnyZ_take (i := 11) (v := ?vv105) rfl (by kernel_rfl) (by kernel_rfl) (by kernel_rfl) (fun _ _ _ h => h) (Or.inl ⟨by rfl, ?hy105⟩) hHeld ?rr105
            case hy105 => (intro w' hSw; obtain ⟨g0, g1⟩ := HSt.out _ hSw; go_simp; try with_reducible rfl)
            try simp only [Act.put, List.setIfInBounds_toArray, List.set_cons_zero, List.set_cons_succ, List.getElem_toArray, List.getElem_cons_succ, List.getElem_cons_zero]
            refine wpAnyZ_take (i := 14) (v := ?vv106) rfl (by kernel_rfl) (by kernel_rfl) (by kernel_rfl) (fun _ _ _ h => h) (Or.inl ⟨by rfl, ?hy106⟩) hHeld ?rr106
            case hy106 => (intro w' hSw; obtain ⟨g0, g1⟩ := HSt.out _ hSw; go_simp; try with_reducible rfl)
            try simp only [Act.put, List.setIfInBounds_toArray, List.set_cons_zero, List.set_cons_succ, List.getElem_toArray, List.getElem_cons_succ, List.getElem_cons_zero]
            refine wpAnyZ_take (i := 15) (v := ?vv107) rfl (by kernel_rfl) (by kernel_rfl) (by kernel_rfl) (fun _ _ _ h => h) (Or.inl ⟨by rfl, ?hy107⟩) hHeld ?rr107
            case hy107 => (intro w' hSw; obtain ⟨g0, g1⟩ := HSt.out _ hSw; go_simp; try with_reducible rfl)
            try simp only [Act.put, List.setIfInBounds_toArray, List.set_cons_zero, List.set_cons_succ, List.getElem_toArray, List.getElem_cons_succ, List.getElem_cons_zero]
            refine wpAnyZ_take (i := 16) (v := ?vv108) rfl (by kernel_rfl) (by kernel_rfl) (by kernel_rfl) (fun _ _ _ h => h) (Or.inl ⟨by rfl, ?hy108⟩) hHeld ?rr108
            case hy108 => (intro w' hSw; obtain ⟨g0, g1⟩ := HSt.out _ hSw; go_simp; try with_reducible rfl)
            try simp only [Act.put, List.setIfInBounds_toArray, List.set_cons_zero, List.set_cons_succ, List.getElem_toArray, List.getElem_cons_succ, List.getElem_cons_zero]
            refine wpAnyZ_take (i := 17) (v := ?vv109) rfl (by kernel_rfl) (by kernel_rfl) (by kernel_rfl) (fun _ _ _ h => h) (Or.inl ⟨by rfl, ?hy109⟩) hHeld ?rr109
            case hy109 => (intro w' hSw; obtain ⟨g0, g1⟩ := HSt.out _ hSw; go_simp; try with_reducible rfl)
            try simp only [Act.put, List.setIfInBounds_toArray, List.set_cons_zero, List.set_cons_succ, List.getElem_toArray, List.getElem_cons_succ, List.getElem_cons_zero]
            refine wpAnyZ_take (i := 18) (v := ?vv110) rfl (by kernel_rfl) (by kernel_rfl) (by kernel_rfl) (fun _ _ _ h => h) (Or.inl ⟨by rfl, ?hy110⟩) hHeld ?rr110
            case hy110 => (intro w' hSw; obtain ⟨g0, g1⟩ := HSt.out _ hSw; go_simp; try with_reducible rfl)
            try simp only [Act.put, List.setIfInBounds_toArray, List.set_cons_zero, List.set_cons_succ, List.getElem_toArray, List.getElem_cons_succ, List.getElem_cons_zero]
            refine wpAnyZ_take (i := 19) (v := ?vv111) rfl (by kernel_rfl) (by kernel_rfl) (by kernel_rfl) (fun _ _ _ h => h) (Or.inl ⟨by rfl, ?hy111⟩) hHeld ?rr111
            case hy111 => (intro w' hSw; obtain ⟨g0, g1⟩ := HSt.out _ hSw; go_simp; try with_reducible rfl)
            try simp only [Act.put, List.setIfInBounds_toArray, List.set_cons_zero, List.set_cons_succ, List.getElem_toArray, List.getElem_cons_succ, List.getElem_cons_zero]
            refine wpAnyZ_ready (rs := [1, 12]) (by kernel_rfl) (by simp) ?_
            refine AllReadyZ.cons rfl (fun K hK => ?_) (AllReadyZ.cons rfl (fun K hK => ?_) AllReadyZ.nil)
            · try rw [if_pos (by rfl)]
              go_simp
              refine hK.out _ _ HBA.out (fun hHeld2 => ?_)
              clear hK K hHeld
              have hHeld := hHeld2
              clear hHeld2
              try simp only [Act.put, List.setIfInBounds_toArray, List.set_cons_zero, List.set_cons_succ, List.getElem_toArray, List.getElem_cons_succ, List.getElem_cons_zero]
              refine wpAnyZ_ready (rs := [8, 12]) (by kernel_rfl) (by simp) ?_
              refine AllReadyZ.cons rfl (fun K hK => ?_) (AllReadyZ.cons rfl (fun K hK => ?_) AllReadyZ.nil)
              · try rw [if_pos (by rfl)]
                refine oper_append_k _ (.tmp 51) (.tmp 57) 26 rfl 36 i0 (.agg #[.int .i64 0, .int .i64 0]) 2 16 Try.underlying26 hinfo hz0 hz1 hz2 rfl (by decide) w2.heap.size (.slice (some ⟨w2.heap.size, 0, none⟩) 0 0) 0 [] rfl HOA.out none 0 0 [] rfl rfl (fun h => absurd h (Nat.lt_irrefl _)) (by simp) (by unfold maxLen; omega) (by omega) HBA.out.size ?_
                intro A5 c5 w5 hown5 hgrow5 _
                simp only [Nat.zero_add, Nat.add_zero] at hown5 ⊢
                have HO5 : Hid (w5.ownsRow w2.heap.size 36 2 (.slice A5 0 c5) 0 (cellsT (d.take 0))) := Lib.hid (by simpa [cellsT] using hown5)
                have HB5 : Hid (Below w2.heap.size w2 w5) := Lib.hid (HBA.out.grown hgrow5 HBA.out.size (fun k e => (HOA.out.lt k e).1))
                clear hown5 hgrow5
                refine hK.out _ _ HB5.out (fun hHeld2 => ?_)
                clear hK K hHeld
                have hHeld := hHeld2
                clear hHeld2
                try simp only [Act.put, List.setIfInBounds_toArray, List.set_cons_zero, List.set_cons_succ, List.getElem_toArray, List.getElem_cons_succ, List.getElem_cons_zero]
                refine wpAnyZ_ready (rs := [12]) (by kernel_rfl) (by simp) ?_
                refine AllReadyZ.cons rfl (fun K hK => ?_) AllReadyZ.nil
                try rw [if_pos (by rfl)]
                go_simp
                have HO5a := Lib.hid (own_moved (p := fun _ => False) HO5.out (Below.movedNew (below_alloc w5 (.cells #[.int .i64 at_, .int .i64 id] 36))) (fun _ _ h => h))
                have HB5a := Lib.hid (HB5.out.alloc HB5.out.size (.cells #[.int .i64 at_, .int .i64 id] 36))
                have HT5a := Lib.hid (heap_new w5 (.cells #[.int .i64 at_, .int .i64 id] 36))
                refine hK.out _ _ HB5a.out (fun hHeld2 => ?_)
                clear hK K hHeld
                have hHeld := hHeld2
                clear hHeld2
                try simp only [Act.put, List.setIfInBounds_toArray, List.set_cons_zero, List.set_cons_succ, List.getElem_toArray, List.getElem_cons_succ, List.getElem_cons_zero]
                refine wpAnyZ_ready (rs := [13]) (by kernel_rfl) (by simp) ?_
                refine AllReadyZ.cons rfl (fun K hK => ?_) AllReadyZ.nil
                try rw [if_pos (by rfl)]
                refine oper_append_k _ (.tmp 58) (.tmp 62) 26 rfl 36 i0 (.agg #[.int .i64 0, .int .i64 0]) 2 16 Try.underlying26 hinfo hz0 hz1 hz2 rfl (by decide) w2.heap.size (.slice A5 0 c5) 0 (cellsT (d.take 0)) rfl HO5a.out (some ⟨w5.heap.size, 0, none⟩) 1 1 [.int .i64 at_, .int .i64 id] rfl rfl (fun _ => ⟨_, rfl, cells_add HT5a.out⟩) (fun u hu => by simp at hu; rcases hu with rfl | rfl <;> rfl) (by unfold maxLen; omega) (by omega) HB5a.out.size ?_
                intro A6 c6 w6 hown6 hgrow6 _
                try simp only [Nat.zero_add, Nat.add_zero] at hown6 ⊢
                have HO6 := Lib.hid hown6
                have HB6 : Hid (Below w2.heap.size w2 w6) := Lib.hid (HB5a.out.grown hgrow6 HB5a.out.size (fun k e => (HO5a.out.lt k e).1))
                clear hown6 hgrow6
                refine hK.out _ _ HB6.out (fun hHeld2 => ?_)
                clear hK K hHeld
                have hHeld := hHeld2
                clear hHeld2
                try simp only [Act.put, List.setIfInBounds_toArray, List.set_cons_zero, List.set_cons_succ, List.getElem_toArray, List.getElem_cons_succ, List.getElem_cons_zero]
                refine wpAnyZ_ready (rs := [20]) (by kernel_rfl) (by simp) ?_
                refine AllReadyZ.cons rfl (fun K hK => ?_) AllReadyZ.nil
                try rw [if_pos (by rfl)]
                refine oper_append_k _ (.tmp 63) (.tmp 69) 26 rfl 36 i0 (.agg #[.int .i64 0, .int .i64 0]) 2 16 Try.underlying26 hinfo hz0 hz1 hz2 rfl (by decide) w2.heap.size (.slice A6 1 c6) 1 _ rfl HO6.out none 0 0 [] rfl rfl (fun h => absurd h (Nat.lt_irrefl _)) (by simp) (by unfold maxLen; omega) (by omega) HB6.out.size ?_
                intro A7 c7 w7 hown7 hgrow7 _
                try simp only [Nat.zero_add, Nat.add_zero] at hown7 ⊢
                have HO7 := Lib.hid hown7
                have HB7 : Hid (Below w2.heap.size w2 w7) := Lib.hid (HB6.out.grown hgrow7 HB6.out.size (fun k e => (HO6.out.lt k e).1))
                clear hown7 hgrow7
                obtain ⟨b0, b1⟩ := HSt.out _ HB7.out
                refine hK.out _ _ HB7.out (fun hHeld2 => ?_)
                clear hK K hHeld
                have hHeld := hHeld2
                clear hHeld2
                try simp only [Act.put, List.setIfInBounds_toArray, List.set_cons_zero, List.set_cons_succ, List.getElem_toArray, List.getElem_cons_succ, List.getElem_cons_zero]
                refine wpAnyZ_ready (rs := [21]) (by kernel_rfl) (by simp) ?_
                refine AllReadyZ.cons rfl (fun K hK => ?_) AllReadyZ.nil
                try rw [if_pos (by rfl)]
                go_simp
                refine hK.out _ _ HB7.out (fun hHeld2 => ?_)
                clear hK K hHeld
                have hHeld := hHeld2
                clear hHeld2
                try simp only [Act.put, List.setIfInBounds_toArray, List.set_cons_zero, List.set_cons_succ, List.getElem_toArray, List.getElem_cons_succ, List.getElem_cons_zero]
                refine wpAnyZ_take (i := 22) (v := ?vv112) rfl (by kernel_rfl) (by kernel_rfl) (by kernel_rfl) (fun _ _ _ h => h) (Or.inl ⟨by rfl, ?hy112⟩) hHeld ?rr112
                case hy112 => (intro w' hSw; obtain ⟨g0, g1⟩ := HSt.out _ hSw; go_simp; try with_reducible rfl)
                try simp only [Act.put, List.setIfInBounds_toArray, List.set_cons_zero, List.set_cons_succ, List.getElem_toArray, List.getElem_cons_succ, List.getElem_cons_zero]
                refine wpAnyZ_ready (rs := [23]) (by kernel_rfl) (by simp) ?_
                refine AllReadyZ.last rfl (fun K hK => ?_)
                try rw [if_pos (by rfl)]
                go_simp
                refine hK.out _ _ ?_
                clear hK K hHeld
                try simp only [Act.put, List.setIfInBounds_toArray, List.set_cons_zero, List.set_cons_succ, List.getElem_toArray, List.getElem_cons_succ, List.getElem_cons_zero]
                refine wpAnyZ_done (by kernel_rfl) ?_ _
                have hln : (insP d (at_, id)).length = 1 := by rw [insP_len]; have := HM.out; omega
                have HE : Hid (RefQ (w7.setCell ⟨x, 0, none⟩ (.slice A7 (1) c7)) (fun k => F2 k ∨ w2.heap.size ≤ k) x (insP d (at_, id)) ∧ Moved F2 w2 (w7.setCell ⟨x, 0, none⟩ (.slice A7 (1) c7))) := Lib.hid (by
                  have := ref_end (l' := insP d (at_, id)) (A5 := A7) (c5 := c7) Q1.out Q3.out HB7.out (by rw [hln, HD.out, cellsT_app, cellsT_app]; rw [List.drop_of_length_le (i := 0) (l := d) (by have := HM.out; omega)]; simpa [cellsT] using HO7.out) (by rw [hln]; omega)
                  rw [hln] at this; exact this)
                clear hln
                go_wp2
                go_ret
                exact HF.out _ HE.out
              · try rw [if_pos (by rfl)]
                go_simp
                refine hK.out _ _ HBB.out (fun hHeld2 => ?_)
                clear hK K hHeld
                have hHeld := hHeld2
                clear hHeld2
                try simp only [Act.put, List.setIfInBounds_toArray, List.set_cons_zero, List.set_cons_succ, List.getElem_toArray, List.getElem_cons_succ, List.getElem_cons_zero]
                refine wpAnyZ_ready (rs := [8]) (by kernel_rfl) (by simp) ?_
                refine AllReadyZ.cons rfl (fun K hK => ?_) AllReadyZ.nil
                try rw [if_pos (by rfl)]
                refine oper_append_k _ (.tmp 51) (.tmp 57) 26 rfl 36 i0 (.agg #[.int .i64 0, .int .i64 0]) 2 16 Try.underlying26 hinfo hz0 hz1 hz2 rfl (by decide) w2.heap.size (.slice (some ⟨w2.heap.size, 0, none⟩) 0 0) 0 [] rfl HOB.out none 0 0 [] rfl rfl (fun h => absurd h (Nat.lt_irrefl _)) (by simp) (by unfold maxLen; omega) (by omega) HBB.out.size ?_
                intro A5 c5 w5 hown5 hgrow5 _
                simp only [Nat.zero_add, Nat.add_zero] at hown5 ⊢
                have HO5 : Hid (w5.ownsRow w2.heap.size 36 2 (.slice A5 0 c5) 0 (cellsT (d.take 0))) := Lib.hid (by simpa [cellsT] using hown5)
                have HB5 : Hid (Below w2.heap.size w2 w5) := Lib.hid (HBB.out.grown hgrow5 HBB.out.size (fun k e => (HOB.out.lt k e).1))
                have HT5 := Lib.hid ((hgrow5.block (w2.heap.size + 1) (heap_lt HTB.out) (fun e => by have e : w2.heap.size + 1 = w2.heap.size := Option.some.inj e; omega)).trans HTB.out)
                clear hown5 hgrow5
                refine hK.out _ _ HB5.out (fun hHeld2 => ?_)
                clear hK K hHeld
                have hHeld := hHeld2
                clear hHeld2
                try simp only [Act.put, List.setIfInBounds_toArray, List.set_cons_zero, List.set_cons_succ, List.getElem_toArray, List.getElem_cons_succ, List.getElem_cons_zero]
                refine wpAnyZ_ready (rs := [13]) (by kernel_rfl) (by simp) ?_
                refine AllReadyZ.cons rfl (fun K hK => ?_) AllReadyZ.nil
                try rw [if_pos (by rfl)]
                refine oper_append_k _ (.tmp 58) (.tmp 62) 26 rfl 36 i0 (.agg #[.int .i64 0, .int .i64 0]) 2 16 Try.underlying26 hinfo hz0 hz1 hz2 rfl (by decide) w2.heap.size (.slice A5 0 c5) 0 (cellsT (d.take 0)) rfl HO5.out (some ⟨w2.heap.size + 1, 0, none⟩) 1 1 [.int .i64 at_, .int .i64 id] rfl rfl (fun _ => ⟨_, rfl, cells_add HT5.out⟩) (fun u hu => by simp at hu; rcases hu with rfl | rfl <;> rfl) (by unfold maxLen; omega) (by omega) HB5.out.size ?_
                intro A6 c6 w6 hown6 hgrow6 _
                try simp only [Nat.zero_add, Nat.add_zero] at hown6 ⊢
                have HO6 := Lib.hid hown6
                have HB6 : Hid (Below w2.heap.size w2 w6) := Lib.hid (HB5.out.grown hgrow6 HB5.out.size (fun k e => (HO5.out.lt k e).1))
                clear hown6 hgrow6
                refine hK.out _ _ HB6.out (fun hHeld2 => ?_)
                clear hK K hHeld
                have hHeld := hHeld2
                clear hHeld2
                try simp only [Act.put, List.setIfInBounds_toArray, List.set_cons_zero, List.set_cons_succ, List.getElem_toArray, List.getElem_cons_succ, List.getElem_cons_zero]
                refine wpAnyZ_ready (rs := [20]) (by kernel_rfl) (by simp) ?_
                refine AllReadyZ.cons rfl (fun K hK => ?_) AllReadyZ.nil
                try rw [if_pos (by rfl)]
                refine oper_append_k _ (.tmp 63) (.tmp 69) 26 rfl 36 i0 (.agg #[.int .i64 0, .int .i64 0]) 2 16 Try.underlying26 hinfo hz0 hz1 hz2 rfl (by decide) w2.heap.size (.slice A6 1 c6) 1 _ rfl HO6.out none 0 0 [] rfl rfl (fun h => absurd h (Nat.lt_irrefl _)) (by simp) (by unfold maxLen; omega) (by omega) HB6.out.size ?_
                intro A7 c7 w7 hown7 hgrow7 _
                try simp only [Nat.zero_add, Nat.add_zero] at hown7 ⊢
                have HO7 := Lib.hid hown7
                have HB7 : Hid (Below w2.heap.size w2 w7) := Lib.hid (HB6.out.grown hgrow7 HB6.out.size (fun k e => (HO6.out.lt k e).1))
                clear hown7 hgrow7
                obtain ⟨b0, b1⟩ := HSt.out _ HB7.out
                refine hK.out _ _ HB7.out (fun hHeld2 => ?_)
                clear hK K hHeld
                have hHeld := hHeld2
                clear hHeld2
                try simp only [Act.put, List.setIfInBounds_toArray, List.set_cons_zero, List.set_cons_succ, List.getElem_toArray, List.getElem_cons_succ, List.getElem_cons_zero]
                refine wpAnyZ_ready (rs := [21]) (by kernel_rfl) (by simp) ?_
                refine AllReadyZ.cons rfl (fun K hK => ?_) AllReadyZ.nil
                try rw [if_pos (by rfl)]
                go_simp
                refine hK.out _ _ HB7.out (fun hHeld2 => ?_)
                clear hK K hHeld
                have hHeld := hHeld2
                clear hHeld2
                try simp only [Act.put, List.setIfInBounds_toArray, List.set_cons_zero, List.set_cons_succ, List.getElem_toArray, List.getElem_cons_succ, List.getElem_cons_zero]
                refine wpAnyZ_take (i := 22) (v := ?vv113) rfl (by kernel_rfl) (by kernel_rfl) (by kernel_rfl) (fun _ _ _ h => h) (Or.inl ⟨by rfl, ?hy113⟩) hHeld ?rr113
                case hy113 => (intro w' hSw; obtain ⟨g0, g1⟩ := HSt.out _ hSw; go_simp; try with_reducible rfl)
                try simp only [Act.put, List.setIfInBounds_toArray, List.set_cons_zero, List.set_cons_succ, List.getElem_toArray, List.getElem_cons_succ, List.getElem_cons_zero]
                refine wpAnyZ_ready (rs := [23]) (by kernel_rfl) (by simp) ?_
                refine AllReadyZ.last rfl (fun K hK => ?_)
                try rw [if_pos (by rfl)]
                go_simp
                refine hK.out _ _ ?_
                clear hK K hHeld
                try simp only [Act.put, List.setIfInBounds_toArray, List.set_cons_zero, List.set_cons_succ, List.getElem_toArray, List.getElem_cons_succ, List.getElem_cons_zero]
                refine wpAnyZ_done (by kernel_rfl) ?_ _
                have hln : (insP d (at_, id)).length = 1 := by rw [insP_len]; have := HM.out; omega
                have HE : Hid (RefQ (w7.setCell ⟨x, 0, none⟩ (.slice A7 (1) c7)) (fun k => F2 k ∨ w2.heap.size ≤ k) x (insP d (at_, id)) ∧ Moved F2 w2 (w7.setCell ⟨x, 0, none⟩ (.slice A7 (1) c7))) := Lib.hid (by
                  have := ref_end (l' := insP d (at_, id)) (A5 := A7) (c5 := c7) Q1.out Q3.out HB7.out (by rw [hln, HD.out, cellsT_app, cellsT_app]; rw [List.drop_of_length_le (i := 0) (l := d) (by have := HM.out; omega)]; simpa [cellsT] using HO7.out) (by rw [hln]; omega)
                  rw [hln] at this; exact this)
                clear hln
                go_wp2
                go_ret
                exact HF.out _ HE.out
            · try rw [if_pos (by rfl)]
              go_simp
              refine hK.out _ _ HBC.out (fun hHeld2 => ?_)
              clear hK K hHeld
              have hHeld := hHeld2
              clear hHeld2
              try simp only [Act.put, List.setIfInBounds_toArray, List.set_cons_zero, List.set_cons_succ, List.getElem_toArray, List.getElem_cons_succ, List.getElem_cons_zero]
              refine wpAnyZ_ready (rs := [1]) (by kernel_rfl) (by simp) ?_
              refine AllReadyZ.cons rfl (fun K hK => ?_) AllReadyZ.nil
              try rw [if_pos (by rfl)]
              go_simp
              refine hK.out _ _ HBD.out (fun hHeld2 => ?_)
              clear hK K hHeld
              have hHeld := hHeld2
              clear hHeld2
              try simp only [Act.put, List.setIfInBounds_toArray, List.set_cons_zero, List.set_cons_succ, List.getElem_toArray, List.getElem_cons_succ, List.getElem_cons_zero]
              refine wpAnyZ_ready (rs := [8]) (by kernel_rfl) (by simp) ?_
              refine AllReadyZ.cons rfl (fun K hK => ?_) AllReadyZ.nil
              try rw [if_pos (by rfl)]
              refine oper_append_k _ (.tmp 51) (.tmp 57) 26 rfl 36 i0 (.agg #[.int .i64 0, .int .i64 0]) 2 16 Try.underlying26 hinfo hz0 hz1 hz2 rfl (by decide) w2.heap.size (.slice (some ⟨w2.heap.size + 1, 0, none⟩) 0 0) 0 [] rfl HOD.out none 0 0 [] rfl rfl (fun h => absurd h (Nat.lt_irrefl _)) (by simp) (by unfold maxLen; omega) (by omega) HBD.out.size ?_
              intro A5 c5 w5 hown5 hgrow5 _
              simp only [Nat.zero_add, Nat.add_zero] at hown5 ⊢
              have HO5 : Hid (w5.ownsRow w2.heap.size 36 2 (.slice A5 0 c5) 0 (cellsT (d.take 0))) := Lib.hid (by simpa [cellsT] using hown5)
              have HB5 : Hid (Below w2.heap.size w2 w5) := Lib.hid (HBD.out.grown hgrow5 HBD.out.size (fun k e => (HOD.out.lt k e).1))
              have HT5 := Lib.hid ((hgrow5.block w2.heap.size (heap_lt HTD.out) (fun e => by have e : w2.heap.size = w2.heap.size + 1 := Option.some.inj e; omega)).trans HTD.out)
              clear hown5 hgrow5
              refine hK.out _ _ HB5.out (fun hHeld2 => ?_)
              clear hK K hHeld
              have hHeld := hHeld2
              clear hHeld2
              try simp only [Act.put, List.setIfInBounds_toArray, List.set_cons_zero, List.set_cons_succ, List.getElem_toArray, List.getElem_cons_succ, List.getElem_cons_zero]
              refine wpAnyZ_ready (rs := [13]) (by kernel_rfl) (by simp) ?_
              refine AllReadyZ.cons rfl (fun K hK => ?_) AllReadyZ.nil
              try rw [if_pos (by rfl)]
              refine oper_append_k _ (.tmp 58) (.tmp 62) 26 rfl 36 i0 (.agg #[.int .i64 0, .int .i64 0]) 2 16 Try.underlying26 hinfo hz0 hz1 hz2 rfl (by decide) w2.heap.size (.slice A5 0 c5) 0 (cellsT (d.take 0)) rfl HO5.out (some ⟨w2.heap.size, 0, none⟩) 1 1 [.int .i64 at_, .int .i64 id] rfl rfl (fun _ => ⟨_, rfl, cells_add HT5.out⟩) (fun u hu => by simp at hu; rcases hu with rfl | rfl <;> rfl) (by unfold maxLen; omega) (by omega) HB5.out.size ?_
              intro A6 c6 w6 hown6 hgrow6 _
              try simp only [Nat.zero_add, Nat.add_zero] at hown6 ⊢
              have HO6 := Lib.hid hown6
              have HB6 : Hid (Below w2.heap.size w2 w6) := Lib.hid (HB5.out.grown hgrow6 HB5.out.size (fun k e => (HO5.out.lt k e).1))
              clear hown6 hgrow6
              refine hK.out _ _ HB6.out (fun hHeld2 => ?_)
              clear hK K hHeld
              have hHeld := hHeld2
              clear hHeld2
              try simp only [Act.put, List.setIfInBounds_toArray, List.set_cons_zero, List.set_cons_succ, List.getElem_toArray, List.getElem_cons_succ, List.getElem_cons_zero]
              refine wpAnyZ_ready (rs := [20]) (by kernel_rfl) (by simp) ?_
              refine AllReadyZ.cons rfl (fun K hK => ?_) AllReadyZ.nil
              try rw [if_pos (by rfl)]
              refine oper_append_k _ (.tmp 63) (.tmp 69) 26 rfl 36 i0 (.agg #[.int .i64 0, .int .i64 0]) 2 16 Try.underlying26 hinfo hz0 hz1 hz2 rfl (by decide) w2.heap.size (.slice A6 1 c6) 1 _ rfl HO6.out none 0 0 [] rfl rfl (fun h => absurd h (Nat.lt_irrefl _)) (by simp) (by unfold maxLen; omega) (by omega) HB6.out.size ?_
              intro A7 c7 w7 hown7 hgrow7 _
              try simp only [Nat.zero_add, Nat.add_zero] at hown7 ⊢
              have HO7 := Lib.hid hown7
              have HB7 : Hid (Below w2.heap.size w2 w7) := Lib.hid (HB6.out.grown hgrow7 HB6.out.size (fun k e => (HO6.out.lt k e).1))
              clear hown7 hgrow7
              obtain ⟨b0, b1⟩ := HSt.out _ HB7.out
              refine hK.out _ _ HB7.out (fun hHeld2 => ?_)
              clear hK K hHeld
              have hHeld := hHeld2
              clear hHeld2
              try simp only [Act.put, List.setIfInBounds_toArray, List.set_cons_zero, List.set_cons_succ, List.getElem_toArray, List.getElem_cons_succ, List.getElem_cons_zero]
              refine wpAnyZ_ready (rs := [21]) (by kernel_rfl) (by simp) ?_
              refine AllReadyZ.cons rfl (fun K hK => ?_) AllReadyZ.nil
              try rw [if_pos (by rfl)]
              go_simp
              refine hK.out _ _ HB7.out (fun hHeld2 => ?_)
              clear hK K hHeld
              have hHeld := hHeld2
              clear hHeld2
              try simp only [Act.put, List.setIfInBounds_toArray, List.set_cons_zero, List.set_cons_succ, List.getElem_toArray, List.getElem_cons_succ, List.getElem_cons_zero]
              refine wpAnyZ_take (i := 22) (v := ?vv114) rfl (by kernel_rfl) (by kernel_rfl) (by kernel_rfl) (fun _ _ _ h => h) (Or.inl ⟨by rfl, ?hy114⟩) hHeld ?rr114
              case hy114 => (intro w' hSw; obtain ⟨g0, g1⟩ := HSt.out _ hSw; go_simp; try with_reducible rfl)
              try simp only [Act.put, List.setIfInBounds_toArray, List.set_cons_zero, List.set_cons_succ, List.getElem_toArray, List.getElem_cons_succ, List.getElem_cons_zero]
              refine wpAnyZ_ready (rs := [23]) (by kernel_rfl) (by simp) ?_
              refine AllReadyZ.last rfl (fun K hK => ?_)
              try rw [if_pos (by rfl)]
              go_simp
              refine hK.out _ _ ?_
              clear hK K hHeld
              try simp only [Act.put, List.setIfInBounds_toArray, List.set_cons_zero, List.set_cons_succ, List.getElem_toArray, List.getElem_cons_succ, List.getElem_cons_zero]
              refine wpAnyZ_done (by kernel_rfl) ?_ _
              have hln : (insP d (at_, id)).length = 1 := by rw [insP_len]; have := HM.out; omega
              have HE : Hid (RefQ (w7.setCell ⟨x, 0, none⟩ (.slice A7 (1) c7)) (fun k => F2 k ∨ w2.heap.size ≤ k) x (insP d (at_, id)) ∧ Moved F2 w2 (w7.setCell ⟨x, 0, none⟩ (.slice A7 (1) c7))) := Lib.hid (by
                have := ref_end (l' := insP d (at_, id)) (A5 := A7) (c5 := c7) Q1.out Q3.out HB7.out (by rw [hln, HD.out, cellsT_app, cellsT_app]; rw [List.drop_of_length_le (i := 0) (l := d) (by have := HM.out; omega)]; simpa [cellsT] using HO7.out) (by rw [hln]; omega)
                rw [hln] at this; exact this)
              clear hln
              go_wp2
              go_ret
              exact HF.out _ HE.out
          | some ga =>
            obtain ⟨g, rfl⟩ := hA1 ga rfl
            clear hA0 hA1
            subst hkm0
            by_cases hck : c2 = k
            · subst hck
              obtain ⟨k, hkk⟩ : ∃ k, k = c2 := ⟨_, rfl⟩
              subst hkk
              have HS1 : Hid (∀ V, Below w2.heap.size w2 V → 0 < k → ∃ ad, (some ⟨g, 0, none⟩ : Option Addr) = some ad ∧ ∀ j u, (cellsT (d.take k))[j]? = some u → V.cell? (ad.add j) = some u) := Lib.hid (fun V hV h0 => by
                obtain ⟨g', eg, hs⟩ := ref_src (lo := 0) (hi := k) (own_moved (p := fun _ => False) Q2.out (Below.movedNew hV) (fun _ _ h => h)) (by have := HM.out; omega) (by omega) (by omega)
                injection eg with eg; injection eg with eg; subst eg
                exact ⟨_, rfl, by simpa using hs⟩)
              have HL1 : Hid ((cellsT (d.take k)).length = k * 2) := Lib.hid (by rw [cellsT_len, List.length_take, Nat.min_eq_left (by have := HM.out; omega)])
              have hkz : (0 : Int) ≤ (k : Int) := by omega
              have hkb : (k : Int) ≤ 65536 := by omega
              have HSt : Hid (∀ V, Below w2.heap.size w2 V → V.cell? ⟨x, 0, none⟩ = some (.slice (some ⟨g, 0, none⟩) k k) ∧ V.frozen? ⟨x, 0, none⟩ = false) := Lib.hid (fun V hV => ⟨cell_later hV c1, by rw [hV.frozen (p := ⟨x, 0, none⟩) hx]; exact hfz⟩)
              go_wp2_with fail
              have HBA : Hid (Below w2.heap.size w2 (w2.alloc (.cells #[] 36)).drew) := Lib.hid (below_alloc _ _).drew
              have HBB : Hid (Below w2.heap.size w2 ((w2.alloc (.cells #[] 36)).alloc (.cells #[.int .i64 at_, .int .i64 id] 36)).drew) := Lib.hid (((below_alloc _ _).alloc (by simp) _).drew)
              have HBC : Hid (Below w2.heap.size w2 (w2.alloc (.cells #[.int .i64 at_, .int .i64 id] 36)).drew) := Lib.hid (below_alloc _ _).drew
              have HBD : Hid (Below w2.heap.size w2 ((w2.alloc (.cells #[.int .i64 at_, .int .i64 id] 36)).alloc (.cells #[] 36)).drew) := Lib.hid (((below_alloc _ _).alloc (by simp) _).drew)
              have HOA : Hid (((w2.alloc (.cells #[] 36)).drew).ownsRow w2.heap.size 36 2 (.slice (some ⟨w2.heap.size, 0, none⟩) 0 0) 0 []) := Lib.hid (World.ownsRow_made w2 #[] 0 (Nat.le_refl _) (Nat.zero_le _) rfl)
              have HOB : Hid ((((w2.alloc (.cells #[] 36)).alloc (.cells #[.int .i64 at_, .int .i64 id] 36)).drew).ownsRow w2.heap.size 36 2 (.slice (some ⟨w2.heap.size, 0, none⟩) 0 0) 0 []) := Lib.hid (own_moved (p := fun _ => False) HOA.out (Below.movedNew (below_alloc _ _)) (fun _ _ h => h))
              have hod : ((w2.alloc (.cells #[.int .i64 at_, .int .i64 id] 36)).alloc (.cells #[] 36)).ownsRow w2.heap.size 36 2 (.slice (some ⟨w2.heap.size + 1, 0, none⟩) 0 0) 0 [] := by have h9 := World.ownsRow_made (base := w2.heap.size) (w2.alloc (.cells #[.int .i64 at_, .int .i64 id] 36)) #[] 0 (by simp) (Nat.zero_le _) rfl (e := 36) (size := 2); simpa using h9
              have HOD : Hid ((((w2.alloc (.cells #[.int .i64 at_, .int .i64 id] 36)).alloc (.cells #[] 36)).drew).ownsRow w2.heap.size 36 2 (.slice (some ⟨w2.heap.size + 1, 0, none⟩) 0 0) 0 []) := Lib.hid hod
              clear hod
              have htb : ((w2.alloc (.cells #[] 36)).alloc (.cells #[.int .i64 at_, .int .i64 id] 36)).heap[w2.heap.size + 1]? = some (.cells #[.int .i64 at_, .int .i64 id] 36 (0, 0)) := by have h9 := heap_new (w2.alloc (.cells #[] 36)) (.cells #[.int .i64 at_, .int .i64 id] 36); rw [show (w2.alloc (.cells #[] 36)).heap.size = w2.heap.size + 1 from by simp] at h9; exact h9
              have HTB : Hid ((((w2.alloc (.cells #[] 36)).alloc (.cells #[.int .i64 at_, .int .i64 id] 36)).drew).heap[w2.heap.size + 1]? = some (.cells #[.int .i64 at_, .int .i64 id] 36 (0, 0))) := Lib.hid htb
              clear htb
              have HTD : Hid ((((w2.alloc (.cells #[.int .i64 at_, .int .i64 id] 36)).alloc (.cells #[] 36)).drew).heap[w2.heap.size]? = some (.cells #[.int .i64 at_, .int .i64 id] 36 (0, 0))) := Lib.hid (((below_alloc (w2.alloc (.cells #[.int .i64 at_, .int .i64 id] 36)) (.cells #[] 36)).block _ (by simp)).trans (heap_new w2 (.cells #[.int .i64 at_, .int .i64 id] 36)))
              refine wp_region_heldz_drew (S := (fun w' => Below w2.heap.size w2 w')) 23 (by kernel_rfl) (Below.refl _ _).drew (fun hHeld => ?_)
              refine wpAnyZ_take (i := 0) (v := ?vv115) rfl (by kernel_rfl) (by kernel_rfl) (by kernel_rfl) (fun _ _ _ h => h) (Or.inl ⟨by rfl, ?hy115⟩) hHeld ?rr115
              case hy115 => (intro w' hSw; obtain ⟨g0, g1⟩ := HSt.out _ hSw; go_simp; try with_reducible rfl)
              try simp only [Act.put, List.setIfInBounds_toArray, List.set_cons_zero, List.set_cons_succ, List.getElem_toArray, List.getElem_cons_succ, List.getElem_cons_zero]
              refine wpAnyZ_take (i := 2) (v := ?vv116) rfl (by kernel_rfl) (by kernel_rfl) (by kernel_rfl) (fun _ _ _ h => h) (Or.inl ⟨by rfl, ?hy116⟩) hHeld ?rr116
              case hy116 => (intro w' hSw; obtain ⟨g0, g1⟩ := HSt.out _ hSw; go_simp; try with_reducible rfl)
              try simp only [Act.put, List.setIfInBounds_toArray, List.set_cons_zero, List.set_cons_succ, List.getElem_toArray, List.getElem_cons_succ, List.getElem_cons_zero]
              refine wpAnyZ_take (i := 3) (v := ?vv117) rfl (by kernel_rfl) (by kernel_rfl) (by kernel_rfl) (fun _ _ _ h => h) (Or.inl ⟨by rfl, ?hy117⟩) hHeld ?rr117
              case hy117 => (intro w' hSw; obtain ⟨g0, g1⟩ := HSt.out _ hSw; go_simp; try with_reducible rfl)
              try simp only [Act.put, List.setIfInBounds_toArray, List.set_cons_zero, List.set_cons_succ, List.getElem_toArray, List.getElem_cons_succ, List.getElem_cons_zero]
              refine wpAnyZ_take (i := 4) (v := ?vv118) rfl (by kernel_rfl) (by kernel_rfl) (by kernel_rfl) (fun _ _ _ h => h) (Or.inl ⟨by rfl, ?hy118⟩) hHeld ?rr118
              case hy118 => (intro w' hSw; obtain ⟨g0, g1⟩ := HSt.out _ hSw; go_simp; try with_reducible rfl)
              try simp only [Act.put, List.setIfInBounds_toArray, List.set_cons_zero, List.set_cons_succ, List.getElem_toArray, List.getElem_cons_succ, List.getElem_cons_zero]
              refine wpAnyZ_take (i := 5) (v := ?vv119) rfl (by kernel_rfl) (by kernel_rfl) (by kernel_rfl) (fun _ _ _ h => h) (Or.inl ⟨by rfl, ?hy119⟩) hHeld ?rr119
              case hy119 => (intro w' hSw; obtain ⟨g0, g1⟩ := HSt.out _ hSw; go_simp; try with_reducible rfl)
              try simp only [Act.put, List.setIfInBounds_toArray, List.set_cons_zero, List.set_cons_succ, List.getElem_toArray, List.getElem_cons_succ, List.getElem_cons_zero]
              refine wpAnyZ_take (i := 6) (v := ?vv120) rfl (by kernel_rfl) (by kernel_rfl) (by kernel_rfl) (fun _ _ _ h => h) (Or.inl ⟨by rfl, ?hy120⟩) hHeld ?rr120
              case hy120 => (intro w' hSw; obtain ⟨g0, g1⟩ := HSt.out _ hSw; go_simp; try with_reducible rfl)
              try simp only [Act.put, List.setIfInBounds_toArray, List.set_cons_zero, List.set_cons_succ, List.getElem_toArray, List.getElem_cons_succ, List.getElem_cons_zero]
              refine wpAnyZ_take (i := 7) (v := ?vv121) rfl (by kernel_rfl) (by kernel_rfl) (by kernel_rfl) (fun _ _ _ h => h) (Or.inl ⟨by rfl, ?hy121⟩) hHeld ?rr121
              case hy121 => (intro w' hSw; obtain ⟨g0, g1⟩ := HSt.out _ hSw; go_simp; try with_reducible rfl)
              try simp only [Act.put, List.setIfInBounds_toArray, List.set_cons_zero, List.set_cons_succ, List.getElem_toArray, List.getElem_cons_succ, List.getElem_cons_zero]
              refine wpAnyZ_take (i := 9) (v := ?vv122) rfl (by kernel_rfl) (by kernel_rfl) (by kernel_rfl) (fun _ _ _ h => h) (Or.inl ⟨by rfl, ?hy122⟩) hHeld ?rr122
              case hy122 => (intro w' hSw; obtain ⟨g0, g1⟩ := HSt.out _ hSw; go_simp; try with_reducible rfl)
              try simp only [Act.put, List.setIfInBounds_toArray, List.set_cons_zero, List.set_cons_succ, List.getElem_toArray, List.getElem_cons_succ, List.getElem_cons_zero]
              refine wpAnyZ_take (i := 10) (v := ?vv123) rfl (by kernel_rfl) (by kernel_rfl) (by kernel_rfl) (fun _ _ _ h => h) (Or.inl ⟨by rfl, ?hy123⟩) hHeld ?rr123
              case hy123 => (intro w' hSw; obtain ⟨g0, g1⟩ := HSt.out _ hSw; go_simp; try with_reducible rfl)
              try simp only [Act.put, List.setIfInBounds_toArray, List.set_cons_zero, List.set_cons_succ, List.getElem_toArray, List.getElem_cons_succ, List.getElem_cons_zero]
              refine wpAnyZ_take (i := 11) (v := ?vv124) rfl (by kernel_rfl) (by kernel_rfl) (by kernel_rfl) (fun _ _ _ h => h) (Or.inl ⟨by rfl, ?hy124⟩) hHeld ?rr124
              case hy124 => (intro w' hSw; obtain ⟨g0, g1⟩ := HSt.out _ hSw; go_simp; try with_reducible rfl)
              try simp only [Act.put, List.setIfInBounds_toArray, List.set_cons_zero, List.set_cons_succ, List.getElem_toArray, List.getElem_cons_succ, List.getElem_cons_zero]
              refine wpAnyZ_take (i := 14) (v := ?vv125) rfl (by kernel_rfl) (by kernel_rfl) (by kernel_rfl) (fun _ _ _ h => h) (Or.inl ⟨by rfl, ?hy125⟩) hHeld ?rr125
              case hy125 => (intro w' hSw; obtain ⟨g0, g1⟩ := HSt.out _ hSw; go_simp; try with_reducible rfl)
              try simp only [Act.put, List.setIfInBounds_toArray, List.set_cons_zero, List.set_cons_succ, List.getElem_toArray, List.getElem_cons_succ, List.getElem_cons_zero]
              refine wpAnyZ_take (i := 15) (v := ?vv126) rfl (by kernel_rfl) (by kernel_rfl) (by kernel_rfl) (fun _ _ _ h => h) (Or.inl ⟨by rfl, ?hy126⟩) hHeld ?rr126
              case hy126 => (intro w' hSw; obtain ⟨g0, g1⟩ := HSt.out _ hSw; go_simp; try with_reducible rfl)
              try simp only [Act.put, List.setIfInBounds_toArray, List.set_cons_zero, List.set_cons_succ, List.getElem_toArray, List.getElem_cons_succ, List.getElem_cons_zero]
              refine wpAnyZ_take (i := 16) (v := ?vv127) rfl (by kernel_rfl) (by kernel_rfl) (by kernel_rfl) (fun _ _ _ h => h) (Or.inl ⟨by rfl, ?hy127⟩) hHeld ?rr127
              case hy127 => (intro w' hSw; obtain ⟨g0, g1⟩ := HSt.out _ hSw; go_simp; try with_reducible rfl)
              try simp only [Act.put, List.setIfInBounds_toArray, List.set_cons_zero, List.set_cons_succ, List.getElem_toArray, List.getElem_cons_succ, List.getElem_cons_zero]
              refine wpAnyZ_take (i := 17) (v := ?vv128) rfl (by kernel_rfl) (by kernel_rfl) (by kernel_rfl) (fun _ _ _ h => h) (Or.inl ⟨by rfl, ?hy128⟩) hHeld ?rr128
              case hy128 => (intro w' hSw; obtain ⟨g0, g1⟩ := HSt.out _ hSw; go_simp; try with_reducible rfl)
              try simp only [Act.put, List.setIfInBounds_toArray, List.set_cons_zero, List.set_cons_succ, List.getElem_toArray, List.getElem_cons_succ, List.getElem_cons_zero]
              refine wpAnyZ_take (i := 18) (v := ?vv129) rfl (by kernel_rfl) (by kernel_rfl) (by kernel_rfl) (fun _ _ _ h => h) (Or.inl ⟨by rfl, ?hy129⟩) hHeld ?rr129
              case hy129 => (intro w' hSw; obtain ⟨g0, g1⟩ := HSt.out _ hSw; go_simp; try with_reducible rfl)
              try simp only [Act.put, List.setIfInBounds_toArray, List.set_cons_zero, List.set_cons_succ, List.getElem_toArray, List.getElem_cons_succ, List.getElem_cons_zero]
              refine wpAnyZ_take (i := 19) (v := ?vv130) rfl (by kernel_rfl) (by kernel_rfl) (by kernel_rfl) (fun _ _ _ h => h) (Or.inl ⟨by rfl, ?hy130⟩) hHeld ?rr130
              case hy130 => (intro w' hSw; obtain ⟨g0, g1⟩ := HSt.out _ hSw; go_simp; try with_reducible rfl)
              try simp only [Act.put, List.setIfInBounds_toArray, List.set_cons_zero, List.set_cons_succ, List.getElem_toArray, List.getElem_cons_succ, List.getElem_cons_zero]
              refine wpAnyZ_ready (rs := [1, 12]) (by kernel_rfl) (by simp) ?_
              refine AllReadyZ.cons rfl (fun K hK => ?_) (AllReadyZ.cons rfl (fun K hK => ?_) AllReadyZ.nil)
              · try rw [if_pos (by rfl)]
                go_simp
                refine hK.out _ _ HBA.out (fun hHeld2 => ?_)
                clear hK K hHeld
                have hHeld := hHeld2
                clear hHeld2
                try simp only [Act.put, List.setIfInBounds_toArray, List.set_cons_zero, List.set_cons_succ, List.getElem_toArray, List.getElem_cons_succ, List.getElem_cons_zero]
                refine wpAnyZ_ready (rs := [8, 12]) (by kernel_rfl) (by simp) ?_
                refine AllReadyZ.cons rfl (fun K hK => ?_) (AllReadyZ.cons rfl (fun K hK => ?_) AllReadyZ.nil)
                · try rw [if_pos (by rfl)]
                  refine oper_append_k _ (.tmp 51) (.tmp 57) 26 rfl 36 i0 (.agg #[.int .i64 0, .int .i64 0]) 2 16 Try.underlying26 hinfo hz0 hz1 hz2 rfl (by decide) w2.heap.size (.slice (some ⟨w2.heap.size, 0, none⟩) 0 0) 0 [] rfl HOA.out (some ⟨g, 0, none⟩) k k (cellsT (d.take k)) rfl HL1.out (HS1.out _ HBA.out) (cellsT_one _) (by unfold maxLen; omega) (by omega) HBA.out.size ?_
                  intro A5 c5 w5 hown5 hgrow5 _
                  simp only [Nat.zero_add, Nat.add_zero] at hown5 ⊢
                  have HO5 : Hid (w5.ownsRow w2.heap.size 36 2 (.slice A5 k c5) k (cellsT (d.take k))) := Lib.hid (by simpa using hown5)
                  have HB5 : Hid (Below w2.heap.size w2 w5) := Lib.hid (HBA.out.grown hgrow5 HBA.out.size (fun k e => (HOA.out.lt k e).1))
                  clear hown5 hgrow5
                  refine hK.out _ _ HB5.out (fun hHeld2 => ?_)
                  clear hK K hHeld
                  have hHeld := hHeld2
                  clear hHeld2
                  try simp only [Act.put, List.setIfInBounds_toArray, List.set_cons_zero, List.set_cons_succ, List.getElem_toArray, List.getElem_cons_succ, List.getElem_cons_zero]
                  refine wpAnyZ_ready (rs := [12]) (by kernel_rfl) (by simp) ?_
                  refine AllReadyZ.cons rfl (fun K hK => ?_) AllReadyZ.nil
                  try rw [if_pos (by rfl)]
                  go_simp
                  have HO5a := Lib.hid (own_moved (p := fun _ => False) HO5.out (Below.movedNew (below_alloc w5 (.cells #[.int .i64 at_, .int .i64 id] 36))) (fun _ _ h => h))
                  have HB5a := Lib.hid (HB5.out.alloc HB5.out.size (.cells #[.int .i64 at_, .int .i64 id] 36))
                  have HT5a := Lib.hid (heap_new w5 (.cells #[.int .i64 at_, .int .i64 id] 36))
                  refine hK.out _ _ HB5a.out (fun hHeld2 => ?_)
                  clear hK K hHeld
                  have hHeld := hHeld2
                  clear hHeld2
                  try simp only [Act.put, List.setIfInBounds_toArray, List.set_cons_zero, List.set_cons_succ, List.getElem_toArray, List.getElem_cons_succ, List.getElem_cons_zero]
                  refine wpAnyZ_ready (rs := [13]) (by kernel_rfl) (by simp) ?_
                  refine AllReadyZ.cons rfl (fun K hK => ?_) AllReadyZ.nil
                  try rw [if_pos (by rfl)]
                  refine oper_append_k _ (.tmp 58) (.tmp 62) 26 rfl 36 i0 (.agg #[.int .i64 0, .int .i64 0]) 2 16 Try.underlying26 hinfo hz0 hz1 hz2 rfl (by decide) w2.heap.size (.slice A5 k c5) k (cellsT (d.take k)) rfl HO5a.out (some ⟨w5.heap.size, 0, none⟩) 1 1 [.int .i64 at_, .int .i64 id] rfl rfl (fun _ => ⟨_, rfl, cells_add HT5a.out⟩) (fun u hu => by simp at hu; rcases hu with rfl | rfl <;> rfl) (by unfold maxLen; omega) (by omega) HB5a.out.size ?_
                  intro A6 c6 w6 hown6 hgrow6 _
                  try simp only [Nat.zero_add, Nat.add_zero] at hown6 ⊢
                  have HO6 := Lib.hid hown6
                  have HB6 : Hid (Below w2.heap.size w2 w6) := Lib.hid (HB5a.out.grown hgrow6 HB5a.out.size (fun k e => (HO5a.out.lt k e).1))
                  clear hown6 hgrow6
                  refine hK.out _ _ HB6.out (fun hHeld2 => ?_)
                  clear hK K hHeld
                  have hHeld := hHeld2
                  clear hHeld2
                  try simp only [Act.put, List.setIfInBounds_toArray, List.set_cons_zero, List.set_cons_succ, List.getElem_toArray, List.getElem_cons_succ, List.getElem_cons_zero]
                  refine wpAnyZ_ready (rs := [20]) (by kernel_rfl) (by simp) ?_
                  refine AllReadyZ.cons rfl (fun K hK => ?_) AllReadyZ.nil
                  try rw [if_pos (by rfl)]
                  refine oper_append_k _ (.tmp 63) (.tmp 69) 26 rfl 36 i0 (.agg #[.int .i64 0, .int .i64 0]) 2 16 Try.underlying26 hinfo hz0 hz1 hz2 rfl (by decide) w2.heap.size (.slice A6 (k + 1) c6) (k + 1) _ rfl HO6.out (some ⟨g, 0, none⟩) 0 0 [] rfl rfl (fun h => absurd h (Nat.lt_irrefl _)) (by simp) (by unfold maxLen; omega) (by omega) HB6.out.size ?_
                  intro A7 c7 w7 hown7 hgrow7 _
                  try simp only [Nat.zero_add, Nat.add_zero] at hown7 ⊢
                  have HO7 := Lib.hid hown7
                  have HB7 : Hid (Below w2.heap.size w2 w7) := Lib.hid (HB6.out.grown hgrow7 HB6.out.size (fun k e => (HO6.out.lt k e).1))
                  clear hown7 hgrow7
                  obtain ⟨b0, b1⟩ := HSt.out _ HB7.out
                  refine hK.out _ _ HB7.out (fun hHeld2 => ?_)
                  clear hK K hHeld
                  have hHeld := hHeld2
                  clear hHeld2
                  try simp only [Act.put, List.setIfInBounds_toArray, List.set_cons_zero, List.set_cons_succ, List.getElem_toArray, List.getElem_cons_succ, List.getElem_cons_zero]
                  refine wpAnyZ_ready (rs := [21]) (by kernel_rfl) (by simp) ?_
                  refine AllReadyZ.cons rfl (fun K hK => ?_) AllReadyZ.nil
                  try rw [if_pos (by rfl)]
                  go_simp
                  refine hK.out _ _ HB7.out (fun hHeld2 => ?_)
                  clear hK K hHeld
                  have hHeld := hHeld2
                  clear hHeld2
                  try simp only [Act.put, List.setIfInBounds_toArray, List.set_cons_zero, List.set_cons_succ, List.getElem_toArray, List.getElem_cons_succ, List.getElem_cons_zero]
                  refine wpAnyZ_take (i := 22) (v := ?vv131) rfl (by kernel_rfl) (by kernel_rfl) (by kernel_rfl) (fun _ _ _ h => h) (Or.inl ⟨by rfl, ?hy131⟩) hHeld ?rr131
                  case hy131 => (intro w' hSw; obtain ⟨g0, g1⟩ := HSt.out _ hSw; go_simp; try with_reducible rfl)
                  try simp only [Act.put, List.setIfInBounds_toArray, List.set_cons_zero, List.set_cons_succ, List.getElem_toArray, List.getElem_cons_succ, List.getElem_cons_zero]
                  refine wpAnyZ_ready (rs := [23]) (by kernel_rfl) (by simp) ?_
                  refine AllReadyZ.last rfl (fun K hK => ?_)
                  try rw [if_pos (by rfl)]
                  go_simp
                  refine hK.out _ _ ?_
                  clear hK K hHeld
                  try simp only [Act.put, List.setIfInBounds_toArray, List.set_cons_zero, List.set_cons_succ, List.getElem_toArray, List.getElem_cons_succ, List.getElem_cons_zero]
                  refine wpAnyZ_done (by kernel_rfl) ?_ _
                  have hln : (insP d (at_, id)).length = k + 1 := by rw [insP_len]; have := HM.out; omega
                  have HE : Hid (RefQ (w7.setCell ⟨x, 0, none⟩ (.slice A7 (k + 1) c7)) (fun k => F2 k ∨ w2.heap.size ≤ k) x (insP d (at_, id)) ∧ Moved F2 w2 (w7.setCell ⟨x, 0, none⟩ (.slice A7 (k + 1) c7))) := Lib.hid (by
                    have := ref_end (l' := insP d (at_, id)) (A5 := A7) (c5 := c7) Q1.out Q3.out HB7.out (by rw [hln, HD.out, cellsT_app, cellsT_app]; rw [List.drop_of_length_le (i := k) (l := d) (by have := HM.out; omega)]; simpa [cellsT] using HO7.out) (by rw [hln]; omega)
                    rw [hln] at this; exact this)
                  clear hln
                  go_wp2
                  go_ret
                  exact HF.out _ HE.out
                · try rw [if_pos (by rfl)]
                  go_simp
                  refine hK.out _ _ HBB.out (fun hHeld2 => ?_)
                  clear hK K hHeld
                  have hHeld := hHeld2
                  clear hHeld2
                  try simp only [Act.put, List.setIfInBounds_toArray, List.set_cons_zero, List.set_cons_succ, List.getElem_toArray, List.getElem_cons_succ, List.getElem_cons_zero]
                  refine wpAnyZ_ready (rs := [8]) (by kernel_rfl) (by simp) ?_
                  refine AllReadyZ.cons rfl (fun K hK => ?_) AllReadyZ.nil
                  try rw [if_pos (by rfl)]
                  refine oper_append_k _ (.tmp 51) (.tmp 57) 26 rfl 36 i0 (.agg #[.int .i64 0, .int .i64 0]) 2 16 Try.underlying26 hinfo hz0 hz1 hz2 rfl (by decide) w2.heap.size (.slice (some ⟨w2.heap.size, 0, none⟩) 0 0) 0 [] rfl HOB.out (some ⟨g, 0, none⟩) k k (cellsT (d.take k)) rfl HL1.out (HS1.out _ HBB.out) (cellsT_one _) (by unfold maxLen; omega) (by omega) HBB.out.size ?_
                  intro A5 c5 w5 hown5 hgrow5 _
                  simp only [Nat.zero_add, Nat.add_zero] at hown5 ⊢
                  have HO5 : Hid (w5.ownsRow w2.heap.size 36 2 (.slice A5 k c5) k (cellsT (d.take k))) := Lib.hid (by simpa using hown5)
                  have HB5 : Hid (Below w2.heap.size w2 w5) := Lib.hid (HBB.out.grown hgrow5 HBB.out.size (fun k e => (HOB.out.lt k e).1))
                  have HT5 := Lib.hid ((hgrow5.block (w2.heap.size + 1) (heap_lt HTB.out) (fun e => by have e : w2.heap.size + 1 = w2.heap.size := Option.some.inj e; omega)).trans HTB.out)
                  clear hown5 hgrow5
                  refine hK.out _ _ HB5.out (fun hHeld2 => ?_)
                  clear hK K hHeld
                  have hHeld := hHeld2
                  clear hHeld2
                  try simp only [Act.put, List.setIfInBounds_toArray, List.set_cons_zero, List.set_cons_succ, List.getElem_toArray, List.getElem_cons_succ, List.getElem_cons_zero]
                  refine wpAnyZ_ready (rs := [13]) (by kernel_rfl) (by simp) ?_
                  refine AllReadyZ.cons rfl (fun K hK => ?_) AllReadyZ.nil
                  try rw [if_pos (by rfl)]
                  refine oper_append_k _ (.tmp 58) (.tmp 62) 26 rfl 36 i0 (.agg #[.int .i64 0, .int .i64 0]) 2 16 Try.underlying26 hinfo hz0 hz1 hz2 rfl (by decide) w2.heap.size (.slice A5 k c5) k (cellsT (d.take k)) rfl HO5.out (some ⟨w2.heap.size + 1, 0, none⟩) 1 1 [.int .i64 at_, .int .i64 id] rfl rfl (fun _ => ⟨_, rfl, cells_add HT5.out⟩) (fun u hu => by simp at hu; rcases hu with rfl | rfl <;> rfl) (by unfold maxLen; omega) (by omega) HB5.out.size ?_
                  intro A6 c6 w6 hown6 hgrow6 _
                  try simp only [Nat.zero_add, Nat.add_zero] at hown6 ⊢
                  have HO6 := Lib.hid hown6
                  have HB6 : Hid (Below w2.heap.size w2 w6) := Lib.hid (HB5.out.grown hgrow6 HB5.out.size (fun k e => (HO5.out.lt k e).1))
                  clear hown6 hgrow6
                  refine hK.out _ _ HB6.out (fun hHeld2 => ?_)
                  clear hK K hHeld
                  have hHeld := hHeld2
                  clear hHeld2
                  try simp only [Act.put, List.setIfInBounds_toArray, List.set_cons_zero, List.set_cons_succ, List.getElem_toArray, List.getElem_cons_succ, List.getElem_cons_zero]
                  refine wpAnyZ_ready (rs := [20]) (by kernel_rfl) (by simp) ?_
                  refine AllReadyZ.cons rfl (fun K hK => ?_) AllReadyZ.nil
                  try rw [if_pos (by rfl)]
                  refine oper_append_k _ (.tmp 63) (.tmp 69) 26 rfl 36 i0 (.agg #[.int .i64 0, .int .i64 0]) 2 16 Try.underlying26 hinfo hz0 hz1 hz2 rfl (by decide) w2.heap.size (.slice A6 (k + 1) c6) (k + 1) _ rfl HO6.out (some ⟨g, 0, none⟩) 0 0 [] rfl rfl (fun h => absurd h (Nat.lt_irrefl _)) (by simp) (by unfold maxLen; omega) (by omega) HB6.out.size ?_
                  intro A7 c7 w7 hown7 hgrow7 _
                  try simp only [Nat.zero_add, Nat.add_zero] at hown7 ⊢
                  have HO7 := Lib.hid hown7
                  have HB7 : Hid (Below w2.heap.size w2 w7) := Lib.hid (HB6.out.grown hgrow7 HB6.out.size (fun k e => (HO6.out.lt k e).1))
                  clear hown7 hgrow7
                  obtain ⟨b0, b1⟩ := HSt.out _ HB7.out
                  refine hK.out _ _ HB7.out (fun hHeld2 => ?_)
                  clear hK K hHeld
                  have hHeld := hHeld2
                  clear hHeld2
                  try simp only [Act.put, List.setIfInBounds_toArray, List.set_cons_zero, List.set_cons_succ, List.getElem_toArray, List.getElem_cons_succ, List.getElem_cons_zero]
                  refine wpAnyZ_ready (rs := [21]) (by kernel_rfl) (by simp) ?_
                  refine AllReadyZ.cons rfl (fun K hK => ?_) AllReadyZ.nil
                  try rw [if_pos (by rfl)]
                  go_simp
                  refine hK.out _ _ HB7.out (fun hHeld2 => ?_)
                  clear hK K hHeld
                  have hHeld := hHeld2
                  clear hHeld2
                  try simp only [Act.put, List.setIfInBounds_toArray, List.set_cons_zero, List.set_cons_succ, List.getElem_toArray, List.getElem_cons_succ, List.getElem_cons_zero]
                  refine wpAnyZ_take (i := 22) (v := ?vv132) rfl (by kernel_rfl) (by kernel_rfl) (by kernel_rfl) (fun _ _ _ h => h) (Or.inl ⟨by rfl, ?hy132⟩) hHeld ?rr132
                  case hy132 => (intro w' hSw; obtain ⟨g0, g1⟩ := HSt.out _ hSw; go_simp; try with_reducible rfl)
                  try simp only [Act.put, List.setIfInBounds_toArray, List.set_cons_zero, List.set_cons_succ, List.getElem_toArray, List.getElem_cons_succ, List.getElem_cons_zero]
                  refine wpAnyZ_ready (rs := [23]) (by kernel_rfl) (by simp) ?_
                  refine AllReadyZ.last rfl (fun K hK => ?_)
                  try rw [if_pos (by rfl)]
                  go_simp
                  refine hK.out _ _ ?_
                  clear hK K hHeld
                  try simp only [Act.put, List.setIfInBounds_toArray, List.set_cons_zero, List.set_cons_succ, List.getElem_toArray, List.getElem_cons_succ, List.getElem_cons_zero]
                  refine wpAnyZ_done (by kernel_rfl) ?_ _
                  have hln : (insP d (at_, id)).length = k + 1 := by rw [insP_len]; have := HM.out; omega
                  have HE : Hid (RefQ (w7.setCell ⟨x, 0, none⟩ (.slice A7 (k + 1) c7)) (fun k => F2 k ∨ w2.heap.size ≤ k) x (insP d (at_, id)) ∧ Moved F2 w2 (w7.setCell ⟨x, 0, none⟩ (.slice A7 (k + 1) c7))) := Lib.hid (by
                    have := ref_end (l' := insP d (at_, id)) (A5 := A7) (c5 := c7) Q1.out Q3.out HB7.out (by rw [hln, HD.out, cellsT_app, cellsT_app]; rw [List.drop_of_length_le (i := k) (l := d) (by have := HM.out; omega)]; simpa [cellsT] using HO7.out) (by rw [hln]; omega)
                    rw [hln] at this; exact this)
                  clear hln
                  go_wp2
                  go_ret
                  exact HF.out _ HE.out
              · try rw [if_pos (by rfl)]
                go_simp
                refine hK.out _ _ HBC.out (fun hHeld2 => ?_)
                clear hK K hHeld
                have hHeld := hHeld2
                clear hHeld2
                try simp only [Act.put, List.setIfInBounds_toArray, List.set_cons_zero, List.set_cons_succ, List.getElem_toArray, List.getElem_cons_succ, List.getElem_cons_zero]
                refine wpAnyZ_ready (rs := [1]) (by kernel_rfl) (by simp) ?_
                refine AllReadyZ.cons rfl (fun K hK => ?_) AllReadyZ.nil
                try rw [if_pos (by rfl)]
                go_simp
                refine hK.out _ _ HBD.out (fun hHeld2 => ?_)
                clear hK K hHeld
                have hHeld := hHeld2
                clear hHeld2
                try simp only [Act.put, List.setIfInBounds_toArray, List.set_cons_zero, List.set_cons_succ, List.getElem_toArray, List.getElem_cons_succ, List.getElem_cons_zero]
                refine wpAnyZ_ready (rs := [8]) (by kernel_rfl) (by simp) ?_
                refine AllReadyZ.cons rfl (fun K hK => ?_) AllReadyZ.nil
                try rw [if_pos (by rfl)]
                refine oper_append_k _ (.tmp 51) (.tmp 57) 26 rfl 36 i0 (.agg #[.int .i64 0, .int .i64 0]) 2 16 Try.underlying26 hinfo hz0 hz1 hz2 rfl (by decide) w2.heap.size (.slice (some ⟨w2.heap.size + 1, 0, none⟩) 0 0) 0 [] rfl HOD.out (some ⟨g, 0, none⟩) k k (cellsT (d.take k)) rfl HL1.out (HS1.out _ HBD.out) (cellsT_one _) (by unfold maxLen; omega) (by omega) HBD.out.size ?_
                intro A5 c5 w5 hown5 hgrow5 _
                simp only [Nat.zero_add, Nat.add_zero] at hown5 ⊢
                have HO5 : Hid (w5.ownsRow w2.heap.size 36 2 (.slice A5 k c5) k (cellsT (d.take k))) := Lib.hid (by simpa using hown5)
                have HB5 : Hid (Below w2.heap.size w2 w5) := Lib.hid (HBD.out.grown hgrow5 HBD.out.size (fun k e => (HOD.out.lt k e).1))
                have HT5 := Lib.hid ((hgrow5.block w2.heap.size (heap_lt HTD.out) (fun e => by have e : w2.heap.size = w2.heap.size + 1 := Option.some.inj e; omega)).trans HTD.out)
                clear hown5 hgrow5
                refine hK.out _ _ HB5.out (fun hHeld2 => ?_)
                clear hK K hHeld
                have hHeld := hHeld2
                clear hHeld2
                try simp only [Act.put, List.setIfInBounds_toArray, List.set_cons_zero, List.set_cons_succ, List.getElem_toArray, List.getElem_cons_succ, List.getElem_cons_zero]
                refine wpAnyZ_ready (rs := [13]) (by kernel_rfl) (by simp) ?_
                refine AllReadyZ.cons rfl (fun K hK => ?_) AllReadyZ.nil
                try rw [if_pos (by rfl)]
                refine oper_append_k _ (.tmp 58) (.tmp 62) 26 rfl 36 i0 (.agg #[.int .i64 0, .int .i64 0]) 2 16 Try.underlying26 hinfo hz0 hz1 hz2 rfl (by decide) w2.heap.size (.slice A5 k c5) k (cellsT (d.take k)) rfl HO5.out (some ⟨w2.heap.size, 0, none⟩) 1 1 [.int .i64 at_, .int .i64 id] rfl rfl (fun _ => ⟨_, rfl, cells_add HT5.out⟩) (fun u hu => by simp at hu; rcases hu with rfl | rfl <;> rfl) (by unfold maxLen; omega) (by omega) HB5.out.size ?_
                intro A6 c6 w6 hown6 hgrow6 _
                try simp only [Nat.zero_add, Nat.add_zero] at hown6 ⊢
                have HO6 := Lib.hid hown6
                have HB6 : Hid (Below w2.heap.size w2 w6) := Lib.hid (HB5.out.grown hgrow6 HB5.out.size (fun k e => (HO5.out.lt k e).1))
                clear hown6 hgrow6
                refine hK.out _ _ HB6.out (fun hHeld2 => ?_)
                clear hK K hHeld
                have hHeld := hHeld2
                clear hHeld2
                try simp only [Act.put, List.setIfInBounds_toArray, List.set_cons_zero, List.set_cons_succ, List.getElem_toArray, List.getElem_cons_succ, List.getElem_cons_zero]
                refine wpAnyZ_ready (rs := [20]) (by kernel_rfl) (by simp) ?_
                refine AllReadyZ.cons rfl (fun K hK => ?_) AllReadyZ.nil
                try rw [if_pos (by rfl)]
                refine oper_append_k _ (.tmp 63) (.tmp 69) 26 rfl 36 i0 (.agg #[.int .i64 0, .int .i64 0]) 2 16 Try.underlying26 hinfo hz0 hz1 hz2 rfl (by decide) w2.heap.size (.slice A6 (k + 1) c6) (k + 1) _ rfl HO6.out (some ⟨g, 0, none⟩) 0 0 [] rfl rfl (fun h => absurd h (Nat.lt_irrefl _)) (by simp) (by unfold maxLen; omega) (by omega) HB6.out.size ?_
                intro A7 c7 w7 hown7 hgrow7 _
                try simp only [Nat.zero_add, Nat.add_zero] at hown7 ⊢
                have HO7 := Lib.hid hown7
                have HB7 : Hid (Below w2.heap.size w2 w7) := Lib.hid (HB6.out.grown hgrow7 HB6.out.size (fun k e => (HO6.out.lt k e).1))
                clear hown7 hgrow7
                obtain ⟨b0, b1⟩ := HSt.out _ HB7.out
                refine hK.out _ _ HB7.out (fun hHeld2 => ?_)
                clear hK K hHeld
                have hHeld := hHeld2
                clear hHeld2
                try simp only [Act.put, List.setIfInBounds_toArray, List.set_cons_zero, List.set_cons_succ, List.getElem_toArray, List.getElem_cons_succ, List.getElem_cons_zero]
                refine wpAnyZ_ready (rs := [21]) (by kernel_rfl) (by simp) ?_
                refine AllReadyZ.cons rfl (fun K hK => ?_) AllReadyZ.nil
                try rw [if_pos (by rfl)]
                go_simp
                refine hK.out _ _ HB7.out (fun hHeld2 => ?_)
                clear hK K hHeld
                have hHeld := hHeld2
                clear hHeld2
                try simp only [Act.put, List.setIfInBounds_toArray, List.set_cons_zero, List.set_cons_succ, List.getElem_toArray, List.getElem_cons_succ, List.getElem_cons_zero]
                refine wpAnyZ_take (i := 22) (v := ?vv133) rfl (by kernel_rfl) (by kernel_rfl) (by kernel_rfl) (fun _ _ _ h => h) (Or.inl ⟨by rfl, ?hy133⟩) hHeld ?rr133
                case hy133 => (intro w' hSw; obtain ⟨g0, g1⟩ := HSt.out _ hSw; go_simp; try with_reducible rfl)
                try simp only [Act.put, List.setIfInBounds_toArray, List.set_cons_zero, List.set_cons_succ, List.getElem_toArray, List.getElem_cons_succ, List.getElem_cons_zero]
                refine wpAnyZ_ready (rs := [23]) (by kernel_rfl) (by simp) ?_
                refine AllReadyZ.last rfl (fun K hK => ?_)
                try rw [if_pos (by rfl)]
                go_simp
                refine hK.out _ _ ?_
                clear hK K hHeld
                try simp only [Act.put, List.setIfInBounds_toArray, List.set_cons_zero, List.set_cons_succ, List.getElem_toArray, List.getElem_cons_succ, List.getElem_cons_zero]
                refine wpAnyZ_done (by kernel_rfl) ?_ _
                have hln : (insP d (at_, id)).length = k + 1 := by rw [insP_len]; have := HM.out; omega
                have HE : Hid (RefQ (w7.setCell ⟨x, 0, none⟩ (.slice A7 (k + 1) c7)) (fun k => F2 k ∨ w2.heap.size ≤ k) x (insP d (at_, id)) ∧ Moved F2 w2 (w7.setCell ⟨x, 0, none⟩ (.slice A7 (k + 1) c7))) := Lib.hid (by
                  have := ref_end (l' := insP d (at_, id)) (A5 := A7) (c5 := c7) Q1.out Q3.out HB7.out (by rw [hln, HD.out, cellsT_app, cellsT_app]; rw [List.drop_of_length_le (i := k) (l := d) (by have := HM.out; omega)]; simpa [cellsT] using HO7.out) (by rw [hln]; omega)
                  rw [hln] at this; exact this)
                clear hln
                go_wp2
                go_ret
                exact HF.out _ HE.out
            · have HS1 : Hid (∀ V, Below w2.heap.size w2 V → 0 < k → ∃ ad, (some ⟨g, 0, none⟩ : Option Addr) = some ad ∧ ∀ j u, (cellsT (d.take k))[j]? = some u → V.cell? (ad.add j) = some u) := Lib.hid (fun V hV h0 => by
                obtain ⟨g', eg, hs⟩ := ref_src (lo := 0) (hi := k) (own_moved (p := fun _ => False) Q2.out (Below.movedNew hV) (fun _ _ h => h)) (by have := HM.out; omega) (by omega) (by omega)
                injection eg with eg; injection eg with eg; subst eg
                exact ⟨_, rfl, by simpa using hs⟩)
              have HL1 : Hid ((cellsT (d.take k)).length = k * 2) := Lib.hid (by rw [cellsT_len, List.length_take, Nat.min_eq_left (by have := HM.out; omega)])
              have hkz : (0 : Int) ≤ (k : Int) := by omega
              have hkb : (k : Int) ≤ 65536 := by omega
              have hkc : k ≤ c2 := by omega
              have hkc2 : (k : Int) ≤ (c2 : Int) := by omega
              have HSt : Hid (∀ V, Below w2.heap.size w2 V → V.cell? ⟨x, 0, none⟩ = some (.slice (some ⟨g, 0, none⟩) k c2) ∧ V.frozen? ⟨x, 0, none⟩ = false) := Lib.hid (fun V hV => ⟨cell_later hV c1, by rw [hV.frozen (p := ⟨x, 0, none⟩) hx]; exact hfz⟩)
              go_wp2_with fail
              have HBA : Hid (Below w2.heap.size w2 (w2.alloc (.cells #[] 36)).drew) := Lib.hid (below_alloc _ _).drew
              have HBB : Hid (Below w2.heap.size w2 ((w2.alloc (.cells #[] 36)).alloc (.cells #[.int .i64 at_, .int .i64 id] 36)).drew) := Lib.hid (((below_alloc _ _).alloc (by simp) _).drew)
              have HBC : Hid (Below w2.heap.size w2 (w2.alloc (.cells #[.int .i64 at_, .int .i64 id] 36)).drew) := Lib.hid (below_alloc _ _).drew
              have HBD : Hid (Below w2.heap.size w2 ((w2.alloc (.cells #[.int .i64 at_, .int .i64 id] 36)).alloc (.cells #[] 36)).drew) := Lib.hid (((below_alloc _ _).alloc (by simp) _).drew)
              have HOA : Hid (((w2.alloc (.cells #[] 36)).drew).ownsRow w2.heap.size 36 2 (.slice (some ⟨w2.heap.size, 0, none⟩) 0 0) 0 []) := Lib.hid (World.ownsRow_made w2 #[] 0 (Nat.le_refl _) (Nat.zero_le _) rfl)
              have HOB : Hid ((((w2.alloc (.cells #[] 36)).alloc (.cells #[.int .i64 at_, .int .i64 id] 36)).drew).ownsRow w2.heap.size 36 2 (.slice (some ⟨w2.heap.size, 0, none⟩) 0 0) 0 []) := Lib.hid (own_moved (p := fun _ => False) HOA.out (Below.movedNew (below_alloc _ _)) (fun _ _ h => h))
              have hod : ((w2.alloc (.cells #[.int .i64 at_, .int .i64 id] 36)).alloc (.cells #[] 36)).ownsRow w2.heap.size 36 2 (.slice (some ⟨w2.heap.size + 1, 0, none⟩) 0 0) 0 [] := by have h9 := World.ownsRow_made (base := w2.heap.size) (w2.alloc (.cells #[.int .i64 at_, .int .i64 id] 36)) #[] 0 (by simp) (Nat.zero_le _) rfl (e := 36) (size := 2); simpa using h9
              have HOD : Hid ((((w2.alloc (.cells #[.int .i64 at_, .int .i64 id] 36)).alloc (.cells #[] 36)).drew).ownsRow w2.heap.size 36 2 (.slice (some ⟨w2.heap.size + 1, 0, none⟩) 0 0) 0 []) := Lib.hid hod
              clear hod
              have htb : ((w2.alloc (.cells #[] 36)).alloc (.cells #[.int .i64 at_, .int .i64 id] 36)).heap[w2.heap.size + 1]? = some (.cells #[.int .i64 at_, .int .i64 id] 36 (0, 0)) := by have h9 := heap_new (w2.alloc (.cells #[] 36)) (.cells #[.int .i64 at_, .int .i64 id] 36); rw [show (w2.alloc (.cells #[] 36)).heap.size = w2.heap.size + 1 from by simp] at h9; exact h9
              have HTB : Hid ((((w2.alloc (.cells #[] 36)).alloc (.cells #[.int .i64 at_, .int .i64 id] 36)).drew).heap[w2.heap.size + 1]? = some (.cells #[.int .i64 at_, .int .i64 id] 36 (0, 0))) := Lib.hid htb
              clear htb
              have HTD : Hid ((((w2.alloc (.cells #[.int .i64 at_, .int .i64 id] 36)).alloc (.cells #[] 36)).drew).heap[w2.heap.size]? = some (.cells #[.int .i64 at_, .int .i64 id] 36 (0, 0))) := Lib.hid (((below_alloc (w2.alloc (.cells #[.int .i64 at_, .int .i64 id] 36)) (.cells #[] 36)).block _ (by simp)).trans (heap_new w2 (.cells #[.int .i64 at_, .int .i64 id] 36)))
              refine wp_region_heldz_drew (S := (fun w' => Below w2.heap.size w2 w')) 23 (by kernel_rfl) (Below.refl _ _).drew (fun hHeld => ?_)
              refine wpAnyZ_take (i := 0) (v := ?vv134) rfl (by kernel_rfl) (by kernel_rfl) (by kernel_rfl) (fun _ _ _ h => h) (Or.inl ⟨by rfl, ?hy134⟩) hHeld ?rr134
              case hy134 => (intro w' hSw; obtain ⟨g0, g1⟩ := HSt.out _ hSw; go_simp; try with_reducible rfl)
              try simp only [Act.put, List.setIfInBounds_toArray, List.set_cons_zero, List.set_cons_succ, List.getElem_toArray, List.getElem_cons_succ, List.getElem_cons_zero]
              refine wpAnyZ_take (i := 2) (v := ?vv135) rfl (by kernel_rfl) (by kernel_rfl) (by kernel_rfl) (fun _ _ _ h => h) (Or.inl ⟨by rfl, ?hy135⟩) hHeld ?rr135
              case hy135 => (intro w' hSw; obtain ⟨g0, g1⟩ := HSt.out _ hSw; go_simp; try with_reducible rfl)
              try simp only [Act.put, List.setIfInBounds_toArray, List.set_cons_zero, List.set_cons_succ, List.getElem_toArray, List.getElem_cons_succ, List.getElem_cons_zero]
              refine wpAnyZ_take (i := 3) (v := ?vv136) rfl (by kernel_rfl) (by kernel_rfl) (by kernel_rfl) (fun _ _ _ h => h) (Or.inl ⟨by rfl, ?hy136⟩) hHeld ?rr136
              case hy136 => (intro w' hSw; obtain ⟨g0, g1⟩ := HSt.out _ hSw; go_simp; try with_reducible rfl)
              try simp only [Act.put, List.setIfInBounds_toArray, List.set_cons_zero, List.set_cons_succ, List.getElem_toArray, List.getElem_cons_succ, List.getElem_cons_zero]
              refine wpAnyZ_take (i := 4) (v := ?vv137) rfl (by kernel_rfl) (by kernel_rfl) (by kernel_rfl) (fun _ _ _ h => h) (Or.inl ⟨by rfl, ?hy137⟩) hHeld ?rr137
              case hy137 => (intro w' hSw; obtain ⟨g0, g1⟩ := HSt.out _ hSw; go_simp; try with_reducible rfl)
              try simp only [Act.put, List.setIfInBounds_toArray, List.set_cons_zero, List.set_cons_succ, List.getElem_toArray, List.getElem_cons_succ, List.getElem_cons_zero]
              refine wpAnyZ_take (i := 5) (v := ?vv138) rfl (by kernel_rfl) (by kernel_rfl) (by kernel_rfl) (fun _ _ _ h => h) (Or.inl ⟨by rfl, ?hy138⟩) hHeld ?rr138
              case hy138 => (intro w' hSw; obtain ⟨g0, g1⟩ := HSt.out _ hSw; go_simp; try with_reducible rfl)
              try simp only [Act.put, List.setIfInBounds_toArray, List.set_cons_zero, List.set_cons_succ, List.getElem_toArray, List.getElem_cons_succ, List.getElem_cons_zero]
              refine wpAnyZ_take (i := 6) (v := ?vv139) rfl (by kernel_rfl) (by kernel_rfl) (by kernel_rfl) (fun _ _ _ h => h) (Or.inl ⟨by rfl, ?hy139⟩) hHeld ?rr139
              case hy139 => (intro w' hSw; obtain ⟨g0, g1⟩ := HSt.out _ hSw; go_simp; try with_reducible rfl)
              try simp only [Act.put, List.setIfInBounds_toArray, List.set_cons_zero, List.set_cons_succ, List.getElem_toArray, List.getElem_cons_succ, List.getElem_cons_zero]
              refine wpAnyZ_take (i := 7) (v := ?vv140) rfl (by kernel_rfl) (by kernel_rfl) (by kernel_rfl) (fun _ _ _ h => h) (Or.inl ⟨by rfl, ?hy140⟩) hHeld ?rr140
              case hy140 => (intro w' hSw; obtain ⟨g0, g1⟩ := HSt.out _ hSw; go_simp; try with_reducible rfl)
              try simp only [Act.put, List.setIfInBounds_toArray, List.set_cons_zero, List.set_cons_succ, List.getElem_toArray, List.getElem_cons_succ, List.getElem_cons_zero]
              refine wpAnyZ_take (i := 9) (v := ?vv141) rfl (by kernel_rfl) (by kernel_rfl) (by kernel_rfl) (fun _ _ _ h => h) (Or.inl ⟨by rfl, ?hy141⟩) hHeld ?rr141
              case hy141 => (intro w' hSw; obtain ⟨g0, g1⟩ := HSt.out _ hSw; go_simp; try with_reducible rfl)
              try simp only [Act.put, List.setIfInBounds_toArray, List.set_cons_zero, List.set_cons_succ, List.getElem_toArray, List.getElem_cons_succ, List.getElem_cons_zero]
              refine wpAnyZ_take (i := 10) (v := ?vv142) rfl (by kernel_rfl) (by kernel_rfl) (by kernel_rfl) (fun _ _ _ h => h) (Or.inl ⟨by rfl, ?hy142⟩) hHeld ?rr142
              case hy142 => (intro w' hSw; obtain ⟨g0, g1⟩ := HSt.out _ hSw; go_simp; try with_reducible rfl)
              try simp only [Act.put, List.setIfInBounds_toArray, List.set_cons_zero, List.set_cons_succ, List.getElem_toArray, List.getElem_cons_succ, List.getElem_cons_zero]
              refine wpAnyZ_take (i := 11) (v := ?vv143) rfl (by kernel_rfl) (by kernel_rfl) (by kernel_rfl) (fun _ _ _ h => h) (Or.inl ⟨by rfl, ?hy143⟩) hHeld ?rr143
              case hy143 => (intro w' hSw; obtain ⟨g0, g1⟩ := HSt.out _ hSw; go_simp; try with_reducible rfl)
              try simp only [Act.put, List.setIfInBounds_toArray, List.set_cons_zero, List.set_cons_succ, List.getElem_toArray, List.getElem_cons_succ, List.getElem_cons_zero]
              refine wpAnyZ_take (i := 14) (v := ?vv144) rfl (by kernel_rfl) (by kernel_rfl) (by kernel_rfl) (fun _ _ _ h => h) (Or.inl ⟨by rfl, ?hy144⟩) hHeld ?rr144
              case hy144 => (intro w' hSw; obtain ⟨g0, g1⟩ := HSt.out _ hSw; go_simp; try with_reducible rfl)
              try simp only [Act.put, List.setIfInBounds_toArray, List.set_cons_zero, List.set_cons_succ, List.getElem_toArray, List.getElem_cons_succ, List.getElem_cons_zero]
              refine wpAnyZ_take (i := 15) (v := ?vv145) rfl (by kernel_rfl) (by kernel_rfl) (by kernel_rfl) (fun _ _ _ h => h) (Or.inl ⟨by rfl, ?hy145⟩) hHeld ?rr145
              case hy145 => (intro w' hSw; obtain ⟨g0, g1⟩ := HSt.out _ hSw; go_simp; try with_reducible rfl)
              try simp only [Act.put, List.setIfInBounds_toArray, List.set_cons_zero, List.set_cons_succ, List.getElem_toArray, List.getElem_cons_succ, List.getElem_cons_zero]
              refine wpAnyZ_take (i := 16) (v := ?vv146) rfl (by kernel_rfl) (by kernel_rfl) (by kernel_rfl) (fun _ _ _ h => h) (Or.inl ⟨by rfl, ?hy146⟩) hHeld ?rr146
              case hy146 => (intro w' hSw; obtain ⟨g0, g1⟩ := HSt.out _ hSw; go_simp; try with_reducible rfl)
              try simp only [Act.put, List.setIfInBounds_toArray, List.set_cons_zero, List.set_cons_succ, List.getElem_toArray, List.getElem_cons_succ, List.getElem_cons_zero]
              refine wpAnyZ_take (i := 17) (v := ?vv147) rfl (by kernel_rfl) (by kernel_rfl) (by kernel_rfl) (fun _ _ _ h => h) (Or.inl ⟨by rfl, ?hy147⟩) hHeld ?rr147
              case hy147 => (intro w' hSw; obtain ⟨g0, g1⟩ := HSt.out _ hSw; go_simp; try with_reducible rfl)
              try simp only [Act.put, List.setIfInBounds_toArray, List.set_cons_zero, List.set_cons_succ, List.getElem_toArray, List.getElem_cons_succ, List.getElem_cons_zero]
              refine wpAnyZ_take (i := 18) (v := ?vv148) rfl (by kernel_rfl) (by kernel_rfl) (by kernel_rfl) (fun _ _ _ h => h) (Or.inl ⟨by rfl, ?hy148⟩) hHeld ?rr148
              case hy148 => (intro w' hSw; obtain ⟨g0, g1⟩ := HSt.out _ hSw; go_simp; try with_reducible rfl)
              try simp only [Act.put, List.setIfInBounds_toArray, List.set_cons_zero, List.set_cons_succ, List.getElem_toArray, List.getElem_cons_succ, List.getElem_cons_zero]
              refine wpAnyZ_take (i := 19) (v := ?vv149) rfl (by kernel_rfl) (by kernel_rfl) (by kernel_rfl) (fun _ _ _ h => h) (Or.inl ⟨by rfl, ?hy149⟩) hHeld ?rr149
              case hy149 => (intro w' hSw; obtain ⟨g0, g1⟩ := HSt.out _ hSw; go_simp; try with_reducible rfl)
              try simp only [Act.put, List.setIfInBounds_toArray, List.set_cons_zero, List.set_cons_succ, List.getElem_toArray, List.getElem_cons_succ, List.getElem_cons_zero]
              refine wpAnyZ_ready (rs := [1, 12]) (by kernel_rfl) (by simp) ?_
              refine AllReadyZ.cons rfl (fun K hK => ?_) (AllReadyZ.cons rfl (fun K hK => ?_) AllReadyZ.nil)
              · try rw [if_pos (by rfl)]
                go_simp
                refine hK.out _ _ HBA.out (fun hHeld2 => ?_)
                clear hK K hHeld
                have hHeld := hHeld2
                clear hHeld2
                try simp only [Act.put, List.setIfInBounds_toArray, List.set_cons_zero, List.set_cons_succ, List.getElem_toArray, List.getElem_cons_succ, List.getElem_cons_zero]
                refine wpAnyZ_ready (rs := [8, 12]) (by kernel_rfl) (by simp) ?_
                refine AllReadyZ.cons rfl (fun K hK => ?_) (AllReadyZ.cons rfl (fun K hK => ?_) AllReadyZ.nil)
                · try rw [if_pos (by rfl)]
                  refine oper_append_k _ (.tmp 51) (.tmp 57) 26 rfl 36 i0 (.agg #[.int .i64 0, .int .i64 0]) 2 16 Try.underlying26 hinfo hz0 hz1 hz2 rfl (by decide) w2.heap.size (.slice (some ⟨w2.heap.size, 0, none⟩) 0 0) 0 [] rfl HOA.out (some ⟨g, 0, none⟩) k c2 (cellsT (d.take k)) rfl HL1.out (HS1.out _ HBA.out) (cellsT_one _) (by unfold maxLen; omega) (by omega) HBA.out.size ?_
                  intro A5 c5 w5 hown5 hgrow5 _
                  simp only [Nat.zero_add, Nat.add_zero] at hown5 ⊢
                  have HO5 : Hid (w5.ownsRow w2.heap.size 36 2 (.slice A5 k c5) k (cellsT (d.take k))) := Lib.hid (by simpa using hown5)
                  have HB5 : Hid (Below w2.heap.size w2 w5) := Lib.hid (HBA.out.grown hgrow5 HBA.out.size (fun k e => (HOA.out.lt k e).1))
                  clear hown5 hgrow5
                  refine hK.out _ _ HB5.out (fun hHeld2 => ?_)
                  clear hK K hHeld
                  have hHeld := hHeld2
                  clear hHeld2
                  try simp only [Act.put, List.setIfInBounds_toArray, List.set_cons_zero, List.set_cons_succ, List.getElem_toArray, List.getElem_cons_succ, List.getElem_cons_zero]
                  refine wpAnyZ_ready (rs := [12]) (by kernel_rfl) (by simp) ?_
                  refine AllReadyZ.cons rfl (fun K hK => ?_) AllReadyZ.nil
                  try rw [if_pos (by rfl)]
                  go_simp
                  have HO5a := Lib.hid (own_moved (p := fun _ => False) HO5.out (Below.movedNew (below_alloc w5 (.cells #[.int .i64 at_, .int .i64 id] 36))) (fun _ _ h => h))
                  have HB5a := Lib.hid (HB5.out.alloc HB5.out.size (.cells #[.int .i64 at_, .int .i64 id] 36))
                  have HT5a := Lib.hid (heap_new w5 (.cells #[.int .i64 at_, .int .i64 id] 36))
                  refine hK.out _ _ HB5a.out (fun hHeld2 => ?_)
                  clear hK K hHeld
                  have hHeld := hHeld2
                  clear hHeld2
                  try simp only [Act.put, List.setIfInBounds_toArray, List.set_cons_zero, List.set_cons_succ, List.getElem_toArray, List.getElem_cons_succ, List.getElem_cons_zero]
                  refine wpAnyZ_ready (rs := [13]) (by kernel_rfl) (by simp) ?_
                  refine AllReadyZ.cons rfl (fun K hK => ?_) AllReadyZ.nil
                  try rw [if_pos (by rfl)]
                  refine oper_append_k _ (.tmp 58) (.tmp 62) 26 rfl 36 i0 (.agg #[.int .i64 0, .int .i64 0]) 2 16 Try.underlying26 hinfo hz0 hz1 hz2 rfl (by decide) w2.heap.size (.slice A5 k c5) k (cellsT (d.take k)) rfl HO5a.out (some ⟨w5.heap.size, 0, none⟩) 1 1 [.int .i64 at_, .int .i64 id] rfl rfl (fun _ => ⟨_, rfl, cells_add HT5a.out⟩) (fun u hu => by simp at hu; rcases hu with rfl | rfl <;> rfl) (by unfold maxLen; omega) (by omega) HB5a.out.size ?_
                  intro A6 c6 w6 hown6 hgrow6 _
                  try simp only [Nat.zero_add, Nat.add_zero] at hown6 ⊢
                  have HO6 := Lib.hid hown6
                  have HB6 : Hid (Below w2.heap.size w2 w6) := Lib.hid (HB5a.out.grown hgrow6 HB5a.out.size (fun k e => (HO5a.out.lt k e).1))
                  clear hown6 hgrow6
                  refine hK.out _ _ HB6.out (fun hHeld2 => ?_)
                  clear hK K hHeld
                  have hHeld := hHeld2
                  clear hHeld2
                  try simp only [Act.put, List.setIfInBounds_toArray, List.set_cons_zero, List.set_cons_succ, List.getElem_toArray, List.getElem_cons_succ, List.getElem_cons_zero]
                  refine wpAnyZ_ready (rs := [20]) (by kernel_rfl) (by simp) ?_
                  refine AllReadyZ.cons rfl (fun K hK => ?_) AllReadyZ.nil
                  try rw [if_pos (by rfl)]
                  refine oper_append_k _ (.tmp 63) (.tmp 69) 26 rfl 36 i0 (.agg #[.int .i64 0, .int .i64 0]) 2 16 Try.underlying26 hinfo hz0 hz1 hz2 rfl (by decide) w2.heap.size (.slice A6 (k + 1) c6) (k + 1) _ rfl HO6.out (some ⟨g, k * 2, none⟩) 0 (c2 - k) [] rfl rfl (fun h => absurd h (Nat.lt_irrefl _)) (by simp) (by unfold maxLen; omega) (by omega) HB6.out.size ?_
                  intro A7 c7 w7 hown7 hgrow7 _
                  try simp only [Nat.zero_add, Nat.add_zero] at hown7 ⊢
                  have HO7 := Lib.hid hown7
                  have HB7 : Hid (Below w2.heap.size w2 w7) := Lib.hid (HB6.out.grown hgrow7 HB6.out.size (fun k e => (HO6.out.lt k e).1))
                  clear hown7 hgrow7
                  obtain ⟨b0, b1⟩ := HSt.out _ HB7.out
                  refine hK.out _ _ HB7.out (fun hHeld2 => ?_)
                  clear hK K hHeld
                  have hHeld := hHeld2
                  clear hHeld2
                  try simp only [Act.put, List.setIfInBounds_toArray, List.set_cons_zero, List.set_cons_succ, List.getElem_toArray, List.getElem_cons_succ, List.getElem_cons_zero]
                  refine wpAnyZ_ready (rs := [21]) (by kernel_rfl) (by simp) ?_
                  refine AllReadyZ.cons rfl (fun K hK => ?_) AllReadyZ.nil
                  try rw [if_pos (by rfl)]
                  go_simp
                  refine hK.out _ _ HB7.out (fun hHeld2 => ?_)
                  clear hK K hHeld
                  have hHeld := hHeld2
                  clear hHeld2
                  try simp only [Act.put, List.setIfInBounds_toArray, List.set_cons_zero, List.set_cons_succ, List.getElem_toArray, List.getElem_cons_succ, List.getElem_cons_zero]
                  refine wpAnyZ_take (i := 22) (v := ?vv150) rfl (by kernel_rfl) (by kernel_rfl) (by kernel_rfl) (fun _ _ _ h => h) (Or.inl ⟨by rfl, ?hy150⟩) hHeld ?rr150
                  case hy150 => (intro w' hSw; obtain ⟨g0, g1⟩ := HSt.out _ hSw; go_simp; try with_reducible rfl)
                  try simp only [Act.put, List.setIfInBounds_toArray, List.set_cons_zero, List.set_cons_succ, List.getElem_toArray, List.getElem_cons_succ, List.getElem_cons_zero]
                  refine wpAnyZ_ready (rs := [23]) (by kernel_rfl) (by simp) ?_
                  refine AllReadyZ.last rfl (fun K hK => ?_)
                  try rw [if_pos (by rfl)]
                  go_simp
                  refine hK.out _ _ ?_
                  clear hK K hHeld
                  try simp only [Act.put, List.setIfInBounds_toArray, List.set_cons_zero, List.set_cons_succ, List.getElem_toArray, List.getElem_cons_succ, List.getElem_cons_zero]
                  refine wpAnyZ_done (by kernel_rfl) ?_ _
                  have hln : (insP d (at_, id)).length = k + 1 := by rw [insP_len]; have := HM.out; omega
                  have HE : Hid (RefQ (w7.setCell ⟨x, 0, none⟩ (.slice A7 (k + 1) c7)) (fun k => F2 k ∨ w2.heap.size ≤ k) x (insP d (at_, id)) ∧ Moved F2 w2 (w7.setCell ⟨x, 0, none⟩ (.slice A7 (k + 1) c7))) := Lib.hid (by
                    have := ref_end (l' := insP d (at_, id)) (A5 := A7) (c5 := c7) Q1.out Q3.out HB7.out (by rw [hln, HD.out, cellsT_app, cellsT_app]; rw [List.drop_of_length_le (i := k) (l := d) (by have := HM.out; omega)]; simpa [cellsT] using HO7.out) (by rw [hln]; omega)
                    rw [hln] at this; exact this)
                  clear hln
                  go_wp2
                  go_ret
                  exact HF.out _ HE.out
                · try rw [if_pos (by rfl)]
                  go_simp
                  refine hK.out _ _ HBB.out (fun hHeld2 => ?_)
                  clear hK K hHeld
                  have hHeld := hHeld2
                  clear hHeld2
                  try simp only [Act.put, List.setIfInBounds_toArray, List.set_cons_zero, List.set_cons_succ, List.getElem_toArray, List.getElem_cons_succ, List.getElem_cons_zero]
                  refine wpAnyZ_ready (rs := [8]) (by kernel_rfl) (by simp) ?_
                  refine AllReadyZ.cons rfl (fun K hK => ?_) AllReadyZ.nil
                  try rw [if_pos (by rfl)]
                  refine oper_append_k _ (.tmp 51) (.tmp 57) 26 rfl 36 i0 (.agg #[.int .i64 0, .int .i64 0]) 2 16 Try.underlying26 hinfo hz0 hz1 hz2 rfl (by decide) w2.heap.size (.slice (some ⟨w2.heap.size, 0, none⟩) 0 0) 0 [] rfl HOB.out (some ⟨g, 0, none⟩) k c2 (cellsT (d.take k)) rfl HL1.out (HS1.out _ HBB.out) (cellsT_one _) (by unfold maxLen; omega) (by omega) HBB.out.size ?_
                  intro A5 c5 w5 hown5 hgrow5 _
                  simp only [Nat.zero_add, Nat.add_zero] at hown5 ⊢
                  have HO5 : Hid (w5.ownsRow w2.heap.size 36 2 (.slice A5 k c5) k (cellsT (d.take k))) := Lib.hid (by simpa using hown5)
                  have HB5 : Hid (Below w2.heap.size w2 w5) := Lib.hid (HBB.out.grown hgrow5 HBB.out.size (fun k e => (HOB.out.lt k e).1))
                  have HT5 := Lib.hid ((hgrow5.block (w2.heap.size + 1) (heap_lt HTB.out) (fun e => by have e : w2.heap.size + 1 = w2.heap.size := Option.some.inj e; omega)).trans HTB.out)
                  clear hown5 hgrow5
                  refine hK.out _ _ HB5.out (fun hHeld2 => ?_)
                  clear hK K hHeld
                  have hHeld := hHeld2
                  clear hHeld2
                  try simp only [Act.put, List.setIfInBounds_toArray, List.set_cons_zero, List.set_cons_succ, List.getElem_toArray, List.getElem_cons_succ, List.getElem_cons_zero]
                  refine wpAnyZ_ready (rs := [13]) (by kernel_rfl) (by simp) ?_
                  refine AllReadyZ.cons rfl (fun K hK => ?_) AllReadyZ.nil
                  try rw [if_pos (by rfl)]
                  refine oper_append_k _ (.tmp 58) (.tmp 62) 26 rfl 36 i0 (.agg #[.int .i64 0, .int .i64 0]) 2 16 Try.underlying26 hinfo hz0 hz1 hz2 rfl (by decide) w2.heap.size (.slice A5 k c5) k (cellsT (d.take k)) rfl HO5.out (some ⟨w2.heap.size + 1, 0, none⟩) 1 1 [.int .i64 at_, .int .i64 id] rfl rfl (fun _ => ⟨_, rfl, cells_add HT5.out⟩) (fun u hu => by simp at hu; rcases hu with rfl | rfl <;> rfl) (by unfold maxLen; omega) (by omega) HB5.out.size ?_
                  intro A6 c6 w6 hown6 hgrow6 _
                  try simp only [Nat.zero_add, Nat.add_zero] at hown6 ⊢
                  have HO6 := Lib.hid hown6
                  have HB6 : Hid (Below w2.heap.size w2 w6) := Lib.hid (HB5.out.grown hgrow6 HB5.out.size (fun k e => (HO5.out.lt k e).1))
                  clear hown6 hgrow6
                  refine hK.out _ _ HB6.out (fun hHeld2 => ?_)
                  clear hK K hHeld
                  have hHeld := hHeld2
                  clear hHeld2
                  try simp only [Act.put, List.setIfInBounds_toArray, List.set_cons_zero, List.set_cons_succ, List.getElem_toArray, List.getElem_cons_succ, List.getElem_cons_zero]
                  refine wpAnyZ_ready (rs := [20]) (by kernel_rfl) (by simp) ?_
                  refine AllReadyZ.cons rfl (fun K hK => ?_) AllReadyZ.nil
                  try rw [if_pos (by rfl)]
                  refine oper_append_k _ (.tmp 63) (.tmp 69) 26 rfl 36 i0 (.agg #[.int .i64 0, .int .i64 0]) 2 16 Try.underlying26 hinfo hz0 hz1 hz2 rfl (by decide) w2.heap.size (.slice A6 (k + 1) c6) (k + 1) _ rfl HO6.out (some ⟨g, k * 2, none⟩) 0 (c2 - k) [] rfl rfl (fun h => absurd h (Nat.lt_irrefl _)) (by simp) (by unfold maxLen; omega) (by omega) HB6.out.size ?_
                  intro A7 c7 w7 hown7 hgrow7 _
                  try simp only [Nat.zero_add, Nat.add_zero] at hown7 ⊢
                  have HO7 := Lib.hid hown7
                  have HB7 : Hid (Below w2.heap.size w2 w7) := Lib.hid (HB6.out.grown hgrow7 HB6.out.size (fun k e => (HO6.out.lt k e).1))
                  clear hown7 hgrow7
                  obtain ⟨b0, b1⟩ := HSt.out _ HB7.out
                  refine hK.out _ _ HB7.out (fun hHeld2 => ?_)
                  clear hK K hHeld
                  have hHeld := hHeld2
                  clear hHeld2
                  try simp only [Act.put, List.setIfInBounds_toArray, List.set_cons_zero, List.set_cons_succ, List.getElem_toArray, List.getElem_cons_succ, List.getElem_cons_zero]
                  refine wpAnyZ_ready (rs := [21]) (by kernel_rfl) (by simp) ?_
                  refine AllReadyZ.cons rfl (fun K hK => ?_) AllReadyZ.nil
                  try rw [if_pos (by rfl)]
                  go_simp
                  refine hK.out _ _ HB7.out (fun hHeld2 => ?_)
                  clear hK K hHeld
                  have hHeld := hHeld2
                  clear hHeld2
                  try simp only [Act.put, List.setIfInBounds_toArray, List.set_cons_zero, List.set_cons_succ, List.getElem_toArray, List.getElem_cons_succ, List.getElem_cons_zero]
                  refine wpAnyZ_take (i := 22) (v := ?vv151) rfl (by kernel_rfl) (by kernel_rfl) (by kernel_rfl) (fun _ _ _ h => h) (Or.inl ⟨by rfl, ?hy151⟩) hHeld ?rr151
                  case hy151 => (intro w' hSw; obtain ⟨g0, g1⟩ := HSt.out _ hSw; go_simp; try with_reducible rfl)
                  try simp only [Act.put, List.setIfInBounds_toArray, List.set_cons_zero, List.set_cons_succ, List.getElem_toArray, List.getElem_cons_succ, List.getElem_cons_zero]
                  refine wpAnyZ_ready (rs := [23]) (by kernel_rfl) (by simp) ?_
                  refine AllReadyZ.last rfl (fun K hK => ?_)
                  try rw [if_pos (by rfl)]
                  go_simp
                  refine hK.out _ _ ?_
                  clear hK K hHeld
                  try simp only [Act.put, List.setIfInBounds_toArray, List.set_cons_zero, List.set_cons_succ, List.getElem_toArray, List.getElem_cons_succ, List.getElem_cons_zero]
                  refine wpAnyZ_done (by kernel_rfl) ?_ _
                  have hln : (insP d (at_, id)).length = k + 1 := by rw [insP_len]; have := HM.out; omega
                  have HE : Hid (RefQ (w7.setCell ⟨x, 0, none⟩ (.slice A7 (k + 1) c7)) (fun k => F2 k ∨ w2.heap.size ≤ k) x (insP d (at_, id)) ∧ Moved F2 w2 (w7.setCell ⟨x, 0, none⟩ (.slice A7 (k + 1) c7))) := Lib.hid (by
                    have := ref_end (l' := insP d (at_, id)) (A5 := A7) (c5 := c7) Q1.out Q3.out HB7.out (by rw [hln, HD.out, cellsT_app, cellsT_app]; rw [List.drop_of_length_le (i := k) (l := d) (by have := HM.out; omega)]; simpa [cellsT] using HO7.out) (by rw [hln]; omega)
                    rw [hln] at this; exact this)
                  clear hln
                  go_wp2
                  go_ret
                  exact HF.out _ HE.out
              · try rw [if_pos (by rfl)]
                go_simp
                refine hK.out _ _ HBC.out (fun hHeld2 => ?_)
                clear hK K hHeld
                have hHeld := hHeld2
                clear hHeld2
                try simp only [Act.put, List.setIfInBounds_toArray, List.set_cons_zero, List.set_cons_succ, List.getElem_toArray, List.getElem_cons_succ, List.getElem_cons_zero]
                refine wpAnyZ_ready (rs := [1]) (by kernel_rfl) (by simp) ?_
                refine AllReadyZ.cons rfl (fun K hK => ?_) AllReadyZ.nil
                try rw [if_pos (by rfl)]
                go_simp
                refine hK.out _ _ HBD.out (fun hHeld2 => ?_)
                clear hK K hHeld
                have hHeld := hHeld2
                clear hHeld2
                try simp only [Act.put, List.setIfInBounds_toArray, List.set_cons_zero, List.set_cons_succ, List.getElem_toArray, List.getElem_cons_succ, List.getElem_cons_zero]
                refine wpAnyZ_ready (rs := [8]) (by kernel_rfl) (by simp) ?_
                refine AllReadyZ.cons rfl (fun K hK => ?_) AllReadyZ.nil
                try rw [if_pos (by rfl)]
                refine oper_append_k _ (.tmp 51) (.tmp 57) 26 rfl 36 i0 (.agg #[.int .i64 0, .int .i64 0]) 2 16 Try.underlying26 hinfo hz0 hz1 hz2 rfl (by decide) w2.heap.size (.slice (some ⟨w2.heap.size + 1, 0, none⟩) 0 0) 0 [] rfl HOD.out (some ⟨g, 0, none⟩) k c2 (cellsT (d.take k)) rfl HL1.out (HS1.out _ HBD.out) (cellsT_one _) (by unfold maxLen; omega) (by omega) HBD.out.size ?_
                intro A5 c5 w5 hown5 hgrow5 _
                simp only [Nat.zero_add, Nat.add_zero] at hown5 ⊢
                have HO5 : Hid (w5.ownsRow w2.heap.size 36 2 (.slice A5 k c5) k (cellsT (d.take k))) := Lib.hid (by simpa using hown5)
                have HB5 : Hid (Below w2.heap.size w2 w5) := Lib.hid (HBD.out.grown hgrow5 HBD.out.size (fun k e => (HOD.out.lt k e).1))
                have HT5 := Lib.hid ((hgrow5.block w2.heap.size (heap_lt HTD.out) (fun e => by have e : w2.heap.size = w2.heap.size + 1 := Option.some.inj e; omega)).trans HTD.out)
                clear hown5 hgrow5
                refine hK.out _ _ HB5.out (fun hHeld2 => ?_)
                clear hK K hHeld
                have hHeld := hHeld2
                clear hHeld2
                try simp only [Act.put, List.setIfInBounds_toArray, List.set_cons_zero, List.set_cons_succ, List.getElem_toArray, List.getElem_cons_succ, List.getElem_cons_zero]
                refine wpAnyZ_ready (rs := [13]) (by kernel_rfl) (by simp) ?_
                refine AllReadyZ.cons rfl (fun K hK => ?_) AllReadyZ.nil
                try rw [if_pos (by rfl)]
                refine oper_append_k _ (.tmp 58) (.tmp 62) 26 rfl 36 i0 (.agg #[.int .i64 0, .int .i64 0]) 2 16 Try.underlying26 hinfo hz0 hz1 hz2 rfl (by decide) w2.heap.size (.slice A5 k c5) k (cellsT (d.take k)) rfl HO5.out (some ⟨w2.heap.size, 0, none⟩) 1 1 [.int .i64 at_, .int .i64 id] rfl rfl (fun _ => ⟨_, rfl, cells_add HT5.out⟩) (fun u hu => by simp at hu; rcases hu with rfl | rfl <;> rfl) (by unfold maxLen; omega) (by omega) HB5.out.size ?_
                intro A6 c6 w6 hown6 hgrow6 _
                try simp only [Nat.zero_add, Nat.add_zero] at hown6 ⊢
                have HO6 := Lib.hid hown6
                have HB6 : Hid (Below w2.heap.size w2 w6) := Lib.hid (HB5.out.grown hgrow6 HB5.out.size (fun k e => (HO5.out.lt k e).1))
                clear hown6 hgrow6
                refine hK.out _ _ HB6.out (fun hHeld2 => ?_)
                clear hK K hHeld
                have hHeld := hHeld2
                clear hHeld2
                try simp only [Act.put, List.setIfInBounds_toArray, List.set_cons_zero, List.set_cons_succ, List.getElem_toArray, List.getElem_cons_succ, List.getElem_cons_zero]
                refine wpAnyZ_ready (rs := [20]) (by kernel_rfl) (by simp) ?_
                refine AllReadyZ.cons rfl (fun K hK => ?_) AllReadyZ.nil
                try rw [if_pos (by rfl)]
                refine oper_append_k _ (.tmp 63) (.tmp 69) 26 rfl 36 i0 (.agg #[.int .i64 0, .int .i64 0]) 2 16 Try.underlying26 hinfo hz0 hz1 hz2 rfl (by decide) w2.heap.size (.slice A6 (k + 1) c6) (k + 1) _ rfl HO6.out (some ⟨g, k * 2, none⟩) 0 (c2 - k) [] rfl rfl (fun h => absurd h (Nat.lt_irrefl _)) (by simp) (by unfold maxLen; omega) (by omega) HB6.out.size ?_
                intro A7 c7 w7 hown7 hgrow7 _
                try simp only [Nat.zero_add, Nat.add_zero] at hown7 ⊢
                have HO7 := Lib.hid hown7
                have HB7 : Hid (Below w2.heap.size w2 w7) := Lib.hid (HB6.out.grown hgrow7 HB6.out.size (fun k e => (HO6.out.lt k e).1))
                clear hown7 hgrow7
                obtain ⟨b0, b1⟩ := HSt.out _ HB7.out
                refine hK.out _ _ HB7.out (fun hHeld2 => ?_)
                clear hK K hHeld
                have hHeld := hHeld2
                clear hHeld2
                try simp only [Act.put, List.setIfInBounds_toArray, List.set_cons_zero, List.set_cons_succ, List.getElem_toArray, List.getElem_cons_succ, List.getElem_cons_zero]
                refine wpAnyZ_ready (rs := [21]) (by kernel_rfl) (by simp) ?_
                refine AllReadyZ.cons rfl (fun K hK => ?_) AllReadyZ.nil
                try rw [if_pos (by rfl)]
                go_simp
                refine hK.out _ _ HB7.out (fun hHeld2 => ?_)
                clear hK K hHeld
                have hHeld := hHeld2
                clear hHeld2
                try simp only [Act.put, List.setIfInBounds_toArray, List.set_cons_zero, List.set_cons_succ, List.getElem_toArray, List.getElem_cons_succ, List.getElem_cons_zero]
                refine wpAnyZ_take (i := 22) (v := ?vv152) rfl (by kernel_rfl) (by kernel_rfl) (by kernel_rfl) (fun _ _ _ h => h) (Or.inl ⟨by rfl, ?hy152⟩) hHeld ?rr152
                case hy152 => (intro w' hSw; obtain ⟨g0, g1⟩ := HSt.out _ hSw; go_simp; try with_reducible rfl)
                try simp only [Act.put, List.setIfInBounds_toArray, List.set_cons_zero, List.set_cons_succ, List.getElem_toArray, List.getElem_cons_succ, List.getElem_cons_zero]
                refine wpAnyZ_ready (rs := [23]) (by kernel_rfl) (by simp) ?_
                refine AllReadyZ.last rfl (fun K hK => ?_)
                try rw [if_pos (by rfl)]
                go_simp
                refine hK.out _ _ ?_
                clear hK K hHeld
                try simp only [Act.put, List.setIfInBounds_toArray, List.set_cons_zero, List.set_cons_succ, List.getElem_toArray, List.getElem_cons_succ, List.getElem_cons_zero]
                refine wpAnyZ_done (by kernel_rfl) ?_ _
                have hln : (insP d (at_, id)).length = k + 1 := by rw [insP_len]; have := HM.out; omega
                have HE : Hid (RefQ (w7.setCell ⟨x, 0, none⟩ (.slice A7 (k + 1) c7)) (fun k => F2 k ∨ w2.heap.size ≤ k) x (insP d (at_, id)) ∧ Moved F2 w2 (w7.setCell ⟨x, 0, none⟩ (.slice A7 (k + 1) c7))) := Lib.hid (by
                  have := ref_end (l' := insP d (at_, id)) (A5 := A7) (c5 := c7) Q1.out Q3.out HB7.out (by rw [hln, HD.out, cellsT_app, cellsT_app]; rw [List.drop_of_length_le (i := k) (l := d) (by have := HM.out; omega)]; simpa [cellsT] using HO7.out) (by rw [hln]; omega)
                  rw [hln] at this; exact this)
                clear hln
                go_wp2
                go_ret
                exact HF.out _ HE.out
end
end Go.Proofs.Ytllkallodgbpmaa
